/- A text read as the document says, as a call. -/
import Derived.Test.YtdodfmgbjfhnpaaDoorSpoil
import Derived.Test.YtdodfmgbjfhnpaaDoorRPar
namespace Lra
/-- The steps, the error and the line that are told. -/
def stepsR : Except Nat (List Stp) → List Stp
  | .ok ss => ss
  | .error _ => []
def errR : Except Nat (List Stp) → Int
  | .ok _ => 0
  | .error _ => 40
def lineR : Except Nat (List Stp) → Int
  | .ok _ => 0
  | .error k => k
theorem small_R (s : List Int) : (stepsR (parse s)).length ≤ s.length ∧ items (stepsR (parse s)) ≤ s.length ∧ (stepsR (parse s)).all may = true := by
  cases h : parse s with
  | error k => exact ⟨Nat.zero_le _, Nat.zero_le _, rfl⟩
  | ok ss => exact ⟨(parse_small h).1, (parse_small h).2, (text_parse h).2⟩
end Lra
namespace Go.Proofs.YtdodfmgbjfhnpaaDoor
open Go.RowKit
set_option linter.unusedVariables false
set_option linter.unusedSimpArgs false

theorem POut.told {w w' : World} {r : Except Nat (List Lra.Stp)} {e : Ending} {n : Nat} (h : POut w r e w') (hn : (Lra.stepsR r).length = n) :
    ∃ a c qs, e = .returned (.tuple #[.slice a n c, .int .i64 (Lra.errR r), .int .i64 (Lra.lineR r)]) ∧ Mem w.heap.size w' (.slice a n c) qs ∧ qs.map (·.1) = Lra.stepsR r ∧ Below w.heap.size w w' := by
  rcases h with ⟨k, rfl, he, hb⟩ | ⟨qs, v, rfl, he, hm, hb⟩
  · have : n = 0 := hn.symm
    subst this
    exact ⟨none, 0, [], he, Mem.nil _ _, rfl, hb⟩
  · obtain ⟨a, c, rfl⟩ := own_slc hm.row
    have hl : qs.length = n := by rw [← hn]; simp [Lra.stepsR]
    rw [hl] at he hm
    exact ⟨a, c, qs, he, hm, rfl, hb⟩
theorem Mem.to {n k c : Nat} {W : World} {a : Option Addr} {qs : List Q} {ss : List Lra.Stp} (h : Mem n W (.slice a k c) qs) (hq : qs.map (·.1) = ss) (hf : ∀ s ∈ ss, Fits s) : Steps W a ss := by
  obtain ⟨a', c', e, hs⟩ := h.steps (fun q hm => hf _ (by rw [← hq]; exact List.mem_map_of_mem hm))
  cases e
  rwa [hq] at hs

set_option maxRecDepth 100000 in
set_option maxHeartbeats 8000000 in
theorem law4 (S : ByteArray) (w : World) (hT : Tab w.heap.size w) :
    Calls Tryd.prog 4 #[.string S] w fun e w' => e = .returned (.bool true) ∧ Below w.heap.size w w' := by
  have CW := hid (fun (W : World) (hW : Below w.heap.size w W) => (works10 W (hT.on hW hW.size)).mono (R' := fun e w' => e = .returned (.bool true) ∧ Below w.heap.size w w') fun e w' q => ⟨q.1, hW.trans (q.2.mono hW.size)⟩)
  by_cases hS : S.size ≤ 6000
  case neg =>
    have hS' : (6000 : Int) < S.size := by omega
    clear hT hS
    go_enter Tryd.func4, Tryd.ntmps4
    go_wp2_with (go_at_call 10; refine (CW.out _ (Below.refl _ _)).mono ?_; rintro e W9 ⟨rfl, hb9⟩; have HB9 := hid hb9; clear hb9)
    go_ret
    exact ⟨rfl, HB9.out⟩
  have hS' : ¬ (6000 : Int) < S.size := by omega
  obtain ⟨s1, s2, s3⟩ := Lra.small_R (Lra.ints S)
  rw [Lra.ints_len] at s1 s2
  obtain ⟨r, hr⟩ : ∃ r, Lra.parse (Lra.ints S) = r := ⟨_, rfl⟩
  rw [hr] at s1 s2 s3
  obtain ⟨n, hn⟩ : ∃ n, (Lra.stepsR r).length = n := ⟨_, rfl⟩
  have C15 := hid (fun (W : World) => (parse15 S W (by omega)).mono fun e w' q => POut.told (by rw [hr] at q; exact q) hn)
  have C16 := hid (fun (W : World) => (parse16 S W (by omega)).mono fun e w' q => POut.told (by rw [hr] at q; exact q) hn)
  generalize Lra.errR r = E at *
  generalize Lra.lineR r = K at *
  generalize Lra.stepsR r = ss at *
  have hfit : ∀ s ∈ ss, Fits s := fun s hs => by
    have := Lra.item_le hs
    exact Lra.fits_of (List.all_eq_true.1 s3 _ hs) (by omega) (by omega)
  have hlen : ∀ (qs : List Q), qs.map (·.1) = ss → qs.length ≤ 1000000 ∧ ∀ q ∈ qs, q.1.lits.length ≤ 1000000 ∧ q.1.hints.length ≤ 1000000 := fun qs hq => by
    refine ⟨?_, fun q hm => ?_⟩
    · have := congrArg List.length hq
      rw [List.length_map] at this
      omega
    · have := Lra.item_le (ss := ss) (s := q.1) (by rw [← hq]; exact List.mem_map_of_mem hm)
      omega
  have C14 := hid (fun (W : World) (a b : Option Addr) (c d : Nat) (hs : Steps W a ss) (ht : Steps W b ss) => (same14 a b n c n d ss ss W hn hn (by omega) (by omega) hs ht).mono (R' := fun e w' => e = .returned (.bool true) ∧ Below W.heap.size W w') fun e w' q => ⟨by have := q.1; simpa using this, q.2⟩)
  have C14b := C14
  have C15b := C15
  have FIT := hid hfit
  have LEN := hid hlen
  have e1 : (E != E) = false := by simp
  have e2 : (K != K) = false := by simp
  clear hT hS s1 s2 s3 hr hn hfit hlen
  go_enter Tryd.func4, Tryd.ntmps4
  go_wp2_with (first
    | (go_at_call 15; refine (C15.out _).mono ?_; clear C15; rintro e W1 ⟨a1, c1, q1, rfl, hm1, hq1, hb1⟩; have HB1 := hid hb1; have HM1 := hid hm1; have HQ1 := hid hq1; clear hb1 hm1 hq1)
    | (go_at_call 16; refine (C16.out _).mono ?_; clear C16; rintro e W2 ⟨a2, c2, q2, rfl, hm2, hq2, hb2⟩; have HB2 := hid hb2; have HM2 := hid hm2; have HQ2 := hid hq2; clear hb2 hm2 hq2)
    | (go_at_call 14; refine (C14.out _ _ _ _ _ ((HM1.out.below HB2.out).to HQ1.out FIT.out) (HM2.out.to HQ2.out FIT.out)).mono ?_; clear C14; rintro e W3 ⟨rfl, hb3⟩; have HB3 := hid hb3; clear hb3)
    | (go_at_call 17; refine (spoil17 w.heap.size W1 W3 _ q1 HM1.out (HB2.out.trans (HB3.out.mono HB2.out.size)) (LEN.out _ HQ1.out).1 (LEN.out _ HQ1.out).2).mono ?_
       rintro e W4 ⟨rfl, ht4⟩
       have HB4 := hid (ht4.below (HB1.out.trans ((HB2.out.trans (HB3.out.mono HB2.out.size)).mono HB1.out.size)))
       have HM4 := hid (ht4.mem (HM2.out.below HB3.out))
       clear ht4)
    | (go_at_call 15; refine (C15b.out _).mono ?_; clear C15b; rintro e W5 ⟨a5, c5, q5, rfl, hm5, hq5, hb5⟩; have HB5 := hid hb5; have HM5 := hid hm5; have HQ5 := hid hq5; clear hb5 hm5 hq5)
    | (go_at_call 14; refine (C14b.out _ _ _ _ _ (HM5.out.to HQ5.out FIT.out) ((HM4.out.below HB5.out).to HQ2.out FIT.out)).mono ?_; clear C14b; rintro e W6 ⟨rfl, hb6⟩; have HB6 := hid hb6; clear hb6)
    | (go_at_call 10; refine (CW.out _ (HB4.out.trans ((HB5.out.trans (HB6.out.mono HB5.out.size)).mono HB4.out.size))).mono ?_; rintro e W9 ⟨rfl, hb9⟩; have HB9 := hid hb9; clear hb9))
  go_ret
  exact ⟨rfl, HB9.out⟩
end Go.Proofs.YtdodfmgbjfhnpaaDoor
