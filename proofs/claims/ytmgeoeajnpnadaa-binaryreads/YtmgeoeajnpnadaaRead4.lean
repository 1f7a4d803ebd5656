/- Bytes read as the document says, as a call. -/
import Derived.Test.YtmgeoeajnpnadaaSpoil
import Derived.Test.YtmgeoeajnpnadaaRPar
import Derived.Test.YtmgeoeajnpnadaaTell
namespace Bin
/-- The steps, the error and the place that are told. -/
def stepsR (ss : List Lra.Stp) (rest : List Int) : List Lra.Stp := if rest = [] then ss else []
def errR (rest : List Int) : Int := if rest = [] then 0 else 50
def placeR (ss : List Lra.Stp) (rest : List Int) : Int := if rest = [] then 0 else ((text ss).length : Int)
theorem small_R {bs : List Int} {ss : List Lra.Stp} {rest : List Int} (h : Says bs ss rest) : (stepsR ss rest).length ≤ bs.length ∧ Lra.items (stepsR ss rest) ≤ bs.length ∧ (stepsR ss rest).all Lra.may = true := by
  have := h.small.1
  unfold stepsR
  split
  · exact ⟨by omega, by omega, h.may⟩
  · exact ⟨Nat.zero_le _, Nat.zero_le _, rfl⟩
end Bin
namespace Go.Proofs.Ytmgeoeajnpnadaa
open Go.RowKit
set_option linter.unusedVariables false
set_option linter.unusedSimpArgs false

theorem POut.told {w w' : World} {bs : List Int} {ss : List Lra.Stp} {rest : List Int} {e : Ending} {n : Nat} (h : POut w bs e w') (hs : Bin.Says bs ss rest) (hn : (Bin.stepsR ss rest).length = n) :
    ∃ a c qs, e = .returned (.tuple #[.slice a n c, .int .i64 (Bin.errR rest), .int .i64 (Bin.placeR ss rest)]) ∧ Mem w.heap.size w' (.slice a n c) qs ∧ qs.map (·.1) = Bin.stepsR ss rest ∧ Below w.heap.size w w' := by
  by_cases hr : rest = []
  · subst hr
    obtain ⟨qs, v, hq, he, hm, hb⟩ := h.good hs
    have e1 : Bin.stepsR ss [] = ss := by unfold Bin.stepsR; rw [if_pos rfl]
    have e2 : Bin.errR [] = 0 := rfl
    have e3 : Bin.placeR ss [] = 0 := by unfold Bin.placeR; rw [if_pos rfl]
    rw [e1] at hn
    rw [e1, e2, e3]
    obtain ⟨a, c, rfl⟩ := own_slc hm.row
    have hl : qs.length = n := by rw [← hn, ← hq]; simp
    rw [hl] at he hm
    exact ⟨a, c, qs, he, hm, hq, hb⟩
  · obtain ⟨he, hb⟩ := h.bad hs hr
    have e1 : Bin.stepsR ss rest = [] := by unfold Bin.stepsR; rw [if_neg hr]
    have e2 : Bin.errR rest = 50 := by unfold Bin.errR; rw [if_neg hr]
    have e3 : Bin.placeR ss rest = ((Bin.text ss).length : Int) := by unfold Bin.placeR; rw [if_neg hr]
    rw [e1] at hn
    rw [e1, e2, e3]
    have : n = 0 := hn.symm
    subst this
    exact ⟨none, 0, [], he, Mem.nil _ _, rfl, hb⟩
theorem Mem.to {n k c : Nat} {W : World} {a : Option Addr} {qs : List Q} {ss : List Lra.Stp} (h : Mem n W (.slice a k c) qs) (hq : qs.map (·.1) = ss) (hf : ∀ s ∈ ss, Fits s) : Steps W a ss := by
  obtain ⟨a', c', e, hs⟩ := h.steps (fun q hm => hf _ (by rw [← hq]; exact List.mem_map_of_mem hm))
  cases e
  rwa [hq] at hs

set_option maxRecDepth 100000 in
set_option maxHeartbeats 8000000 in
theorem law4 (a : Option Addr) (n c : Nat) (bs : List Int) (w : World) (hn : bs.length = n) (hc : n ≤ c) (hm : c ≤ 9223372036854775807) (h : Bts w a bs) :
    Calls Try.prog 4 #[.slice a n c] w fun e w' => e = .returned (.bool true) ∧ Below w.heap.size w w' := by
  have CW := hid (worksB w)
  by_cases hS : n ≤ 6000
  case neg =>
    have hS' : (6000 : Int) < n := by omega
    clear hS h hc hm hn
    go_enter Try.func4, Try.ntmps4
    go_wp2_with (go_at_call 9; refine (CW.out _ (Below.refl _ _)).mono ?_; rintro e W9 ⟨rfl, hb9⟩; have HB9 := hid hb9; clear hb9)
    go_ret
    exact ⟨rfl, HB9.out⟩
  have hS' : ¬ (6000 : Int) < n := by omega
  obtain ⟨ss0, rest, hsays⟩ := Bin.says_ex _ bs (Nat.le_refl _) h.byt
  obtain ⟨s1, s2, s3⟩ := Bin.small_R hsays
  obtain ⟨k, hk⟩ : ∃ k, (Bin.stepsR ss0 rest).length = k := ⟨_, rfl⟩
  have cva := to_str w a n c bs h hn
  obtain ⟨cap, w1, cvb, g1, g2, g3, g4, g5⟩ := to_bytes w bs h.byt (by omega)
  rw [hn] at cvb g1
  have CVC := hid (fun (W : World) (hW : Below w1.heap.size w1 W) => (show (convert 26 9 (.slice (some ⟨w.heap.size, 0, none⟩) n cap)).run Try.prog W = .ok (.string (strOfNums bs)) W from to_str W _ n cap bs (g4.below hW) hn))
  have CVD := hid (fun (W : World) (hW : Below w1.heap.size w1 W) => (show (convert 26 9 (.slice a n c)).run Try.prog W = .ok (.string (strOfNums bs)) W from to_str W a n c bs (h.below (g3.trans (hW.mono (by omega)))) hn))
  generalize strOfNums bs = SB at cva cvb CVC CVD
  have heq : (SB.toList == SB.toList) = true := by simp
  have C14 := hid (fun (W : World) (hb : Bts W (some ⟨w.heap.size, 0, none⟩) bs) => (parse14 (some ⟨w.heap.size, 0, none⟩) n cap bs W hn hb g1 g2 (by omega)).mono fun e w' q => POut.told q hsays hk)
  have C15 := hid (fun (W : World) (hW : Below w1.heap.size w1 W) => (parse15 a n c bs W hn (h.below (g3.trans (hW.mono (by omega)))) (by omega)).mono fun e w' q => POut.told q hsays hk)
  generalize Bin.errR rest = E at *
  generalize Bin.placeR ss0 rest = K at *
  generalize Bin.stepsR ss0 rest = ss at *
  have hfit : ∀ s ∈ ss, Fits s := fun s hs => by
    have := Lra.item_le hs
    exact Lra.fits_of (List.all_eq_true.1 s3 _ hs) (by omega) (by omega)
  have hlen : ∀ (qs : List Q), qs.map (·.1) = ss → qs.length ≤ 1000000 ∧ ∀ q ∈ qs, q.1.lits.length ≤ 1000000 ∧ q.1.hints.length ≤ 1000000 := fun qs hq => by
    refine ⟨?_, fun q hm => ?_⟩
    · have := congrArg List.length hq
      rw [List.length_map] at this
      omega
    · have := Lra.item_le (ss := ss) (s := q.1) (by rw [← hq]; exact List.mem_map_of_mem hm)
      omega
  have C13 := hid (fun (W : World) (a b : Option Addr) (c d : Nat) (hs : Steps W a ss) (ht : Steps W b ss) => (same13 a b k c k d ss ss W hk hk (by omega) (by omega) hs ht).mono (R' := fun e w' => e = .returned (.bool true) ∧ Below W.heap.size W w') fun e w' q => ⟨by have := q.1; simpa using this, q.2⟩)
  have C13b := C13
  have K14 := hid (C14.out w1 g4)
  have HG4 := hid g4
  have HG3 := hid g3
  have HSZ := hid (show w.heap.size < w1.heap.size by omega)
  have FIT := hid hfit
  have LEN := hid hlen
  have e1 : (E != E) = false := by simp
  have e2 : (K != K) = false := by simp
  clear hS s1 s2 s3 hk hn hfit hlen g1 g2 g3 g4 g5 h hc hm hsays
  go_enter Try.func4, Try.ntmps4
  go_wp2_with (first
    | (go_at_call 14; refine K14.out.mono ?_; clear K14; rintro e W1 ⟨a1, c1, q1, rfl, hm1, hq1, hb1⟩; have HB1 := hid hb1; have HM1 := hid hm1; have HQ1 := hid hq1; clear hb1 hm1 hq1)
    | (go_at_call 15; refine (C15.out _ HB1.out).mono ?_; clear C15; rintro e W2 ⟨a2, c2, q2, rfl, hm2, hq2, hb2⟩; have HB2 := hid hb2; have HM2 := hid hm2; have HQ2 := hid hq2; clear hb2 hm2 hq2)
    | (go_at_call 13; refine (C13.out _ _ _ _ _ ((HM1.out.below HB2.out).to HQ1.out FIT.out) (HM2.out.to HQ2.out FIT.out)).mono ?_; clear C13; rintro e W3 ⟨rfl, hb3⟩; have HB3 := hid hb3
       have cvc := CVC.out W3 (HB1.out.trans ((HB2.out.trans (hb3.mono HB2.out.size)).mono HB1.out.size))
       have cvd := CVD.out W3 (HB1.out.trans ((HB2.out.trans (hb3.mono HB2.out.size)).mono HB1.out.size))
       clear hb3 CVC CVD)
    | (go_at_call 16; refine (spoil16 w1.heap.size W1 W3 _ q1 HM1.out (HB2.out.trans (HB3.out.mono HB2.out.size)) (LEN.out _ HQ1.out).1 (LEN.out _ HQ1.out).2).mono ?_
       rintro e W4 ⟨rfl, ht4⟩
       have hb14 := ht4.below (HB1.out.trans ((HB2.out.trans (HB3.out.mono HB2.out.size)).mono HB1.out.size))
       have HB4 := hid (HG3.out.trans (hb14.mono HG3.out.size))
       have HM4 := hid (ht4.mem (HM2.out.below HB3.out))
       have K14b := hid (C14.out W4 (HG4.out.below hb14))
       clear ht4 hb14 C14)
    | (go_at_call 14; refine K14b.out.mono ?_; clear K14b; rintro e W5 ⟨a5, c5, q5, rfl, hm5, hq5, hb5⟩; have HB5 := hid hb5; have HM5 := hid hm5; have HQ5 := hid hq5; clear hb5 hm5 hq5)
    | (go_at_call 13; refine (C13b.out _ _ _ _ _ (HM5.out.to HQ5.out FIT.out) ((HM4.out.below HB5.out).to HQ2.out FIT.out)).mono ?_; clear C13b; rintro e W6 ⟨rfl, hb6⟩; have HB6 := hid hb6; clear hb6)
    | (go_at_call 9; refine (CW.out _ (HB4.out.trans ((HB5.out.trans (HB6.out.mono HB5.out.size)).mono HB4.out.size))).mono ?_; rintro e W9 ⟨rfl, hb9⟩; have HB9 := hid hb9; clear hb9))
  go_ret
  exact ⟨rfl, HB9.out⟩
end Go.Proofs.Ytmgeoeajnpnadaa
