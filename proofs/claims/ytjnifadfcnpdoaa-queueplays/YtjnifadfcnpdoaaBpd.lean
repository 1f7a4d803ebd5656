/- bumped: a queue behind the Bumps of a row of calls. -/
import Derived.Test.YtjnifadfcnpdoaaOpa
namespace Go.Proofs.Ytjnifadfcnpdoaa
open Go.RowKit Go.Maps
set_option linter.unusedVariables false
set_option maxRecDepth 100000

abbrev Qst := List Nat × List Int
def stepB (n : Nat) (p : Qst) (s : Opr) : Qst := if s.kind % 6 < 3 then (Qp.bL n s.l p.1, Qp.bS n s.l p.1 p.2) else p
def runB (n : Nat) (ss : List Opr) : Qst := ss.foldl (stepB n) (Qp.rowN n, Qp.stN n n)
theorem runB_snoc (n : Nat) {ss : List Opr} {k : Nat} (hk : k < ss.length) : runB n (ss.take (k + 1)) = stepB n (runB n (ss.take k)) ss[k] := by
  unfold runB
  rw [List.take_succ_eq_append_getElem hk, List.foldl_append]
  rfl
def BpdOut (n : Nat) (ss : List Opr) (W : World) (e : Ending) (w' : World) : Prop :=
  ∃ A : Adr, e = .returned (.pointer (some ⟨A.qb, 0, none⟩)) ∧ Qn W.heap.size A n (1048577 * 101) (runB n ss).1 (runB n ss).2 w' ∧ Below W.heap.size W w'
def few (ss : List Opr) : Prop := ss.length ≤ 100 ∧ ∀ s ∈ ss, s.l.length ≤ 4000 ∧ s.set.length ≤ 4000
theorem few_of {n : Int} {ss : List Opr} (h : lrg n ss = false) : few ss := by
  obtain ⟨_, h1, h2⟩ := lrg_few h
  refine ⟨h1, fun s hs => ?_⟩
  have := cnt_mem hs
  omega
theorem bumped20_no (n : Int) {a : Option Addr} {l c : Nat} {W : World} (hn : n < 0 ∨ 1048576 < n) :
    Calls Try.prog 20 #[.int .i64 n, .slice a l c] W fun e w' => e = .returned (.pointer none) ∧ w' = W := by
  have C := hid (new10_no n W hn)
  go_enter Try.func20, Try.ntmps20
  go_wp2_with (fail)
  go_at_call 10
  refine C.out.mono ?_
  rintro e w1 ⟨rfl, hw1⟩
  rw [hw1]
  clear hw1 C
  go_wp2_with (fail)
  go_loopw [7] (fun i wr => i = .int .i64 0 ∧ wr = W) (fun _ _ => 0)
  case atStart => exact ⟨rfl, rfl⟩
  case round =>
    obtain ⟨rfl, hw⟩ := hrel
    rw [hw]
    clear hw
    by_cases h0 : (0 : Int) < l
    · go_wp2
      go_ret
      exact ⟨rfl, rfl⟩
    · go_wp2
      go_ret
      exact ⟨rfl, rfl⟩
theorem mod6 {x : Int} (h : 0 ≤ x ∧ x ≤ 255) : IntKind.u8.wrap (x.tmod 6) = x % 6 ∧ x.tmod 6 = x % 6 := by
  have e : x.tmod 6 = x % 6 := Int.tmod_eq_emod_of_nonneg h.1
  rw [e]
  refine ⟨?_, rfl⟩
  simp [IntKind.wrap, IntKind.bits, IntKind.signed]; omega
set_option maxHeartbeats 4000000 in
theorem bumped20 {n : Nat} (hn : n ≤ 1048576) {a : Option Addr} {c : Nat} {ss : List Opr} {W : World} (h : Ops W a ss) (hf : few ss) :
    Calls Try.prog 20 #[.int .i64 n, .slice a ss.length c] W fun e w' => BpdOut n ss W e w' := by
  have hsh : Hid (ss.length = 0) ∨ ∃ b off, a = some ⟨b, off, none⟩ := h.shape
  have HH := hid (fun (b off : Nat) (e : a = some ⟨b, off, none⟩) (w : World) (hw : Below W.heap.size W w) (j : Nat) (hj : j < ss.length) => (e ▸ h.below hw : Ops w (some ⟨b, off, none⟩) ss).at hj)
  have C := hid (new10q hn (W := W) (N := W.heap.size) (Nat.le_refl _))
  obtain ⟨t, ht⟩ : ∃ t, ss.length = t := ⟨_, rfl⟩
  have HT := hid ht
  have HF := hid hf
  rw [ht] at hsh ⊢
  clear h hf ht
  go_enter Try.func20, Try.ntmps20
  go_wp2_with (fail)
  go_at_call 10
  refine C.out.mono ?_
  rintro e w1 ⟨A, rfl, q1, b1⟩
  have H0 := hid (show Qn W.heap.size A n (1048577 * (0 + 1 : Nat)) (runB n (ss.take 0)).1 (runB n (ss.take 0)).2 w1 ∧ Below W.heap.size W w1 from ⟨by have := q1; exact this, b1⟩)
  clear q1 b1 C
  go_wp2_with (fail)
  rcases hsh with Z | ⟨b, off, hab⟩
  case' inr => subst hab
  all_goals
    go_loopw [7] (fun i wr => ∃ k : Nat, k ≤ t ∧ i = .int .i64 (k : Nat) ∧ Hid (Qn W.heap.size A n (1048577 * (k + 1 : Nat)) (runB n (ss.take k)).1 (runB n (ss.take k)).2 wr ∧ Below W.heap.size W wr)) (fun i _ => t - (intOf i).toNat)
    case atStart => exact ⟨0, Nat.zero_le _, rfl, H0⟩
    case round =>
      obtain ⟨k, hk, rfl, HQ⟩ := hrel
      by_cases hlt : k < t
      · first
          | (exfalso; have := Z.out; omega)
          | (have hlt' : (k : Int) < t := by omega
             have hkl : k < ss.length := by rw [HT.out]; exact hlt
             have h100 : t ≤ 100 := by have := HF.out.1; have := HT.out; omega
             have hwk : wrap64 ((k : Int) + 1) = (k : Int) + 1 := by unfold wrap64; omega
             have hsn := runB_snoc n hkl
             obtain ⟨a', b', ca, cb, ok, x0, x1, x2⟩ := HH.out b off rfl wr HQ.out.2 k hkl
             have hm := mod6 ok.kind
             have hl4 := (HF.out.2 _ (List.getElem_mem hkl)).1
             generalize ss[k] = s at *
             by_cases hkd : s.kind % 6 < 3
             · have C17 := hid (HQ.out.1.bump HQ.out.2.size (by omega) (a := a') (c := ca) ok.l (by omega))
               have HN := hid (fun (w : World) (q : Qn W.heap.size A n (1048577 * (k + 1 : Nat) + 1048577) (Qp.bL n s.l (runB n (ss.take k)).1) (Qp.bS n s.l (runB n (ss.take k)).1 (runB n (ss.take k)).2) w) => show Qn W.heap.size A n (1048577 * (k + 1 + 1 : Nat)) (runB n (ss.take (k + 1))).1 (runB n (ss.take (k + 1))).2 w from by
                 rw [hsn, stepB, if_pos hkd]
                 rw [show (1048577 * ((k + 1 + 1 : Nat) : Int)) = 1048577 * (k + 1 : Nat) + 1048577 by omega]
                 exact q)
               have HB := hid HQ.out.2
               generalize s.l.length = m1 at *
               generalize s.kind = kd at *
               obtain ⟨hm1, hm2⟩ := hm
               clear ok x2 hl4 hkl hsn HQ H0
               go_wp2_with (fail)
               go_at_call 17
               refine C17.out.mono ?_
               rintro e w2 ⟨rfl, q2, b2, _⟩
               have HN2 := hid (show Qn W.heap.size A n (1048577 * (k + 1 + 1 : Nat)) (runB n (ss.take (k + 1))).1 (runB n (ss.take (k + 1))).2 w2 ∧ Below W.heap.size W w2 from ⟨HN.out w2 q2, HB.out.trans b2⟩)
               clear q2 b2 HN C17 HB
               go_wp2_with (fail)
               exact ⟨⟨k + 1, hlt, by first | rfl | (rw [hwk]; rfl), HN2⟩, by first | (simp only [intOf]; exact meas hlt) | (rw [hwk]; simp only [intOf]; exact meas hlt)⟩
             · have HN2 := hid (show Qn W.heap.size A n (1048577 * (k + 1 + 1 : Nat)) (runB n (ss.take (k + 1))).1 (runB n (ss.take (k + 1))).2 wr ∧ Below W.heap.size W wr from by
                 rw [hsn, stepB, if_neg hkd]
                 exact ⟨HQ.out.1.mono (by omega) (by omega), HQ.out.2⟩)
               generalize s.kind = kd at *
               obtain ⟨hm1, hm2⟩ := hm
               clear ok x1 x2 hl4 hkl hsn HQ H0
               go_wp2_with (fail)
               exact ⟨⟨k + 1, hlt, by first | rfl | (rw [hwk]; rfl), HN2⟩, by first | (simp only [intOf]; exact meas hlt) | (rw [hwk]; simp only [intOf]; exact meas hlt)⟩)
      · have hge : ¬ (k : Int) < t := by omega
        have HO := hid (show BpdOut n ss W (.returned (.pointer (some ⟨A.qb, 0, none⟩))) wr from by
          have hkt : k = t := by omega
          have q := HQ.out
          rw [List.take_of_length_le (by rw [HT.out]; omega)] at q
          exact ⟨A, rfl, q.1.mono (by have := HF.out.1; have := HT.out; omega) (by omega), q.2⟩)
        clear HQ H0
        go_wp2
        go_ret
        exact HO.out
end Go.Proofs.Ytjnifadfcnpdoaa
