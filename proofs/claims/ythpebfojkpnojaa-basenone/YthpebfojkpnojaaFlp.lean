/- A check's steps, plainly; a check where the world drew. -/
import Derived.Test.YthpebfojkpnojaaFlm
namespace Bas
theorem vr_neg (l : Int) : vr (-l) = vr l := by unfold vr; split <;> split <;> omega
/-- What the truths' row says of a literal: true, false, or neither. -/
theorem tru_cases {T ts : List Int} (h : Tru T.reverse ts) {l : Int} (h1 : 1 ≤ vr l) (h2 : vr l < ts.length) :
    (ts.getD (vr l).toNat 0 = l ∧ l ∈ T) ∨ (ts.getD (vr l).toNat 0 = -l ∧ -l ∈ T ∧ l ∉ T) ∨ (ts.getD (vr l).toNat 0 = 0 ∧ l ∉ T ∧ -l ∉ T) := by
  have a := h.at_ l h1 h2
  have b := h.at_ (-l) (by rw [vr_neg]; exact h1) (by rw [vr_neg]; exact h2)
  rw [vr_neg] at b
  rw [List.mem_reverse] at a b
  have hl0 : l ≠ 0 := fun e => by rw [e] at h1; unfold vr at h1; simp at h1
  rcases h.free (vr l).toNat (by omega) with h3 | h3
  · right; right
    rw [h3] at a b
    exact ⟨h3, fun e => hl0 (a.2 e).symm, fun e => hl0 (by have := b.2 e; omega)⟩
  · generalize ts.getD (vr l).toNat 0 = t at *
    have h4 : t = l ∨ t = -l := by unfold vr at h3 h1; split at h3 <;> split at h3 <;> omega
    by_cases h5 : t = l
    · exact .inl ⟨h5, a.1 h5⟩
    · rcases h4 with h4 | h4
      · exact absurd h4 h5
      · exact .inr (.inl ⟨h4, b.1 h4, fun e => h5 (a.2 e)⟩)
theorem denyP_true {T : List Int} {l : Int} (c : List Int) (h : l ∈ T) : denyP T (l :: c) = none := by rw [denyP, if_pos h]
theorem denyP_false {T : List Int} {l : Int} (c : List Int) (h : l ∉ T) (h2 : -l ∈ T) : denyP T (l :: c) = denyP T c := by rw [denyP, if_neg h, if_pos h2]
theorem denyP_free {T : List Int} {l : Int} (c : List Int) (h : l ∉ T) (h2 : -l ∉ T) : denyP T (l :: c) = denyP (-l :: T) c := by rw [denyP, if_neg h, if_neg h2]
end Bas
namespace Go.Proofs.Ythpebfojkpnojaa
open Go.RowKit Go.Maps
set_option linter.unusedVariables false
theorem Chk.below {bb pb fb gt m cz : Nat} {ts T : List Int} {W0 W W' : World} (h : Chk bb pb fb gt m cz ts T W0 W) (hb : Below W.heap.size W W') : Chk bb pb fb gt m cz ts T W0 W' := by
  obtain ⟨sv, f1, f2⟩ := h.fnd
  obtain ⟨cur, r1, r2⟩ := h.row
  exact ⟨hb.os.trans h.os, hb.tape.trans h.tape, hb.output.trans h.output, Nat.le_trans h.size hb.size, fun q hq hne => (hb.block q (Nat.lt_of_lt_of_le hq h.size)).trans (h.block q hq hne), ⟨cur, (hb.block gt (lt_of_blk r1)).trans r1, r2⟩, (hb.block pb (lt_of_blk h.pbx)).trans h.pbx, ⟨sv, (hb.block fb (lt_of_blk f1)).trans f1, own_below f2 hb⟩, h.at_⟩
end Go.Proofs.Ythpebfojkpnojaa
