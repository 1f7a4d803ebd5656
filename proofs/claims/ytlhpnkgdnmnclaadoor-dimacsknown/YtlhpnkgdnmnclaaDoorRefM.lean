/- What the document's own Model reads of a text. -/
import Derived.Test.YtlhpnkgdnmnclaaDoorValW
namespace Dim
set_option linter.unusedVariables false
def markW (vars : Nat) (m : List Bool) (w : List Int) : List Bool := match signed w with | some (false, n) => if 0 < n ∧ n ≤ vars then m.set (n - 1) true else m | _ => m
def refM (vars : Nat) (ws : List (List Int)) : List Bool := ws.foldl (markW vars) (List.replicate vars false)
theorem markW_len (vars : Nat) (m : List Bool) (w : List Int) : (markW vars m w).length = m.length := by
  unfold markW
  split
  · split
    · simp
    · rfl
  · rfl
theorem fold_len (vars : Nat) (ws : List (List Int)) : ∀ m : List Bool, (ws.foldl (markW vars) m).length = m.length := by
  induction ws with
  | nil => intro m; rfl
  | cons w ws ih => intro m; rw [List.foldl_cons, ih, markW_len]
theorem refM_len (vars : Nat) (ws : List (List Int)) : (refM vars ws).length = vars := by unfold refM; rw [fold_len, List.length_replicate]
theorem markW_v (vars : Nat) (m : List Bool) : markW vars m [118] = m := rfl
theorem fold_filter (vars : Nat) (ws : List (List Int)) : ∀ m, ws.foldl (markW vars) m = (ws.filter isV).foldl (markW vars) m := by
  induction ws with
  | nil => intro m; rfl
  | cons w ws ih =>
    intro m
    rw [List.foldl_cons, List.filter_cons]
    cases h : isV w
    · have : w = [118] := by unfold isV at h; simpa using h
      rw [this, markW_v, ih]
      rfl
    · rw [if_pos rfl, List.foldl_cons, ih]
theorem markW_lit (vars : Nat) (m : List Bool) (i : Int) : markW vars m (litL i) = if 0 < i ∧ i ≤ vars then m.set (i - 1).toNat true else m := by
  unfold litL markW
  rcases Int.lt_or_le i 0 with h | h
  · obtain ⟨u, rfl⟩ : ∃ u : Nat, i = -(u : Int) := ⟨i.natAbs, by omega⟩
    rw [signed_neg u (by omega), if_neg (by omega)]
  · obtain ⟨u, rfl⟩ : ∃ u : Nat, i = (u : Int) := ⟨i.toNat, by omega⟩
    rw [signed_nat u]
    by_cases h2 : 0 < u ∧ u ≤ vars
    · rw [if_pos (show 0 < (u : Int) ∧ (u : Int) ≤ vars by omega)]
      simp only [h2, and_self, if_true]
      congr 1
      omega
    · rw [if_neg (show ¬ (0 < (u : Int) ∧ (u : Int) ≤ vars) by omega)]
      simp only [h2, if_false]
theorem take_bool (m : List Bool) (k : Nat) (h : k < m.length) : m.take (k + 1) = m.take k ++ [m.getD k false] := by
  rw [List.take_succ_eq_append_getElem h]; simp [List.getD, List.getElem?_eq_getElem h]
theorem fold_vals (m : List Bool) : ∀ j, j ≤ m.length → (((valInts m).take j).map litL).foldl (markW m.length) (List.replicate m.length false) = m.take j ++ List.replicate (m.length - j) false := by
  intro j
  induction j with
  | zero => intro _; simp
  | succ j ih =>
    intro hj
    rw [valInts_take m j (by omega), List.map_append, List.foldl_append, ih (by omega), take_bool m j (by omega)]
    simp only [List.map_cons, List.map_nil, List.foldl_cons, List.foldl_nil]
    rw [markW_lit]
    have hr : List.replicate (m.length - j) false = false :: List.replicate (m.length - (j + 1)) false := by
      rw [show m.length - j = (m.length - (j + 1)) + 1 by omega, List.replicate_succ]
    unfold valI
    cases hb : m.getD j false
    · rw [if_neg (by simp; omega), hr]
      simp
    · rw [if_pos (by simp; omega), hr]
      simp only [if_true]
      rw [show ((j : Int) + 1 - 1).toNat = j by omega]
      have hl : (m.take j).length = j := by rw [List.length_take]; omega
      rw [List.set_append_right _ _ (by omega), hl, Nat.sub_self, List.set_cons_zero]
      simp
theorem refM_values (m : List Bool) : refM m.length (allW (I (valuesB m))) = m := by
  unfold refM
  rw [fold_filter, allW_values, List.map_append, List.foldl_append]
  have h := fold_vals m m.length (Nat.le_refl _)
  have hl : (valInts m).length = m.length := by simp [valInts]
  rw [List.take_of_length_le (by omega), Nat.sub_self] at h
  rw [h]
  simp only [List.map_cons, List.map_nil, List.foldl_cons, List.foldl_nil]
  rw [markW_lit, if_neg (by omega)]
  simp
end Dim
