/- What a check has found true, plainly: taken, and taken back. -/
import Derived.Test.YthpebfojkpnojaaTak
namespace Bas
theorem tru_nil (m : Nat) : Tru [] (List.replicate m 0) where
  at_ l h1 h2 := by
    have h3 : (List.replicate m (0 : Int)).getD (vr l).toNat 0 = 0 := by
      rw [List.getD, List.getElem?_replicate]
      split <;> rfl
    rw [h3]
    constructor
    · intro e; rw [← e] at h1; unfold vr at h1; simp at h1
    · intro h; cases h
  free v hv := .inl (by rw [List.getD, List.getElem?_replicate]; split <;> rfl)
theorem getD_set (ts : List Int) (v k : Nat) (x : Int) (hv : v < ts.length) : (ts.set v x).getD k 0 = if k = v then x else ts.getD k 0 := by
  rw [List.getD, List.getElem?_set]
  by_cases h : k = v
  · subst h
    simp [hv]
  · rw [if_neg (fun e => h e.symm), if_neg h]; rfl
theorem tru_take {T ts : List Int} (h : Tru T ts) {l : Int} (h1 : 1 ≤ vr l) (h2 : vr l < ts.length) (hz : ts.getD (vr l).toNat 0 = 0) : Tru (T ++ [l]) (ts.set (vr l).toNat l) := by
  have hv : (vr l).toNat < ts.length := by omega
  refine ⟨fun x hx1 hx2 => ?_, fun v hv2 => ?_⟩
  · rw [List.length_set] at hx2
    rw [getD_set ts _ _ _ hv, List.mem_append, List.mem_singleton]
    by_cases e : (vr x).toNat = (vr l).toNat
    · rw [if_pos e]
      constructor
      · intro e1; exact .inr e1.symm
      · rintro (h3 | h3)
        · have := (h.at_ x hx1 hx2).2 h3
          rw [e, hz] at this
          rw [← this] at hx1
          unfold vr at hx1
          simp at hx1
        · exact h3.symm
    · rw [if_neg e]
      constructor
      · intro e1; exact .inl ((h.at_ x hx1 hx2).1 e1)
      · rintro (h3 | h3)
        · exact (h.at_ x hx1 hx2).2 h3
        · exact absurd (by rw [h3]) e
  · rw [List.length_set] at hv2
    rw [getD_set ts _ _ _ hv]
    by_cases e : v = (vr l).toNat
    · rw [if_pos e]; right; omega
    · rw [if_neg e]; exact h.free v hv2
theorem untake_at (xs : List Int) : ∀ (ts : List Int) (v : Nat), v < ts.length → (untake ts xs).getD v 0 = if (∃ x ∈ xs, (vr x).toNat = v) then 0 else ts.getD v 0 := by
  induction xs with
  | nil => intro ts v _; rw [if_neg (by rintro ⟨x, hx, _⟩; cases hx)]; rfl
  | cons x xs ih =>
    intro ts v hv
    show (untake (ts.set (vr x).toNat 0) xs).getD v 0 = _
    rw [ih _ v (by rw [List.length_set]; exact hv)]
    by_cases h : ∃ y ∈ xs, (vr y).toNat = v
    · rw [if_pos h, if_pos]
      obtain ⟨y, hy, e⟩ := h
      exact ⟨y, List.mem_cons_of_mem _ hy, e⟩
    · rw [if_neg h]
      by_cases hx : (vr x).toNat = v
      · rw [if_pos ⟨x, List.mem_cons_self .., hx⟩, hx, getD_set ts v v 0 hv, if_pos rfl]
      · rw [if_neg]
        · rw [List.getD, List.getElem?_set, if_neg hx]; rfl
        · rintro ⟨y, hy, e⟩
          rcases List.mem_cons.1 hy with rfl | hy
          · exact hx e
          · exact h ⟨y, hy, e⟩
theorem untake_all {T ts : List Int} (h : Tru T ts) (h0 : ∀ v : Nat, v < ts.length → ts.getD v 0 ≠ 0 → 1 ≤ v) : untake ts T = List.replicate ts.length 0 := by
  apply List.ext_getElem?
  intro v
  by_cases hv : v < ts.length
  · rw [List.getElem?_replicate, if_pos hv]
    have h1 := untake_at T ts v hv
    rw [List.getD, List.getElem?_eq_getElem (by rw [untake_len]; exact hv)] at h1
    rw [List.getElem?_eq_getElem (by rw [untake_len]; exact hv)]
    congr 1
    refine h1.trans ?_
    split
    · rfl
    · rename_i hno
      rcases h.free v hv with h2 | h2
      · exact h2
      · by_cases hz : ts.getD v 0 = 0
        · exact hz
        · exfalso
          have h3 := h0 v hv hz
          refine hno ⟨ts.getD v 0, (h.at_ _ (by omega) (by omega)).1 ?_, by omega⟩
          rw [h2]; rfl
  · rw [List.getElem?_eq_none (by rw [untake_len]; omega), List.getElem?_eq_none (by simp; omega)]
theorem leftP_congr {T T' : List Int} (h : ∀ x, x ∈ T ↔ x ∈ T') : ∀ (d : List Int) (f : Int), leftP T d f = leftP T' d f := by
  intro d
  induction d with
  | nil => intro f; rfl
  | cons l d ih =>
    intro f
    rw [leftP_step, leftP_step, ih, ih]
    simp only [h]
end Bas
