/- Plain: a literal put at its place in a row that is in order. -/
import Derived.Test.YtccbcijkahnkkaaResl
namespace Cnf

theorem getD_eq (zs : List Int) (t : Nat) (h : t < zs.length) : zs.getD t 0 = zs[t] := by simp [List.getD, h]

theorem ins_sorted {zs : List Int} {x : Int} {j : Nat} (hs : zs.Pairwise LtL) (hx : x ∉ zs) (hj : j ≤ zs.length) (h1 : ∀ t, t < j → LtL (zs.getD t 0) x) (h2 : j < zs.length → ¬ LtL (zs.getD j 0) x) :
    (zs.take j ++ [x] ++ zs.drop j).Pairwise LtL := by
  have P := List.pairwise_iff_getElem.1 hs
  have hlo : ∀ y ∈ zs.take j, LtL y x := by
    intro y hy
    obtain ⟨t, ht, e⟩ := List.getElem_of_mem hy
    have ht' : t < j := by simp at ht; omega
    have := h1 t ht'
    rw [getD_eq zs t (by omega)] at this
    rw [List.getElem_take] at e
    rw [← e]; exact this
  have hhi : ∀ y ∈ zs.drop j, LtL x y := by
    intro y hy
    obtain ⟨t, ht, e⟩ := List.getElem_of_mem hy
    have ht' : j + t < zs.length := by simp at ht; omega
    rw [List.getElem_drop] at e
    have hjl : j < zs.length := by omega
    have h3 := h2 hjl
    rw [getD_eq zs j hjl] at h3
    have h4 : LtL x zs[j] := by
      have hne : x ≠ zs[j] := fun h => hx (by rw [h]; exact List.getElem_mem hjl)
      exact Classical.byContradiction fun h => hne (LtL.total h h3)
    rw [← e]
    rcases Nat.eq_zero_or_pos t with h0 | hp
    · subst h0; exact h4
    · exact h4.trans (P j (j + t) hjl ht' (by omega))
  rw [List.append_assoc, List.pairwise_append]
  refine ⟨hs.sublist (List.take_sublist j zs), ?_, ?_⟩
  · rw [List.singleton_append, List.pairwise_cons]
    exact ⟨hhi, hs.sublist (List.drop_sublist j zs)⟩
  · intro y hy z hz
    rcases List.mem_append.1 hz with h | h
    · simp at h; rw [h]; exact hlo y hy
    · exact (hlo y hy).trans (hhi z h)

theorem ins_mem {zs : List Int} {x : Int} {j : Nat} (y : Int) : y ∈ zs.take j ++ [x] ++ zs.drop j ↔ y = x ∨ y ∈ zs := by
  have h : y ∈ zs ↔ y ∈ zs.take j ∨ y ∈ zs.drop j := by
    conv => lhs; rw [← List.take_append_drop j zs]
    exact List.mem_append
  rw [h]
  simp only [List.mem_append, List.mem_singleton]
  constructor
  · rintro ((h | h) | h)
    · exact Or.inr (Or.inl h)
    · exact Or.inl h
    · exact Or.inr (Or.inr h)
  · rintro (h | h | h)
    · exact Or.inl (Or.inr h)
    · exact Or.inl (Or.inl h)
    · exact Or.inr h

theorem nrm_ins {xs zs : List Int} {k j : Nat} (hk : k < xs.length) (hN : Nrm (xs.take k) zs) (hx : has zs (xs.getD k 0) = false) (hj : j ≤ zs.length) (h1 : ∀ t, t < j → LtL (zs.getD t 0) (xs.getD k 0)) (h2 : j < zs.length → ¬ LtL (zs.getD j 0) (xs.getD k 0)) :
    Nrm (xs.take (k + 1)) (zs.take j ++ [xs.getD k 0] ++ zs.drop j) := by
  refine ⟨ins_sorted hN.1 ((has_false _ _).1 hx) hj h1 h2, fun y => ?_⟩
  rw [ins_mem, hN.2 y, take_snoc xs k hk, List.mem_append, List.mem_singleton]
  constructor
  · rintro (h | h)
    · exact Or.inr h
    · exact Or.inl h
  · rintro (h | h)
    · exact Or.inr h
    · exact Or.inl h

theorem nrm_dup {xs zs : List Int} {k : Nat} (hk : k < xs.length) (hN : Nrm (xs.take k) zs) (hx : has zs (xs.getD k 0) = true) : Nrm (xs.take (k + 1)) zs := by
  refine ⟨hN.1, fun y => ?_⟩
  rw [take_snoc xs k hk, List.mem_append, List.mem_singleton, hN.2 y]
  constructor
  · exact Or.inl
  · rintro (h | h)
    · exact h
    · rw [h]; exact (hN.2 _).1 ((has_iff _ _).1 hx)

def bt (xs : List Int) (k : Nat) : Bool := (xs.take k).any (fun x => decide (0 < x) && has xs (-x))
theorem bt_zero (xs : List Int) : bt xs 0 = false := rfl
theorem bt_succ (xs : List Int) (k : Nat) (h : k < xs.length) : bt xs (k + 1) = (bt xs k || (decide (0 < xs.getD k 0) && has xs (-(xs.getD k 0)))) := by
  unfold bt; rw [take_snoc xs k h]; simp
theorem bt_dup {xs zs : List Int} {k : Nat} (h : k < xs.length) (hN : Nrm (xs.take k) zs) (hx : has zs (xs.getD k 0) = true) : bt xs (k + 1) = bt xs k := by
  rw [bt_succ xs k h]
  have hm := (hN.2 _).1 ((has_iff _ _).1 hx)
  generalize xs.getD k 0 = x at *
  cases hc : (decide (0 < x) && has xs (-x))
  · simp
  · have : bt xs k = true := by
      unfold bt
      rw [List.any_eq_true]
      exact ⟨x, hm, hc⟩
    rw [this]; rfl
theorem bt_all (xs : List Int) : bt xs xs.length = both xs := by
  unfold bt both
  rw [List.take_length]
  congr 1
  funext x
  congr 1
  rw [Bool.eq_iff_iff, has_iff]
  simp

end Cnf
