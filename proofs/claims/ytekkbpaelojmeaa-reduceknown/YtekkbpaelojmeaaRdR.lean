/- Plain: put in at the first place ahead of which it goes. -/
import Derived.Test.YtekkbpaelojmeaaRdQ
namespace Go.Proofs.Ytekkbpaelojmeaa
open Go.Sort
set_option linter.unusedVariables false

/-- A row in order: none stands behind one that it goes ahead of. -/
def Ord (L : List K4) : Prop := L.Pairwise (fun x y => bef y x = false)
theorem bef_trans {x y z : K4} (h1 : bef y x = false) (h2 : bef z y = false) : bef z x = false := by
  rw [bef_not] at *; omega
theorem bef_asym {x y : K4} (h : bef x y = true) : bef y x = false := by
  rw [bef_iff] at h; rw [bef_not]; omega
theorem ord_put {L : List K4} {v : K4} {k : Nat} (h : Ord L) (hk : k ≤ L.length) (h1 : ∀ j (hj : j < L.length), j < k → bef v L[j] = false) (h2 : ∀ hj : k < L.length, bef v L[k] = true) : Ord (L.take k ++ v :: L.drop k) := by
  unfold Ord at *
  refine List.pairwise_append.2 ⟨h.sublist (List.take_sublist _ _), List.pairwise_cons.2 ⟨fun y hy => ?_, h.sublist (List.drop_sublist _ _)⟩, fun x hx y hy => ?_⟩
  · obtain ⟨j, hj, rfl⟩ := List.getElem_of_mem hy
    rw [List.getElem_drop]
    have hkl : k < L.length := by simp at hj; omega
    have hb := bef_asym (h2 hkl)
    by_cases e : j = 0
    · subst e; exact hb
    · exact bef_trans hb (List.pairwise_iff_getElem.1 h k (k + j) hkl (by simp at hj; omega) (by omega))
  · obtain ⟨i, hi, rfl⟩ := List.getElem_of_mem hx
    have hi' : i < k := by simp at hi; omega
    rw [List.getElem_take]
    rcases List.mem_cons.1 hy with rfl | hy
    · exact h1 i (by omega) hi'
    · obtain ⟨j, hj, rfl⟩ := List.getElem_of_mem hy
      rw [List.getElem_drop]
      exact List.pairwise_iff_getElem.1 h i (k + j) (by omega) (by simp at hj; omega) (by omega)
theorem put_perm (L : List K4) (v : K4) (k : Nat) : (L.take k ++ v :: L.drop k).Perm (L ++ [v]) := by
  have := List.take_append_drop k L
  have h3 : (v :: L).Perm (v :: (L.take k ++ L.drop k)) := by rw [this]
  exact (h3.trans List.perm_middle.symm).symm.trans (List.perm_append_singleton v L).symm
/-- The row so far: those that may go of what was gone through, in order. -/
structure Sofar (rs : List Rc) (g : Int) (i : Nat) (L : List K4) : Prop where
  inrow : Ord L
  perm : L.Perm (((rs.take i).filter (fun r => mayD r g)).map Rc.k)
theorem Sofar.start (rs : List Rc) (g : Int) : Sofar rs g 0 [] := ⟨List.Pairwise.nil, by simp⟩
theorem Sofar.skip {rs : List Rc} {g : Int} {i : Nat} {L : List K4} (h : Sofar rs g i L) (hi : i < rs.length) (hm : mayD rs[i] g = false) : Sofar rs g (i + 1) L := by
  refine ⟨h.inrow, ?_⟩
  rw [List.take_succ_eq_append_getElem hi, List.filter_append, List.filter_cons, hm]
  simpa using h.perm
theorem Sofar.put {rs : List Rc} {g : Int} {i k : Nat} {L : List K4} (h : Sofar rs g i L) (hi : i < rs.length) (hm : mayD rs[i] g = true) (hk : k ≤ L.length) (h1 : ∀ j (hj : j < L.length), j < k → bef rs[i].k L[j] = false) (h2 : ∀ hj : k < L.length, bef rs[i].k L[k] = true) : Sofar rs g (i + 1) (L.take k ++ rs[i].k :: L.drop k) := by
  refine ⟨ord_put h.inrow hk h1 h2, (put_perm _ _ _).trans ?_⟩
  rw [List.take_succ_eq_append_getElem hi, List.filter_append, List.filter_cons, hm, if_pos rfl, List.filter_nil, List.map_append]
  exact h.perm.append_right _
theorem Sofar.len {rs : List Rc} {g : Int} {i : Nat} {L : List K4} (h : Sofar rs g i L) : L.length ≤ i := by
  rw [h.perm.length_eq, List.length_map]
  exact Nat.le_trans (List.length_filter_le _ _) (by simp; omega)
/-- In the end: the order of going. -/
theorem Sofar.done {rs : List Rc} {g : Int} {L : List K4} (h : Sofar rs g rs.length L) (hm : ∀ r ∈ rs, mayP r g = mayD r g) : L = ord g rs := by
  unfold ord
  have e : rs.filter (fun r => mayP r g) = rs.filter (fun r => mayD r g) := List.filter_congr (fun r hr => hm r hr)
  rw [e]
  have hp := h.perm
  rw [List.take_length] at hp
  exact (srt_unique hp (h.inrow.imp (fun {a b} hb => by rw [ltc_eq_bef]; exact hb))).symm
end Go.Proofs.Ytekkbpaelojmeaa
