/- Plain: the order of going is the only one; what is chosen of a part. -/
import Derived.Test.YtekkbpaelojmeaaRdP
namespace Go.Proofs.Ytekkbpaelojmeaa
open Go.Sort
set_option linter.unusedVariables false

theorem ltc_eq_bef (x y : K4) : ltc x y = bef x y := cf_neg x y
theorem srt_pair (xs : List K4) : (xs.mergeSort fun x y => !ltc y x).Pairwise (fun x y => ltc y x = false) := by
  have h := List.pairwise_mergeSort (le := fun x y => !ltc y x) (fun a b c h1 h2 => by
    simp only [Bool.not_eq_true'] at *
    exact swo.ntrans c b a h2 h1) (fun a b => by
    simp only [Bool.or_eq_true, Bool.not_eq_true']
    cases h1 : ltc b a
    · exact .inl rfl
    · right
      rw [ltc_eq_bef, bef_iff] at h1
      rw [ltc_eq_bef, bef_not]
      omega) xs
  exact h.imp (fun {a b} h => by simpa using h)
theorem srt_unique {xs ys : List K4} (hp : ys.Perm xs) (hs : ys.Pairwise (fun x y => ltc y x = false)) : (xs.mergeSort fun x y => !ltc y x) = ys :=
  List.Perm.eq_of_pairwise (le := fun x y => ltc y x = false) (fun a b _ _ h1 h2 => tot a b h2 h1) (srt_pair xs) hs ((List.mergeSort_perm _ _).trans hp.symm)
/-- With a greater part the same go, and perhaps more. -/
theorem chosen_pre (rs : List Rc) (g : Int) {p q : Int} (h : p ≤ q) : chosen rs g p = (chosen rs g q).take (chosen rs g p).length := by
  unfold chosen
  rw [← List.map_take, List.take_take, List.length_map, List.length_take]
  have := part_mono (n := (ord g rs).length) h
  congr 1
  rw [List.take_eq_take_iff]
  omega
theorem chosen_len_le (rs : List Rc) (g : Int) {p q : Int} (h : p ≤ q) : (chosen rs g p).length ≤ (chosen rs g q).length := by
  unfold chosen
  rw [List.length_map, List.length_map, List.length_take, List.length_take]
  have := part_mono (n := (ord g rs).length) h
  omega
theorem chosen_len (rs : List Rc) (g p : Int) : (chosen rs g p).length ≤ rs.length := by
  unfold chosen
  rw [List.length_map, List.length_take, ord_len]
  have := List.length_filter_le (fun r => mayP r g) rs
  omega
/-- Whatever goes is a record that may. -/
theorem chosen_mem {rs : List Rc} {g p : Int} {i : Int} (h : i ∈ chosen rs g p) : ∃ r ∈ rs, mayP r g = true ∧ r.k.id = i := by
  unfold chosen at h
  obtain ⟨x, hx, rfl⟩ := List.mem_map.1 h
  have := (ord_perm g rs).mem_iff.1 (List.mem_of_mem_take hx)
  obtain ⟨r, hr, rfl⟩ := List.mem_map.1 this
  exact ⟨r, (List.mem_filter.1 hr).1, (List.mem_filter.1 hr).2, rfl⟩
/-- Where ids are unlike, none goes twice. -/
theorem chosen_nodup {rs : List Rc} (g p : Int) (h : (rs.map (fun r => r.k.id)).Nodup) : (chosen rs g p).Nodup := by
  unfold chosen
  refine List.Nodup.sublist ((List.take_sublist _ _).map _) ?_
  rw [((ord_perm g rs).map K4.id).nodup_iff, List.map_map]
  exact List.Nodup.sublist (List.filter_sublist.map _) h
/-- The records as they are handed out, their ids made unlike. -/
def renum (rs : List Rc) : List Rc := rs.mapIdx fun i r => ⟨⟨(i : Int) + 1, r.k.lb, r.k.sz, r.k.us⟩, r.lk⟩
theorem renum_len (rs : List Rc) : (renum rs).length = rs.length := by simp [renum]
theorem renum_id {rs : List Rc} {j : Nat} (hj : j < (renum rs).length) : (renum rs)[j].k.id = (j : Int) + 1 := by simp [renum]
theorem renum_nodup (rs : List Rc) : ((renum rs).map (fun r => r.k.id)).Nodup := by
  unfold List.Nodup
  rw [List.pairwise_iff_getElem]
  intro i j hi hj hlt h
  simp only [List.getElem_map, renum_id] at h
  omega
end Go.Proofs.Ytekkbpaelojmeaa
