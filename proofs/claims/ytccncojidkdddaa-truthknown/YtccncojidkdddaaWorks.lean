/- The statements' own trial. -/
import Derived.Test.YtccncojidkdddaaWhole
namespace Tru
theorem taken_w1 : taken 2 [[1, 2], [-1]] = 0 := by decide
theorem taken_w2 : taken 3 [] = 0 := by decide
theorem taken_w3 : taken 1 [[1]] = 0 := by decide
theorem works_find {bs : List Bool} {ok : Bool} {er : Int} (h : FW 2 [[1, 2], [-1]] bs ok er) : bs = [false, true] ∧ ok = true ∧ er = 0 := by
  have k : FW 2 [[1, 2], [-1]] (model 2 2) true 0 := .found 2 2 rfl taken_w1 (by decide) (by decide) (by decide)
  obtain ⟨rfl, rfl, rfl⟩ := h.unique k
  exact ⟨by decide, rfl, rfl⟩
theorem works_count : countV 3 [] = 8 := by decide
theorem works_imp : impB 1 [[1]] [-1] = false ∧ impE 1 [[1]] [-1] = 0 := by decide
end Tru
namespace Go.Proofs.Ytccncojidkdddaa
open Go.RowKit Go.Lib Go.Sort Go.Shelf
set_option linter.unusedVariables false
set_option linter.unusedSimpArgs false

theorem lits_new' (w : World) (xs : List Int) (g : Nat) (t : TypeId) (hg : w.heap.size = g) (hb : ∀ x ∈ xs, -2147483648 ≤ x ∧ x ≤ 2147483647) : Lits (w.alloc (.cells (xs.map (Value.int .i32)).toArray t)) (some ⟨g, 0, none⟩) xs := by
  subst hg
  refine ⟨hb, .inr ⟨w.heap.size, 0, rfl, by simp, fun j hj => ?_⟩⟩
  rw [Nat.zero_add, row_cell (World.alloc_heap_new w _) j]
  simp [hj, List.getD]
theorem bools_new' (w : World) (xs : List Bool) (g : Nat) (t : TypeId) (hg : w.heap.size = g) : Bools (w.alloc (.cells (xs.map Value.bool).toArray t)) (some ⟨g, 0, none⟩) xs := by
  subst hg
  refine .inr ⟨w.heap.size, 0, rfl, by simp, fun j hj => ?_⟩
  rw [Nat.zero_add, row_cell (World.alloc_heap_new w _) j]
  simp [hj, List.getD]
theorem Cls.zero (w : World) (a : Option Addr) : Cls w a [] := ⟨fun c hc => (by cases hc), Or.inl rfl⟩
theorem Lits.alloc {w : World} {a : Option Addr} {xs : List Int} (h : Lits w a xs) (o : Obj) : Lits (w.alloc o) a xs := h.below (below_box w o)
theorem Bools.alloc {w : World} {a : Option Addr} {xs : List Bool} (h : Bools w a xs) (o : Obj) : Bools (w.alloc o) a xs := h.below (below_box w o)
theorem Cls.alloc {w : World} {a : Option Addr} {xs : List (List Int)} (h : Cls w a xs) (o : Obj) : Cls (w.alloc o) a xs := h.below (below_box w o)
theorem cls_new' (w : World) (g : Nat) (t : TypeId) (hg : w.heap.size = g) (rows : List (Option Addr × Nat × List Int)) (h : ∀ r ∈ rows, Lits w r.1 r.2.2 ∧ r.2.2.length ≤ 35184372088832) :
    Cls (w.alloc (.cells (rows.map fun r => Value.slice r.1 r.2.2.length r.2.1).toArray t)) (some ⟨g, 0, none⟩) (rows.map fun r => r.2.2) := by
  subst hg
  refine ⟨fun c hc => ?_, .inr ⟨w.heap.size, 0, rfl, by simp, fun j hj => ?_⟩⟩
  · obtain ⟨r, hr, rfl⟩ := List.mem_map.1 hc
    exact (h r hr).2
  · have hj' : j < rows.length := by simpa using hj
    have hr := h rows[j] (List.getElem_mem hj')
    have e : (rows.map fun r => r.2.2).getD j [] = rows[j].2.2 := by simp [List.getD, hj']
    rw [e]
    refine ⟨rows[j].1, rows[j].2.1, ?_, hr.1.alloc _⟩
    rw [Nat.zero_add, row_cell (World.alloc_heap_new w _) j]
    simp [hj']

set_option maxRecDepth 100000 in
set_option maxHeartbeats 8000000 in
theorem works13 (w : World) : Calls Try.prog 13 #[] w fun e w' => e = .returned (.bool true) ∧ Below w.heap.size w w' := by
  go_enter Try.func13, Try.ntmps13
  go_wp2_with fail
  have hc1 : Cls (((w.alloc (.cells #[.int .i32 1, .int .i32 2] 44)).alloc (.cells #[.int .i32 (-1)] 44)).alloc (.cells #[.slice (some ⟨w.heap.size, 0, none⟩) 2 2, .slice (some ⟨w.heap.size + 1, 0, none⟩) 1 1] 36)) (some ⟨w.heap.size + 1 + 1, 0, none⟩) [[1, 2], [-1]] :=
    cls_new' _ _ 36 (by simp) [(some ⟨w.heap.size, 0, none⟩, 2, [1, 2]), (some ⟨w.heap.size + 1, 0, none⟩, 1, [-1])] (by
      intro r hr
      simp only [List.mem_cons, List.not_mem_nil, or_false] at hr
      rcases hr with rfl | rfl
      · exact ⟨(lits_new' w [1, 2] _ 44 rfl (by decide)).alloc _, (by simp)⟩
      · exact ⟨lits_new' _ [-1] _ 44 (by simp) (by decide), (by simp)⟩)
  refine (find8_all 2 (some ⟨w.heap.size + 1 + 1, 0, none⟩) 2 2 [[1, 2], [-1]] _ rfl hc1).mono ?_
  rintro e w1 ⟨⟨a1, cap1, bs, ok, er, rfl, hb1, hf1⟩, hw1⟩
  obtain ⟨rfl, rfl, rfl⟩ := Tru.works_find hf1
  have B1 := hid (show Below w.heap.size w w1 from (((Below.refl _ w).alloc (Nat.le_refl _) _).alloc (by simp) _).alloc (by simp; omega) _ |>.trans (hw1.mono (by simp; omega)))
  have HB1 := hid hb1
  clear hc1 hb1 hf1 hw1
  rw [show ([false, true] : List Bool).length = 2 from rfl]
  go_wp2_with fail
  refine (count10_all 3 none 0 0 [] w1 rfl (Cls.zero _ _)).mono ?_
  rintro e w2 ⟨rfl, hw2⟩
  rw [Tru.works_count, Tru.taken_w2]
  have HW2 := hid hw2
  clear hw2
  go_wp2_with fail
  have hc2 : Cls (((w2.alloc (.cells #[.int .i32 1] 44)).alloc (.cells #[.slice (some ⟨w2.heap.size, 0, none⟩) 1 1] 36)).alloc (.cells #[.int .i32 (-1)] 44)) (some ⟨w2.heap.size + 1, 0, none⟩) [[1]] :=
    (cls_new' _ _ 36 (by simp) [(some ⟨w2.heap.size, 0, none⟩, 1, [1])] (by
      intro r hr
      simp only [List.mem_cons, List.not_mem_nil, or_false] at hr
      rcases hr with rfl
      exact ⟨lits_new' w2 [1] _ 44 rfl (by decide), (by simp)⟩)).alloc _
  refine (implies14_all 1 (some ⟨w2.heap.size + 1, 0, none⟩) (some ⟨w2.heap.size + 1 + 1, 0, none⟩) 1 1 1 1 [[1]] [-1] _ rfl hc2 rfl (by omega) (lits_new' _ [-1] _ 44 (by simp) (by decide))).mono ?_
  rintro e w3 ⟨rfl, hw3⟩
  rw [Tru.works_imp.1, Tru.works_imp.2]
  have B3 := hid (show Below w2.heap.size w2 w3 from (((Below.refl _ w2).alloc (Nat.le_refl _) _).alloc (by simp) _).alloc (by simp; omega) _ |>.trans (hw3.mono (by simp; omega)))
  have B23 := hid (HW2.out.trans (B3.out.mono HW2.out.size))
  clear hc2 hw3
  go_wp2_with fail
  refine (sameModel12 a1 _ 2 cap1 2 [false, true] _ rfl (by omega) ((HB1.out.below B23.out).alloc _) (bools_new' w3 [false, true] _ 4 rfl)).mono ?_
  rintro e w4 ⟨rfl, hd4⟩
  have B4 := hid (show Below w.heap.size w w4 from (((B1.out.trans (B23.out.mono B1.out.size)).alloc (Nat.le_trans B1.out.size B23.out.size) _).trans (hd4.below'.mono (by simp; have := B1.out.size; have := B23.out.size; omega))))
  clear hd4
  go_wp2
  go_ret
  exact ⟨rfl, B4.out⟩
end Go.Proofs.Ytccncojidkdddaa
