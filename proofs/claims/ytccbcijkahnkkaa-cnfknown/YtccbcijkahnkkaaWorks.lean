/- The closed part of every statement of the layer. -/
import Derived.Test.YtccbcijkahnkkaaRes
import Derived.Test.YtccbcijkahnkkaaSame
namespace Go.Proofs.Ytccbcijkahnkkaa
open Go.RowKit Go.Lib Go.Sort Go.Shelf
set_option linter.unusedVariables false

theorem lits_new (w : World) (xs : List Int) (hb : ∀ x ∈ xs, -2147483648 ≤ x ∧ x ≤ 2147483647) : Lits (w.alloc (.cells (xs.map (Value.int .i32)).toArray 40)) (some ⟨w.heap.size, 0, none⟩) xs := by
  refine ⟨hb, .inr ⟨w.heap.size, 0, rfl, by simp, fun j hj => ?_⟩⟩
  have hh : (w.alloc (.cells (xs.map (Value.int .i32)).toArray 40)).heap[w.heap.size]? = some (.cells (xs.map (Value.int .i32)).toArray 40) := heap_alloc_new w _
  simp only [World.cell?, hh]
  simp [hj, List.getD]

theorem bools_new (w : World) (xs : List Bool) : Bools (w.alloc (.cells (xs.map Value.bool).toArray 4)) (some ⟨w.heap.size, 0, none⟩) xs := by
  refine .inr ⟨w.heap.size, 0, rfl, by simp, fun j hj => ?_⟩
  have hh : (w.alloc (.cells (xs.map Value.bool).toArray 4)).heap[w.heap.size]? = some (.cells (xs.map Value.bool).toArray 4) := heap_alloc_new w _
  simp only [World.cell?, hh]
  simp [hj, List.getD]

theorem below_new (w : World) (o : Obj) : Below w.heap.size w (w.alloc o) := (Below.refl _ _).alloc (Nat.le_refl _) o

/-- A slice of the call's own, as a value and its cells. -/
theorem own_at {w : World} {base : Nat} {v : Value} {n : Nat} {ys : List Int} (hb : ∀ x ∈ ys, -2147483648 ≤ x ∧ x ≤ 2147483647) (h : w.ownsRow base 40 1 v n (ys.map (Value.int .i32))) :
    ∃ a cap, v = .slice a n cap ∧ Lits w a ys := by
  obtain ⟨a, cap, h1, _, _, h2, _⟩ := lits_of_own hb h
  exact ⟨a, cap, h1, h2⟩

theorem nrm_1 {ys : List Int} (h : Cnf.Nrm [3, -1, 3, 2] ys) : ys = [-1, 2, 3] :=
  h.unique ⟨by simp [Cnf.LtL, Cnf.vr], fun x => by simp; omega⟩
theorem nrm_2 {ys : List Int} (h : Cnf.Nrm (Cnf.but [1, 2] 1 ++ Cnf.but [-1, 3] (-1)) ys) : ys = [2, 3] :=
  h.unique ⟨by simp [Cnf.LtL, Cnf.vr], fun x => by simp [Cnf.but]⟩

set_option maxHeartbeats 4000000 in
theorem works14 (w : World) : Calls Try.prog 14 #[] w fun e w' => e = .returned (.bool true) ∧ Below w.heap.size w w' := by
  go_enter Try.func14, Try.ntmps14
  go_wp2_with fail
  refine (normal16 _ 4 4 [3, -1, 3, 2] _ rfl (by omega) (lits_new w [3, -1, 3, 2] (by decide))).mono ?_
  rintro e w1 ⟨v1, ys1, rfl, n1, o1, b1, _⟩
  obtain rfl := nrm_1 n1
  obtain ⟨a1, cap1, rfl, l1⟩ := own_at (by decide) o1
  have B1 := hid ((below_new w _).trans (b1.mono (by simp)))
  have L1 := hid l1
  clear n1 o1 b1 l1
  go_wp2_with fail
  refine (resolve18_ok _ _ 2 2 2 2 [1, 2] [-1, 3] 1 _ (by omega) (by omega) rfl rfl (by omega) (by omega) ((lits_new w1 [1, 2] (by decide)).below (below_new _ _)) (by simpa using lits_new (w1.alloc (.cells #[.int .i32 1, .int .i32 2] 40)) [-1, 3] (by decide)) rfl rfl).mono ?_
  rintro e w2 ⟨v2, ys2, rfl, n2, o2, b2, _⟩
  obtain rfl := nrm_2 n2
  obtain ⟨a2, cap2, rfl, l2⟩ := own_at (by decide) o2
  have B2 := hid ((((below_new w1 _).trans ((below_new _ _).mono (by simp))).trans (b2.mono (by simp; omega))))
  have L2 := hid l2
  clear n2 o2 b2 l2
  go_wp2_with fail
  refine (same20 a1 _ 3 cap1 3 3 [-1, 2, 3] [-1, 2, 3] _ rfl rfl (by omega) (by omega) ((L1.out.below B2.out).below (below_new _ _)) (lits_new w2 [-1, 2, 3] (by decide))).mono ?_
  rintro e w3 ⟨rfl, d3⟩
  rw [show decide (([-1, 2, 3] : List Int) = [-1, 2, 3]) = true from by decide]
  have B3 := hid ((below_new w2 _).trans (d3.below'.mono (by simp)))
  clear d3
  go_wp2_with fail
  refine (same20 a2 _ 2 cap2 2 2 [2, 3] [2, 3] _ rfl rfl (by omega) (by omega) ((L2.out.below B3.out).below (below_new _ _)) (lits_new w3 [2, 3] (by decide))).mono ?_
  rintro e w4 ⟨rfl, d4⟩
  rw [show decide (([2, 3] : List Int) = [2, 3]) = true from by decide]
  have B4 := hid ((below_new w3 _).trans (d4.below'.mono (by simp)))
  clear d4
  go_wp2_with fail
  refine (value27 _ _ 2 2 2 2 [1, -2] [true, true] _ rfl (by omega) rfl (by omega) ((lits_new w4 [1, -2] (by decide)).below (below_new _ _)) (by simpa using bools_new (w4.alloc (.cells #[.int .i32 1, .int .i32 (-2)] 40)) [true, true])).mono ?_
  rintro e w5 ⟨rfl, rfl⟩
  rw [show Cnf.val [1, -2] [true, true] = true from by decide]
  go_wp2_with fail
  refine (value27 _ _ 1 1 2 2 [-1] [true, true] _ rfl (by omega) rfl (by omega)
    (by have h := (lits_new ((w4.alloc (.cells #[.int .i32 1, .int .i32 (-2)] 40)).alloc (.cells #[.bool true, .bool true] 4)) [-1] (by decide)).below (below_new _ (.cells #[.bool true, .bool true] 4)); simpa using h)
    (by have h := bools_new (((w4.alloc (.cells #[.int .i32 1, .int .i32 (-2)] 40)).alloc (.cells #[.bool true, .bool true] 4)).alloc (.cells #[.int .i32 (-1)] 40)) [true, true]; simpa using h)).mono ?_
  rintro e w6 ⟨rfl, rfl⟩
  rw [show Cnf.val [-1] [true, true] = false from by decide]
  have B6 : Hid (Below w.heap.size w ((((w4.alloc (.cells #[.int .i32 1, .int .i32 (-2)] 40)).alloc (.cells #[.bool true, .bool true] 4)).alloc (.cells #[.int .i32 (-1)] 40)).alloc (.cells #[.bool true, .bool true] 4))) := by
    have h := ((B1.out.trans (B2.out.mono B1.out.size)).trans (B3.out.mono (Nat.le_trans B1.out.size B2.out.size))).trans (B4.out.mono (Nat.le_trans (Nat.le_trans B1.out.size B2.out.size) B3.out.size))
    have hs := h.size
    exact (((h.alloc hs _).alloc (by simp; omega) _).alloc (by simp; omega) _).alloc (by simp; omega) _
  go_wp2
  go_ret
  exact ⟨rfl, B6.out⟩

end Go.Proofs.Ytccbcijkahnkkaa
