/- Two records compared: which goes ahead. -/
import Derived.Test.YtekkbpaelojmeaaCmp
namespace Go.Proofs.Ytekkbpaelojmeaa
open Go.RowKit Go.Maps
set_option linter.unusedVariables false
set_option maxRecDepth 100000

theorem heap_new2 (w : World) (o1 o2 : Obj) : ((w.alloc o1).alloc o2).heap[w.heap.size + 1]? = some o2 := by
  have := heap_alloc_new (w.alloc o1) o2
  simpa using this
set_option maxHeartbeats 4000000 in
theorem compare19 (x y : K4) (w : World) :
    Calls Try.prog 19 #[.agg (enc5 x).toArray, .agg (enc5 y).toArray] w fun e w' => e = .returned (.int .i64 (cf x y)) ∧ w' = (((w.alloc (.cells (enc5 x).toArray 29)).alloc (.cells (enc5 y).toArray 29)).alloc (.cells #[.int .i64 (c3 y.lb x.lb), .int .i64 (c3 y.sz x.sz), .int .i64 (c3 x.us y.us), .int .i64 (c3 x.id y.id)] 3)).drewN 1 := by
  obtain ⟨xi, xl, xs, xu⟩ := x
  obtain ⟨yi, yl, ys, yu⟩ := y
  have HM := hid (show cf ⟨xi, xl, xs, xu⟩ ⟨yi, yl, ys, yu⟩ = or4 (c3 yl xl) (c3 ys xs) (c3 xu yu) (c3 xi yi) from rfl)
  have C1 := hid (fun (W : World) => cmp26 yl xl W)
  have C2 := hid (fun (W : World) => cmp26 ys xs W)
  have C3 := hid (fun (W : World) => cmp26 xu yu W)
  have C4 := hid (fun (W : World) => cmp27 xi yi W)
  dsimp only [enc5]
  generalize c3 yl xl = r1 at C1 HM
  generalize c3 ys xs = r2 at C2 HM
  generalize c3 xu yu = r3 at C3 HM
  generalize c3 xi yi = r4 at C4 HM
  generalize cf ⟨xi, xl, xs, xu⟩ ⟨yi, yl, ys, yu⟩ = res at *
  obtain ⟨W2, hW2⟩ : ∃ W2, (w.alloc (.cells #[.int .i64 xi, .int .i64 xl, .int .i64 xs, .int .i64 xu, .bool false] 29)).alloc (.cells #[.int .i64 yi, .int .i64 yl, .int .i64 ys, .int .i64 yu, .bool false] 29) = W2 := ⟨_, rfl⟩
  have s2 : W2.heap.size = w.heap.size + 1 + 1 := by rw [← hW2]; simp
  have b0 : W2.heap[w.heap.size]? = some (.cells #[.int .i64 xi, .int .i64 xl, .int .i64 xs, .int .i64 xu, .bool false] 29 (0, 0)) := by rw [← hW2, Below.heap_alloc _ _ _ (by simp)]; exact heap_alloc_new w _
  have b1 : W2.heap[w.heap.size + 1]? = some (.cells #[.int .i64 yi, .int .i64 yl, .int .i64 ys, .int .i64 yu, .bool false] 29 (0, 0)) := by rw [← hW2]; exact heap_new2 w _ _
  have S1 : ∀ W : World, W.heap[w.heap.size]? = W2.heap[w.heap.size]? → W.heap[w.heap.size + 1]? = W2.heap[w.heap.size + 1]? → (W.cell? ⟨w.heap.size, 0, none⟩ = some (.int .i64 xi) ∧ W.cell? ⟨w.heap.size, 1, none⟩ = some (.int .i64 xl) ∧ W.cell? ⟨w.heap.size, 2, none⟩ = some (.int .i64 xs) ∧ W.cell? ⟨w.heap.size, 3, none⟩ = some (.int .i64 xu)) ∧ W.cell? ⟨w.heap.size + 1, 0, none⟩ = some (.int .i64 yi) ∧ W.cell? ⟨w.heap.size + 1, 1, none⟩ = some (.int .i64 yl) ∧ W.cell? ⟨w.heap.size + 1, 2, none⟩ = some (.int .i64 ys) ∧ W.cell? ⟨w.heap.size + 1, 3, none⟩ = some (.int .i64 yu) :=
    fun W h0 h1 => ⟨⟨row_cell (h0.trans b0) 0, row_cell (h0.trans b0) 1, row_cell (h0.trans b0) 2, row_cell (h0.trans b0) 3⟩, row_cell (h1.trans b1) 0, row_cell (h1.trans b1) 1, row_cell (h1.trans b1) 2, row_cell (h1.trans b1) 3⟩
  have KA := hid (S1 W2.drew rfl rfl)
  have KB := hid (S1 (W2.alloc (.cells #[.int .i64 r1, .int .i64 r2, .int .i64 r3, .int .i64 r4] 3)).drew (Below.heap_alloc W2 _ _ (by omega)) (Below.heap_alloc W2 _ _ (by omega)))
  have hc0 : ((W2.alloc (.cells #[.int .i64 r1, .int .i64 r2, .int .i64 r3, .int .i64 r4] 3)).drew).heap[W2.heap.size]? = some (.cells #[.int .i64 r1, .int .i64 r2, .int .i64 r3, .int .i64 r4] 3 (0, 0)) := heap_alloc_new W2 _
  have C25 := hid (or25 W2.heap.size r1 r2 r3 r4 _ (row_cell hc0 0) (row_cell hc0 1) (row_cell hc0 2) (row_cell hc0 3))
  have HW := hid hW2
  clear hc0 S1 b0 b1 s2 hW2
  go_enter Try.func19, Try.ntmps19
  go_wp2
  rw [HW.out]
  go_region_held3 (fun W => (W.cell? ⟨w.heap.size, 0, none⟩ = some (.int .i64 xi) ∧ W.cell? ⟨w.heap.size, 1, none⟩ = some (.int .i64 xl) ∧ W.cell? ⟨w.heap.size, 2, none⟩ = some (.int .i64 xs) ∧ W.cell? ⟨w.heap.size, 3, none⟩ = some (.int .i64 xu)) ∧ W.cell? ⟨w.heap.size + 1, 0, none⟩ = some (.int .i64 yi) ∧ W.cell? ⟨w.heap.size + 1, 1, none⟩ = some (.int .i64 yl) ∧ W.cell? ⟨w.heap.size + 1, 2, none⟩ = some (.int .i64 ys) ∧ W.cell? ⟨w.heap.size + 1, 3, none⟩ = some (.int .i64 yu))
    (first | exact KA.out | exact KB.out)
    (first
      | (go_at_call_of 26 (Value.int IntKind.i64 yl); refine (C1.out _).mono ?_; rintro e W7 ⟨rfl, rfl⟩)
      | (go_at_call_of 26 (Value.int IntKind.i64 ys); refine (C2.out _).mono ?_; rintro e W7 ⟨rfl, rfl⟩)
      | (go_at_call_of 26 (Value.int IntKind.i64 xu); refine (C3.out _).mono ?_; rintro e W7 ⟨rfl, rfl⟩)
      | (go_at_call 27; refine (C4.out _).mono ?_; rintro e W8 ⟨rfl, rfl⟩)
      | (go_at_call 25; refine C25.out.mono ?_; rintro e W9 ⟨rfl, rfl⟩))
  go_wp2
  go_ret
  exact ⟨ret_num HM.out.symm, by rw [HW.out]; rfl⟩
end Go.Proofs.Ytekkbpaelojmeaa
