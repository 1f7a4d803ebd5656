/- The four clauses of two variables. -/
import Derived.Test.YthpebfojkpnojaaNew
import Derived.Laws.Rows
namespace Go.Proofs.Ythpebfojkpnojaa
open Go.RowKit Go.Maps
set_option linter.unusedVariables false
set_option linter.unusedSimpArgs false
set_option maxRecDepth 100000
theorem results_row1 {P : Program} {fn : Func} {p : Tmp} {ty : TypeId} (h : fn.results = #[.cell p ty]) (tmps : Array Value) (w : World) (g : Nat) (t : TypeId) (cs : Array Value) (fr : Nat × Nat) (d : TypeDesc)
    (hp : tmps.getD p undef = .pointer (some ⟨g, 0, none⟩)) (hg : w.heap[g]? = some (.cells cs t fr))
    (hu : P.underlying ty = some d) (hd : (match d with | .struct _ | .array _ _ => true | _ => false) = true) (hi : (P.info? ty).map (·.size) = some cs.size) :
    (results fn tmps).run P w = .ok (.agg cs) w := by
  have hp' : tmps[p]?.getD undef = .pointer (some ⟨g, 0, none⟩) := by simpa using hp
  simp [results, h, hp', asAddr, run_loadVar_row w g t ty cs fr d hg hu hd hi]
theorem lits2 {W : World} {b : Nat} {x y : Int} (h : W.heap[b]? = some (.cells #[.int .i32 x, .int .i32 y] 45 (0, 0))) (hx : -2147483648 ≤ x ∧ x ≤ 2147483647) (hy : -2147483648 ≤ y ∧ y ≤ 2147483647) : Lits W (some ⟨b, 0, none⟩) [x, y] := by
  refine ⟨fun z hz => by simp at hz; rcases hz with rfl | rfl <;> assumption, .inr ⟨b, 0, rfl, lt_of_blk h, fun j hj => ?_⟩⟩
  have hcase : j = 0 ∨ j = 1 := by simp at hj; omega
  rcases hcase with rfl | rfl
  · exact row_cell h 0
  · exact row_cell h 1
def sq : List (List Int) := [[1, 2], [-1, 2], [1, -2], [-1, -2]]
set_option maxHeartbeats 4000000 in
theorem square45 (w : World) : Calls Try.prog 45 #[] w fun e w' => ∃ a, e = .returned (.agg #[.int .i64 2, .slice a 4 4]) ∧ Cls w' a sq ∧ Below w.heap.size w w' := by
  go_enter Try.func45, Try.ntmps45
  go_wp2_with fail
  generalize hW : ((((((w.alloc (Obj.cells #[Value.int IntKind.i64 2, Value.slice (some { block := w.heap.size + 1 + 1 + 1 + 1 + 1, off := 0 }) 4 4] 57)).alloc (Obj.cells #[Value.int IntKind.i32 1, Value.int IntKind.i32 2] 45)).alloc (Obj.cells #[Value.int IntKind.i32 (-1), Value.int IntKind.i32 2] 45)).alloc (Obj.cells #[Value.int IntKind.i32 1, Value.int IntKind.i32 (-2)] 45)).alloc (Obj.cells #[Value.int IntKind.i32 (-1), Value.int IntKind.i32 (-2)] 45)).alloc
      (Obj.cells #[Value.slice (some { block := w.heap.size + 1, off := 0 }) 2 2, Value.slice (some { block := w.heap.size + 1 + 1, off := 0 }) 2 2, Value.slice (some { block := w.heap.size + 1 + 1 + 1, off := 0 }) 2 2, Value.slice (some { block := w.heap.size + 1 + 1 + 1 + 1, off := 0 }) 2 2] 23)) = V
  have hB : Below w.heap.size w V := by
    rw [← hW]
    exact bla (bla (bla (bla (bla (bla (Below.refl _ _) _) _) _) _) _) _
  have hs : V.heap.size = w.heap.size + 6 := by rw [← hW]; simp only [alloc_size]
  have g0 : V.heap[w.heap.size]? = some (.cells #[.int .i64 2, .slice (some ⟨w.heap.size + 1 + 1 + 1 + 1 + 1, 0, none⟩) 4 4] 57 (0, 0)) := by
    rw [← hW]; simp only [alloc_get, alloc_size]; repeat (first | rw [if_pos trivial] | rw [if_pos (by omega)] | rw [if_neg (by omega)])
  have g1 : V.heap[w.heap.size + 1]? = some (.cells #[.int .i32 1, .int .i32 2] 45 (0, 0)) := by
    rw [← hW]; simp only [alloc_get, alloc_size]; repeat (first | rw [if_pos trivial] | rw [if_pos (by omega)] | rw [if_neg (by omega)])
  have g2 : V.heap[w.heap.size + 1 + 1]? = some (.cells #[.int .i32 (-1), .int .i32 2] 45 (0, 0)) := by
    rw [← hW]; simp only [alloc_get, alloc_size]; repeat (first | rw [if_pos trivial] | rw [if_pos (by omega)] | rw [if_neg (by omega)])
  have g3 : V.heap[w.heap.size + 1 + 1 + 1]? = some (.cells #[.int .i32 1, .int .i32 (-2)] 45 (0, 0)) := by
    rw [← hW]; simp only [alloc_get, alloc_size]; repeat (first | rw [if_pos trivial] | rw [if_pos (by omega)] | rw [if_neg (by omega)])
  have g4 : V.heap[w.heap.size + 1 + 1 + 1 + 1]? = some (.cells #[.int .i32 (-1), .int .i32 (-2)] 45 (0, 0)) := by
    rw [← hW]; simp only [alloc_get, alloc_size]; repeat (first | rw [if_pos trivial] | rw [if_pos (by omega)] | rw [if_neg (by omega)])
  have g5 : V.heap[w.heap.size + 1 + 1 + 1 + 1 + 1]? = some (.cells #[.slice (some ⟨w.heap.size + 1, 0, none⟩) 2 2, .slice (some ⟨w.heap.size + 1 + 1, 0, none⟩) 2 2, .slice (some ⟨w.heap.size + 1 + 1 + 1, 0, none⟩) 2 2, .slice (some ⟨w.heap.size + 1 + 1 + 1 + 1, 0, none⟩) 2 2] 23 (0, 0)) := by
    rw [← hW]; simp only [alloc_get, alloc_size]; repeat (first | rw [if_pos trivial] | rw [if_pos (by omega)] | rw [if_neg (by omega)])
  clear hW
  refine bodyPost_ret (results_row1 rfl _ _ w.heap.size 57 _ (0, 0) _ rfl g0 Try.underlying57 rfl (by kernel_rfl)) rfl ?_
  refine ⟨_, rfl, ⟨by intro c hc; simp [sq] at hc; rcases hc with rfl | rfl | rfl | rfl <;> decide, .inr ⟨_, 0, rfl, lt_of_blk g5, fun j hj => ?_⟩⟩, hB⟩
  have hj4 : j < 4 := hj
  have hcase : j = 0 ∨ j = 1 ∨ j = 2 ∨ j = 3 := by omega
  rcases hcase with rfl | rfl | rfl | rfl
  · exact ⟨_, _, row_cell g5 0, lits2 g1 (by decide) (by decide)⟩
  · exact ⟨_, _, row_cell g5 1, lits2 g2 (by decide) (by decide)⟩
  · exact ⟨_, _, row_cell g5 2, lits2 g3 (by decide) (by decide)⟩
  · exact ⟨_, _, row_cell g5 3, lits2 g4 (by decide) (by decide)⟩
end Go.Proofs.Ythpebfojkpnojaa
