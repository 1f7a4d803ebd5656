/- The examples' rows of steps, as they are laid. -/
import Derived.Test.YtdodfmgbjfhnpaaDoorKn
namespace Go.Proofs.YtdodfmgbjfhnpaaDoor
open Go.RowKit
set_option linter.unusedVariables false
set_option linter.unusedSimpArgs false
set_option maxRecDepth 100000
set_option maxHeartbeats 4000000

theorem goodRow (w : World) : ∃ A : World, ((((w.alloc (.cells #[.int .i64 9, .int .i64 (-4), .int .i64 7] 2)).alloc (.cells #[.int .i32 1048576, .int .i32 (-1048576)] 44)).alloc (.cells #[.int .i64 4611686018427387903, .int .i64 (-4611686018427387903)] 2)).alloc (.cells #[.int .i64 1] 2)).alloc (.cells #[.int .u8 1, .int .i64 10, .slice none 0 0, .slice (some ⟨w.heap.size, 0, none⟩) 3 3, .int .u8 2, .int .i64 0, .slice none 0 0, .slice none 0 0, .int .u8 1, .int .i64 4611686018427387903, .slice (some ⟨w.heap.size + 1, 0, none⟩) 2 2, .slice (some ⟨w.heap.size + 1 + 1, 0, none⟩) 2 2, .int .u8 2, .int .i64 4611686018427387903, .slice none 0 0, .slice (some ⟨w.heap.size + 1 + 1 + 1, 0, none⟩) 1 1] 43) = A ∧ Below w.heap.size w A ∧ A.heap.size = w.heap.size + 5 ∧ Steps A (some ⟨w.heap.size + 1 + 1 + 1 + 1, 0, none⟩) [Lra.gd0, Lra.gd1, Lra.gd2, Lra.gd3] := by
  obtain ⟨V, hV⟩ : ∃ V, ((((w.alloc (.cells #[.int .i64 9, .int .i64 (-4), .int .i64 7] 2)).alloc (.cells #[.int .i32 1048576, .int .i32 (-1048576)] 44)).alloc (.cells #[.int .i64 4611686018427387903, .int .i64 (-4611686018427387903)] 2)).alloc (.cells #[.int .i64 1] 2)).alloc (.cells #[.int .u8 1, .int .i64 10, .slice none 0 0, .slice (some ⟨w.heap.size, 0, none⟩) 3 3, .int .u8 2, .int .i64 0, .slice none 0 0, .slice none 0 0, .int .u8 1, .int .i64 4611686018427387903, .slice (some ⟨w.heap.size + 1, 0, none⟩) 2 2, .slice (some ⟨w.heap.size + 1 + 1, 0, none⟩) 2 2, .int .u8 2, .int .i64 4611686018427387903, .slice none 0 0, .slice (some ⟨w.heap.size + 1 + 1 + 1, 0, none⟩) 1 1] 43) = V := ⟨_, rfl⟩
  refine ⟨V, hV, ?_, by rw [← hV]; simp, ?_⟩
  · rw [← hV]
    exact (((((Below.refl _ w).alloc (Nat.le_refl _) _).alloc (by simp) _).alloc (by simp; omega) _).alloc (by simp; omega) _).alloc (by simp; omega) _
  have hz : V.heap.size = w.heap.size + 5 := by rw [← hV]; simp
  have a0 : V.heap[w.heap.size]? = some (.cells #[.int .i64 9, .int .i64 (-4), .int .i64 7] 2 (0, 0)) := by
    rw [← hV, alloc_at, if_neg (by simp only [World.size_alloc]; omega), alloc_at, if_neg (by simp only [World.size_alloc]; omega), alloc_at, if_neg (by simp only [World.size_alloc]; omega), alloc_at, if_neg (by simp only [World.size_alloc]; omega), alloc_at, if_pos (by simp only [World.size_alloc])]
  have a1 : V.heap[w.heap.size + 1]? = some (.cells #[.int .i32 1048576, .int .i32 (-1048576)] 44 (0, 0)) := by
    rw [← hV, alloc_at, if_neg (by simp only [World.size_alloc]; omega), alloc_at, if_neg (by simp only [World.size_alloc]; omega), alloc_at, if_neg (by simp only [World.size_alloc]; omega), alloc_at, if_pos (by simp only [World.size_alloc])]
  have a2 : V.heap[w.heap.size + 1 + 1]? = some (.cells #[.int .i64 4611686018427387903, .int .i64 (-4611686018427387903)] 2 (0, 0)) := by
    rw [← hV, alloc_at, if_neg (by simp only [World.size_alloc]; omega), alloc_at, if_neg (by simp only [World.size_alloc]; omega), alloc_at, if_pos (by simp only [World.size_alloc])]
  have a3 : V.heap[w.heap.size + 1 + 1 + 1]? = some (.cells #[.int .i64 1] 2 (0, 0)) := by
    rw [← hV, alloc_at, if_neg (by simp only [World.size_alloc]; omega), alloc_at, if_pos (by simp only [World.size_alloc])]
  have a4 : V.heap[w.heap.size + 1 + 1 + 1 + 1]? = some (.cells #[.int .u8 1, .int .i64 10, .slice none 0 0, .slice (some ⟨w.heap.size, 0, none⟩) 3 3, .int .u8 2, .int .i64 0, .slice none 0 0, .slice none 0 0, .int .u8 1, .int .i64 4611686018427387903, .slice (some ⟨w.heap.size + 1, 0, none⟩) 2 2, .slice (some ⟨w.heap.size + 1 + 1, 0, none⟩) 2 2, .int .u8 2, .int .i64 4611686018427387903, .slice none 0 0, .slice (some ⟨w.heap.size + 1 + 1 + 1, 0, none⟩) 1 1] 43 (0, 0)) := by
    rw [← hV, alloc_at, if_pos (by simp only [World.size_alloc])]
  clear hV
  right
  refine ⟨_, 0, rfl, fun j hj => ?_⟩
  match j, hj with
  | 0, _ =>
    show ∃ a1 c1 a2 c2, StC V _ _ (⟨1, 10, [], [9, -4, 7]⟩ : Lra.Stp) a1 c1 a2 c2
    refine ⟨none, 0, some ⟨w.heap.size, 0, none⟩, 3, ?_, ?_, ?_, ?_, ⟨?_, ?_, by decide, by decide, by decide⟩⟩
    · rw [row_cell a4]; rfl
    · rw [row_cell a4]; rfl
    · rw [row_cell a4]; rfl
    · rw [row_cell a4]; rfl
    · exact Row.nil _ _ _ _ _
    · refine ⟨by decide, .inr ⟨_, 0, rfl, by omega, fun i hi => ?_⟩⟩
      rw [row_cell a0]
      match i, hi with
      | 0, _ => rfl
      | 1, _ => rfl
      | 2, _ => rfl
  | 1, _ =>
    show ∃ a1 c1 a2 c2, StC V _ _ (⟨2, 0, [], []⟩ : Lra.Stp) a1 c1 a2 c2
    refine ⟨none, 0, none, 0, ?_, ?_, ?_, ?_, ⟨?_, ?_, by decide, by decide, by decide⟩⟩
    · rw [row_cell a4]; rfl
    · rw [row_cell a4]; rfl
    · rw [row_cell a4]; rfl
    · rw [row_cell a4]; rfl
    · exact Row.nil _ _ _ _ _
    · exact Row.nil _ _ _ _ _
  | 2, _ =>
    show ∃ a1 c1 a2 c2, StC V _ _ (⟨1, 4611686018427387903, [1048576, -1048576], [4611686018427387903, -4611686018427387903]⟩ : Lra.Stp) a1 c1 a2 c2
    refine ⟨some ⟨w.heap.size + 1, 0, none⟩, 2, some ⟨w.heap.size + 1 + 1, 0, none⟩, 2, ?_, ?_, ?_, ?_, ⟨?_, ?_, by decide, by decide, by decide⟩⟩
    · rw [row_cell a4]; rfl
    · rw [row_cell a4]; rfl
    · rw [row_cell a4]; rfl
    · rw [row_cell a4]; rfl
    · refine ⟨by decide, .inr ⟨_, 0, rfl, by omega, fun i hi => ?_⟩⟩
      rw [row_cell a1]
      match i, hi with
      | 0, _ => rfl
      | 1, _ => rfl
    · refine ⟨by decide, .inr ⟨_, 0, rfl, by omega, fun i hi => ?_⟩⟩
      rw [row_cell a2]
      match i, hi with
      | 0, _ => rfl
      | 1, _ => rfl
  | 3, _ =>
    show ∃ a1 c1 a2 c2, StC V _ _ (⟨2, 4611686018427387903, [], [1]⟩ : Lra.Stp) a1 c1 a2 c2
    refine ⟨none, 0, some ⟨w.heap.size + 1 + 1 + 1, 0, none⟩, 1, ?_, ?_, ?_, ?_, ⟨?_, ?_, by decide, by decide, by decide⟩⟩
    · rw [row_cell a4]; rfl
    · rw [row_cell a4]; rfl
    · rw [row_cell a4]; rfl
    · rw [row_cell a4]; rfl
    · exact Row.nil _ _ _ _ _
    · refine ⟨by decide, .inr ⟨_, 0, rfl, by omega, fun i hi => ?_⟩⟩
      rw [row_cell a3]
      match i, hi with
      | 0, _ => rfl
theorem badRow (w : World) : ∃ A : World, (((((((w.alloc (.cells #[.int .i32 0] 44)).alloc (.cells #[.int .i32 1048577] 44)).alloc (.cells #[.int .i32 (-2147483648)] 44)).alloc (.cells #[.int .i64 0] 2)).alloc (.cells #[.int .i64 (-9223372036854775808)] 2)).alloc (.cells #[.int .i32 1] 44)).alloc (.cells #[.int .i64 (-1)] 2)).alloc (.cells #[.int .u8 0, .int .i64 0, .slice none 0 0, .slice none 0 0, .int .u8 3, .int .i64 1, .slice none 0 0, .slice none 0 0, .int .u8 1, .int .i64 0, .slice none 0 0, .slice none 0 0, .int .u8 1, .int .i64 (-1), .slice none 0 0, .slice none 0 0, .int .u8 1, .int .i64 4611686018427387904, .slice none 0 0, .slice none 0 0, .int .u8 1, .int .i64 1, .slice (some ⟨w.heap.size, 0, none⟩) 1 1, .slice none 0 0, .int .u8 1, .int .i64 1, .slice (some ⟨w.heap.size + 1, 0, none⟩) 1 1, .slice none 0 0, .int .u8 1, .int .i64 1, .slice (some ⟨w.heap.size + 1 + 1, 0, none⟩) 1 1, .slice none 0 0, .int .u8 1, .int .i64 1, .slice none 0 0, .slice (some ⟨w.heap.size + 1 + 1 + 1, 0, none⟩) 1 1, .int .u8 1, .int .i64 1, .slice none 0 0, .slice (some ⟨w.heap.size + 1 + 1 + 1 + 1, 0, none⟩) 1 1, .int .u8 2, .int .i64 (-1), .slice none 0 0, .slice none 0 0, .int .u8 2, .int .i64 0, .slice (some ⟨w.heap.size + 1 + 1 + 1 + 1 + 1, 0, none⟩) 1 1, .slice none 0 0, .int .u8 2, .int .i64 0, .slice none 0 0, .slice (some ⟨w.heap.size + 1 + 1 + 1 + 1 + 1 + 1, 0, none⟩) 1 1] 43) = A ∧ Below w.heap.size w A ∧ A.heap.size = w.heap.size + 8 ∧ Steps A (some ⟨w.heap.size + 1 + 1 + 1 + 1 + 1 + 1 + 1, 0, none⟩) Lra.bads := by
  obtain ⟨V, hV⟩ : ∃ V, (((((((w.alloc (.cells #[.int .i32 0] 44)).alloc (.cells #[.int .i32 1048577] 44)).alloc (.cells #[.int .i32 (-2147483648)] 44)).alloc (.cells #[.int .i64 0] 2)).alloc (.cells #[.int .i64 (-9223372036854775808)] 2)).alloc (.cells #[.int .i32 1] 44)).alloc (.cells #[.int .i64 (-1)] 2)).alloc (.cells #[.int .u8 0, .int .i64 0, .slice none 0 0, .slice none 0 0, .int .u8 3, .int .i64 1, .slice none 0 0, .slice none 0 0, .int .u8 1, .int .i64 0, .slice none 0 0, .slice none 0 0, .int .u8 1, .int .i64 (-1), .slice none 0 0, .slice none 0 0, .int .u8 1, .int .i64 4611686018427387904, .slice none 0 0, .slice none 0 0, .int .u8 1, .int .i64 1, .slice (some ⟨w.heap.size, 0, none⟩) 1 1, .slice none 0 0, .int .u8 1, .int .i64 1, .slice (some ⟨w.heap.size + 1, 0, none⟩) 1 1, .slice none 0 0, .int .u8 1, .int .i64 1, .slice (some ⟨w.heap.size + 1 + 1, 0, none⟩) 1 1, .slice none 0 0, .int .u8 1, .int .i64 1, .slice none 0 0, .slice (some ⟨w.heap.size + 1 + 1 + 1, 0, none⟩) 1 1, .int .u8 1, .int .i64 1, .slice none 0 0, .slice (some ⟨w.heap.size + 1 + 1 + 1 + 1, 0, none⟩) 1 1, .int .u8 2, .int .i64 (-1), .slice none 0 0, .slice none 0 0, .int .u8 2, .int .i64 0, .slice (some ⟨w.heap.size + 1 + 1 + 1 + 1 + 1, 0, none⟩) 1 1, .slice none 0 0, .int .u8 2, .int .i64 0, .slice none 0 0, .slice (some ⟨w.heap.size + 1 + 1 + 1 + 1 + 1 + 1, 0, none⟩) 1 1] 43) = V := ⟨_, rfl⟩
  refine ⟨V, hV, ?_, by rw [← hV]; simp, ?_⟩
  · rw [← hV]
    exact ((((((((Below.refl _ w).alloc (Nat.le_refl _) _).alloc (by simp) _).alloc (by simp; omega) _).alloc (by simp; omega) _).alloc (by simp; omega) _).alloc (by simp; omega) _).alloc (by simp; omega) _).alloc (by simp; omega) _
  have hz : V.heap.size = w.heap.size + 8 := by rw [← hV]; simp
  have a0 : V.heap[w.heap.size]? = some (.cells #[.int .i32 0] 44 (0, 0)) := by
    rw [← hV, alloc_at, if_neg (by simp only [World.size_alloc]; omega), alloc_at, if_neg (by simp only [World.size_alloc]; omega), alloc_at, if_neg (by simp only [World.size_alloc]; omega), alloc_at, if_neg (by simp only [World.size_alloc]; omega), alloc_at, if_neg (by simp only [World.size_alloc]; omega), alloc_at, if_neg (by simp only [World.size_alloc]; omega), alloc_at, if_neg (by simp only [World.size_alloc]; omega), alloc_at, if_pos (by simp only [World.size_alloc])]
  have a1 : V.heap[w.heap.size + 1]? = some (.cells #[.int .i32 1048577] 44 (0, 0)) := by
    rw [← hV, alloc_at, if_neg (by simp only [World.size_alloc]; omega), alloc_at, if_neg (by simp only [World.size_alloc]; omega), alloc_at, if_neg (by simp only [World.size_alloc]; omega), alloc_at, if_neg (by simp only [World.size_alloc]; omega), alloc_at, if_neg (by simp only [World.size_alloc]; omega), alloc_at, if_neg (by simp only [World.size_alloc]; omega), alloc_at, if_pos (by simp only [World.size_alloc])]
  have a2 : V.heap[w.heap.size + 1 + 1]? = some (.cells #[.int .i32 (-2147483648)] 44 (0, 0)) := by
    rw [← hV, alloc_at, if_neg (by simp only [World.size_alloc]; omega), alloc_at, if_neg (by simp only [World.size_alloc]; omega), alloc_at, if_neg (by simp only [World.size_alloc]; omega), alloc_at, if_neg (by simp only [World.size_alloc]; omega), alloc_at, if_neg (by simp only [World.size_alloc]; omega), alloc_at, if_pos (by simp only [World.size_alloc])]
  have a3 : V.heap[w.heap.size + 1 + 1 + 1]? = some (.cells #[.int .i64 0] 2 (0, 0)) := by
    rw [← hV, alloc_at, if_neg (by simp only [World.size_alloc]; omega), alloc_at, if_neg (by simp only [World.size_alloc]; omega), alloc_at, if_neg (by simp only [World.size_alloc]; omega), alloc_at, if_neg (by simp only [World.size_alloc]; omega), alloc_at, if_pos (by simp only [World.size_alloc])]
  have a4 : V.heap[w.heap.size + 1 + 1 + 1 + 1]? = some (.cells #[.int .i64 (-9223372036854775808)] 2 (0, 0)) := by
    rw [← hV, alloc_at, if_neg (by simp only [World.size_alloc]; omega), alloc_at, if_neg (by simp only [World.size_alloc]; omega), alloc_at, if_neg (by simp only [World.size_alloc]; omega), alloc_at, if_pos (by simp only [World.size_alloc])]
  have a5 : V.heap[w.heap.size + 1 + 1 + 1 + 1 + 1]? = some (.cells #[.int .i32 1] 44 (0, 0)) := by
    rw [← hV, alloc_at, if_neg (by simp only [World.size_alloc]; omega), alloc_at, if_neg (by simp only [World.size_alloc]; omega), alloc_at, if_pos (by simp only [World.size_alloc])]
  have a6 : V.heap[w.heap.size + 1 + 1 + 1 + 1 + 1 + 1]? = some (.cells #[.int .i64 (-1)] 2 (0, 0)) := by
    rw [← hV, alloc_at, if_neg (by simp only [World.size_alloc]; omega), alloc_at, if_pos (by simp only [World.size_alloc])]
  have a7 : V.heap[w.heap.size + 1 + 1 + 1 + 1 + 1 + 1 + 1]? = some (.cells #[.int .u8 0, .int .i64 0, .slice none 0 0, .slice none 0 0, .int .u8 3, .int .i64 1, .slice none 0 0, .slice none 0 0, .int .u8 1, .int .i64 0, .slice none 0 0, .slice none 0 0, .int .u8 1, .int .i64 (-1), .slice none 0 0, .slice none 0 0, .int .u8 1, .int .i64 4611686018427387904, .slice none 0 0, .slice none 0 0, .int .u8 1, .int .i64 1, .slice (some ⟨w.heap.size, 0, none⟩) 1 1, .slice none 0 0, .int .u8 1, .int .i64 1, .slice (some ⟨w.heap.size + 1, 0, none⟩) 1 1, .slice none 0 0, .int .u8 1, .int .i64 1, .slice (some ⟨w.heap.size + 1 + 1, 0, none⟩) 1 1, .slice none 0 0, .int .u8 1, .int .i64 1, .slice none 0 0, .slice (some ⟨w.heap.size + 1 + 1 + 1, 0, none⟩) 1 1, .int .u8 1, .int .i64 1, .slice none 0 0, .slice (some ⟨w.heap.size + 1 + 1 + 1 + 1, 0, none⟩) 1 1, .int .u8 2, .int .i64 (-1), .slice none 0 0, .slice none 0 0, .int .u8 2, .int .i64 0, .slice (some ⟨w.heap.size + 1 + 1 + 1 + 1 + 1, 0, none⟩) 1 1, .slice none 0 0, .int .u8 2, .int .i64 0, .slice none 0 0, .slice (some ⟨w.heap.size + 1 + 1 + 1 + 1 + 1 + 1, 0, none⟩) 1 1] 43 (0, 0)) := by
    rw [← hV, alloc_at, if_pos (by simp only [World.size_alloc])]
  clear hV
  right
  refine ⟨_, 0, rfl, fun j hj => ?_⟩
  match j, hj with
  | 0, _ =>
    show ∃ a1 c1 a2 c2, StC V _ _ (⟨0, 0, [], []⟩ : Lra.Stp) a1 c1 a2 c2
    refine ⟨none, 0, none, 0, ?_, ?_, ?_, ?_, ⟨?_, ?_, by decide, by decide, by decide⟩⟩
    · rw [row_cell a7]; rfl
    · rw [row_cell a7]; rfl
    · rw [row_cell a7]; rfl
    · rw [row_cell a7]; rfl
    · exact Row.nil _ _ _ _ _
    · exact Row.nil _ _ _ _ _
  | 1, _ =>
    show ∃ a1 c1 a2 c2, StC V _ _ (⟨3, 1, [], []⟩ : Lra.Stp) a1 c1 a2 c2
    refine ⟨none, 0, none, 0, ?_, ?_, ?_, ?_, ⟨?_, ?_, by decide, by decide, by decide⟩⟩
    · rw [row_cell a7]; rfl
    · rw [row_cell a7]; rfl
    · rw [row_cell a7]; rfl
    · rw [row_cell a7]; rfl
    · exact Row.nil _ _ _ _ _
    · exact Row.nil _ _ _ _ _
  | 2, _ =>
    show ∃ a1 c1 a2 c2, StC V _ _ (⟨1, 0, [], []⟩ : Lra.Stp) a1 c1 a2 c2
    refine ⟨none, 0, none, 0, ?_, ?_, ?_, ?_, ⟨?_, ?_, by decide, by decide, by decide⟩⟩
    · rw [row_cell a7]; rfl
    · rw [row_cell a7]; rfl
    · rw [row_cell a7]; rfl
    · rw [row_cell a7]; rfl
    · exact Row.nil _ _ _ _ _
    · exact Row.nil _ _ _ _ _
  | 3, _ =>
    show ∃ a1 c1 a2 c2, StC V _ _ (⟨1, -1, [], []⟩ : Lra.Stp) a1 c1 a2 c2
    refine ⟨none, 0, none, 0, ?_, ?_, ?_, ?_, ⟨?_, ?_, by decide, by decide, by decide⟩⟩
    · rw [row_cell a7]; rfl
    · rw [row_cell a7]; rfl
    · rw [row_cell a7]; rfl
    · rw [row_cell a7]; rfl
    · exact Row.nil _ _ _ _ _
    · exact Row.nil _ _ _ _ _
  | 4, _ =>
    show ∃ a1 c1 a2 c2, StC V _ _ (⟨1, 4611686018427387904, [], []⟩ : Lra.Stp) a1 c1 a2 c2
    refine ⟨none, 0, none, 0, ?_, ?_, ?_, ?_, ⟨?_, ?_, by decide, by decide, by decide⟩⟩
    · rw [row_cell a7]; rfl
    · rw [row_cell a7]; rfl
    · rw [row_cell a7]; rfl
    · rw [row_cell a7]; rfl
    · exact Row.nil _ _ _ _ _
    · exact Row.nil _ _ _ _ _
  | 5, _ =>
    show ∃ a1 c1 a2 c2, StC V _ _ (⟨1, 1, [0], []⟩ : Lra.Stp) a1 c1 a2 c2
    refine ⟨some ⟨w.heap.size, 0, none⟩, 1, none, 0, ?_, ?_, ?_, ?_, ⟨?_, ?_, by decide, by decide, by decide⟩⟩
    · rw [row_cell a7]; rfl
    · rw [row_cell a7]; rfl
    · rw [row_cell a7]; rfl
    · rw [row_cell a7]; rfl
    · refine ⟨by decide, .inr ⟨_, 0, rfl, by omega, fun i hi => ?_⟩⟩
      rw [row_cell a0]
      match i, hi with
      | 0, _ => rfl
    · exact Row.nil _ _ _ _ _
  | 6, _ =>
    show ∃ a1 c1 a2 c2, StC V _ _ (⟨1, 1, [1048577], []⟩ : Lra.Stp) a1 c1 a2 c2
    refine ⟨some ⟨w.heap.size + 1, 0, none⟩, 1, none, 0, ?_, ?_, ?_, ?_, ⟨?_, ?_, by decide, by decide, by decide⟩⟩
    · rw [row_cell a7]; rfl
    · rw [row_cell a7]; rfl
    · rw [row_cell a7]; rfl
    · rw [row_cell a7]; rfl
    · refine ⟨by decide, .inr ⟨_, 0, rfl, by omega, fun i hi => ?_⟩⟩
      rw [row_cell a1]
      match i, hi with
      | 0, _ => rfl
    · exact Row.nil _ _ _ _ _
  | 7, _ =>
    show ∃ a1 c1 a2 c2, StC V _ _ (⟨1, 1, [-2147483648], []⟩ : Lra.Stp) a1 c1 a2 c2
    refine ⟨some ⟨w.heap.size + 1 + 1, 0, none⟩, 1, none, 0, ?_, ?_, ?_, ?_, ⟨?_, ?_, by decide, by decide, by decide⟩⟩
    · rw [row_cell a7]; rfl
    · rw [row_cell a7]; rfl
    · rw [row_cell a7]; rfl
    · rw [row_cell a7]; rfl
    · refine ⟨by decide, .inr ⟨_, 0, rfl, by omega, fun i hi => ?_⟩⟩
      rw [row_cell a2]
      match i, hi with
      | 0, _ => rfl
    · exact Row.nil _ _ _ _ _
  | 8, _ =>
    show ∃ a1 c1 a2 c2, StC V _ _ (⟨1, 1, [], [0]⟩ : Lra.Stp) a1 c1 a2 c2
    refine ⟨none, 0, some ⟨w.heap.size + 1 + 1 + 1, 0, none⟩, 1, ?_, ?_, ?_, ?_, ⟨?_, ?_, by decide, by decide, by decide⟩⟩
    · rw [row_cell a7]; rfl
    · rw [row_cell a7]; rfl
    · rw [row_cell a7]; rfl
    · rw [row_cell a7]; rfl
    · exact Row.nil _ _ _ _ _
    · refine ⟨by decide, .inr ⟨_, 0, rfl, by omega, fun i hi => ?_⟩⟩
      rw [row_cell a3]
      match i, hi with
      | 0, _ => rfl
  | 9, _ =>
    show ∃ a1 c1 a2 c2, StC V _ _ (⟨1, 1, [], [-9223372036854775808]⟩ : Lra.Stp) a1 c1 a2 c2
    refine ⟨none, 0, some ⟨w.heap.size + 1 + 1 + 1 + 1, 0, none⟩, 1, ?_, ?_, ?_, ?_, ⟨?_, ?_, by decide, by decide, by decide⟩⟩
    · rw [row_cell a7]; rfl
    · rw [row_cell a7]; rfl
    · rw [row_cell a7]; rfl
    · rw [row_cell a7]; rfl
    · exact Row.nil _ _ _ _ _
    · refine ⟨by decide, .inr ⟨_, 0, rfl, by omega, fun i hi => ?_⟩⟩
      rw [row_cell a4]
      match i, hi with
      | 0, _ => rfl
  | 10, _ =>
    show ∃ a1 c1 a2 c2, StC V _ _ (⟨2, -1, [], []⟩ : Lra.Stp) a1 c1 a2 c2
    refine ⟨none, 0, none, 0, ?_, ?_, ?_, ?_, ⟨?_, ?_, by decide, by decide, by decide⟩⟩
    · rw [row_cell a7]; rfl
    · rw [row_cell a7]; rfl
    · rw [row_cell a7]; rfl
    · rw [row_cell a7]; rfl
    · exact Row.nil _ _ _ _ _
    · exact Row.nil _ _ _ _ _
  | 11, _ =>
    show ∃ a1 c1 a2 c2, StC V _ _ (⟨2, 0, [1], []⟩ : Lra.Stp) a1 c1 a2 c2
    refine ⟨some ⟨w.heap.size + 1 + 1 + 1 + 1 + 1, 0, none⟩, 1, none, 0, ?_, ?_, ?_, ?_, ⟨?_, ?_, by decide, by decide, by decide⟩⟩
    · rw [row_cell a7]; rfl
    · rw [row_cell a7]; rfl
    · rw [row_cell a7]; rfl
    · rw [row_cell a7]; rfl
    · refine ⟨by decide, .inr ⟨_, 0, rfl, by omega, fun i hi => ?_⟩⟩
      rw [row_cell a5]
      match i, hi with
      | 0, _ => rfl
    · exact Row.nil _ _ _ _ _
  | 12, _ =>
    show ∃ a1 c1 a2 c2, StC V _ _ (⟨2, 0, [], [-1]⟩ : Lra.Stp) a1 c1 a2 c2
    refine ⟨none, 0, some ⟨w.heap.size + 1 + 1 + 1 + 1 + 1 + 1, 0, none⟩, 1, ?_, ?_, ?_, ?_, ⟨?_, ?_, by decide, by decide, by decide⟩⟩
    · rw [row_cell a7]; rfl
    · rw [row_cell a7]; rfl
    · rw [row_cell a7]; rfl
    · rw [row_cell a7]; rfl
    · exact Row.nil _ _ _ _ _
    · refine ⟨by decide, .inr ⟨_, 0, rfl, by omega, fun i hi => ?_⟩⟩
      rw [row_cell a6]
      match i, hi with
      | 0, _ => rfl
/-- Two steps laid behind one another, the second of which may not be. -/
theorem two12 (V : World) (s t : Lra.Stp) (a1 : Option Addr) (c1 : Nat) (a2 : Option Addr) (c2 : Nat) (b1 : Option Addr) (d1 : Nat) (b2 : Option Addr) (d2 : Nat) (hs : StpV V a1 a2 s) (ht : StpV V b1 b2 t) (hi : Lra.items [s, t] ≤ 1000000) (hm : [s, t].all Lra.may = false) (hT : Tab V.heap.size V) :
    Calls Tryd.prog 12 #[.slice (some ⟨V.heap.size, 0, none⟩) 2 2] (V.alloc (.cells #[.int .u8 s.kind, .int .i64 s.id, .slice a1 s.lits.length c1, .slice a2 s.hints.length c2, .int .u8 t.kind, .int .i64 t.id, .slice b1 t.lits.length d1, .slice b2 t.hints.length d2] 43)) fun e w' => e = .returned (.tuple #[.string ⟨#[]⟩, .int .i64 40]) ∧ Below V.heap.size V w' := by
  obtain ⟨X, hX⟩ : ∃ X, V.alloc (.cells #[.int .u8 s.kind, .int .i64 s.id, .slice a1 s.lits.length c1, .slice a2 s.hints.length c2, .int .u8 t.kind, .int .i64 t.id, .slice b1 t.lits.length d1, .slice b2 t.hints.length d2] 43) = X := ⟨_, rfl⟩
  have hb : Below V.heap.size V X := by rw [← hX]; exact below_box _ _
  have hr : X.heap[V.heap.size]? = some (.cells #[.int .u8 s.kind, .int .i64 s.id, .slice a1 s.lits.length c1, .slice a2 s.hints.length c2, .int .u8 t.kind, .int .i64 t.id, .slice b1 t.lits.length d1, .slice b2 t.hints.length d2] 43 (0, 0)) := by rw [← hX]; exact heap_alloc_new _ _
  rw [hX]
  have hS : Steps X (some ⟨V.heap.size, 0, none⟩) [s, t] := by
    right
    refine ⟨_, 0, rfl, fun j hj => ?_⟩
    match j, hj with
    | 0, _ =>
      refine ⟨a1, c1, a2, c2, ?_, ?_, ?_, ?_, hs.below hb⟩
      · rw [row_cell hr]; rfl
      · rw [row_cell hr]; rfl
      · rw [row_cell hr]; rfl
      · rw [row_cell hr]; rfl
    | 1, _ =>
      refine ⟨b1, d1, b2, d2, ?_, ?_, ?_, ?_, ht.below hb⟩
      · rw [row_cell hr]; rfl
      · rw [row_cell hr]; rfl
      · rw [row_cell hr]; rfl
      · rw [row_cell hr]; rfl
  refine (write12 _ 2 2 [s, t] X rfl (by decide) hi hS (hT.on hb hb.size)).mono fun e w' q => ⟨?_, hb.trans (q.2.mono hb.size)⟩
  have := q.1
  unfold WOut at this
  rw [hm] at this
  exact this
end Go.Proofs.YtdodfmgbjfhnpaaDoor
