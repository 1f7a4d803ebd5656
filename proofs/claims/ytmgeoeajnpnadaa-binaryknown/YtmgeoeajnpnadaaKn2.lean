/- The examples' rows of steps, as they are laid. -/
import Derived.Test.YtmgeoeajnpnadaaKn
namespace Go.Proofs.Ytmgeoeajnpnadaa
open Go.RowKit
set_option linter.unusedVariables false
set_option linter.unusedSimpArgs false
set_option maxRecDepth 100000
set_option maxHeartbeats 4000000

theorem goodRow (w : World) : ∃ A : World, ((((w.alloc (.cells #[.int .i64 3] 2)).alloc (.cells #[.int .i64 (-1)] 2)).alloc (.cells #[.int .i32 1048576, .int .i32 (-1048576)] 44)).alloc (.cells #[.int .i64 4611686018427387903, .int .i64 (-4611686018427387903)] 2)).alloc (.cells #[.int .u8 2, .int .i64 64, .slice none 0 0, .slice (some ⟨w.heap.size, 0, none⟩) 1 1, .int .u8 1, .int .i64 1, .slice none 0 0, .slice (some ⟨w.heap.size + 1, 0, none⟩) 1 1, .int .u8 1, .int .i64 4611686018427387903, .slice (some ⟨w.heap.size + 1 + 1, 0, none⟩) 2 2, .slice (some ⟨w.heap.size + 1 + 1 + 1, 0, none⟩) 2 2, .int .u8 2, .int .i64 0, .slice none 0 0, .slice none 0 0] 43) = A ∧ Below w.heap.size w A ∧ A.heap.size = w.heap.size + 5 ∧ Steps A (some ⟨w.heap.size + 1 + 1 + 1 + 1, 0, none⟩) [Bin.gd0, Bin.gd1, Bin.gd2, Bin.gd3] := by
  obtain ⟨V, hV⟩ : ∃ V, ((((w.alloc (.cells #[.int .i64 3] 2)).alloc (.cells #[.int .i64 (-1)] 2)).alloc (.cells #[.int .i32 1048576, .int .i32 (-1048576)] 44)).alloc (.cells #[.int .i64 4611686018427387903, .int .i64 (-4611686018427387903)] 2)).alloc (.cells #[.int .u8 2, .int .i64 64, .slice none 0 0, .slice (some ⟨w.heap.size, 0, none⟩) 1 1, .int .u8 1, .int .i64 1, .slice none 0 0, .slice (some ⟨w.heap.size + 1, 0, none⟩) 1 1, .int .u8 1, .int .i64 4611686018427387903, .slice (some ⟨w.heap.size + 1 + 1, 0, none⟩) 2 2, .slice (some ⟨w.heap.size + 1 + 1 + 1, 0, none⟩) 2 2, .int .u8 2, .int .i64 0, .slice none 0 0, .slice none 0 0] 43) = V := ⟨_, rfl⟩
  refine ⟨V, hV, ?_, by rw [← hV]; simp, ?_⟩
  · rw [← hV]
    exact ((((((Below.refl _ w).alloc (Nat.le_refl _) _).alloc (by simp) _).alloc (by simp; omega) _).alloc (by simp; omega) _).alloc (by simp; omega) _)
  have hz : V.heap.size = w.heap.size + 5 := by rw [← hV]; simp
  have a0 : V.heap[w.heap.size]? = some (.cells #[.int .i64 3] 2 (0, 0)) := by
    rw [← hV, alloc_at, if_neg (by simp only [World.size_alloc]; omega), alloc_at, if_neg (by simp only [World.size_alloc]; omega), alloc_at, if_neg (by simp only [World.size_alloc]; omega), alloc_at, if_neg (by simp only [World.size_alloc]; omega), alloc_at, if_pos (by simp only [World.size_alloc])]
  have a1 : V.heap[w.heap.size + 1]? = some (.cells #[.int .i64 (-1)] 2 (0, 0)) := by
    rw [← hV, alloc_at, if_neg (by simp only [World.size_alloc]; omega), alloc_at, if_neg (by simp only [World.size_alloc]; omega), alloc_at, if_neg (by simp only [World.size_alloc]; omega), alloc_at, if_pos (by simp only [World.size_alloc])]
  have a2 : V.heap[w.heap.size + 1 + 1]? = some (.cells #[.int .i32 1048576, .int .i32 (-1048576)] 44 (0, 0)) := by
    rw [← hV, alloc_at, if_neg (by simp only [World.size_alloc]; omega), alloc_at, if_neg (by simp only [World.size_alloc]; omega), alloc_at, if_pos (by simp only [World.size_alloc])]
  have a3 : V.heap[w.heap.size + 1 + 1 + 1]? = some (.cells #[.int .i64 4611686018427387903, .int .i64 (-4611686018427387903)] 2 (0, 0)) := by
    rw [← hV, alloc_at, if_neg (by simp only [World.size_alloc]; omega), alloc_at, if_pos (by simp only [World.size_alloc])]
  have a4 : V.heap[w.heap.size + 1 + 1 + 1 + 1]? = some (.cells #[.int .u8 2, .int .i64 64, .slice none 0 0, .slice (some ⟨w.heap.size, 0, none⟩) 1 1, .int .u8 1, .int .i64 1, .slice none 0 0, .slice (some ⟨w.heap.size + 1, 0, none⟩) 1 1, .int .u8 1, .int .i64 4611686018427387903, .slice (some ⟨w.heap.size + 1 + 1, 0, none⟩) 2 2, .slice (some ⟨w.heap.size + 1 + 1 + 1, 0, none⟩) 2 2, .int .u8 2, .int .i64 0, .slice none 0 0, .slice none 0 0] 43 (0, 0)) := by
    rw [← hV, alloc_at, if_pos (by simp only [World.size_alloc])]
  clear hV
  right
  refine ⟨_, 0, rfl, fun j hj => ?_⟩
  match j, hj with
  | 0, _ =>
    show ∃ a1 c1 a2 c2, StC V _ _ (⟨2, 64, [], [3]⟩ : Lra.Stp) a1 c1 a2 c2
    refine ⟨none, 0, some ⟨w.heap.size, 0, none⟩, 1, ?_, ?_, ?_, ?_, ⟨?_, ?_, by decide, by decide, by decide⟩⟩
    · rw [row_cell a4]; rfl
    · rw [row_cell a4]; rfl
    · rw [row_cell a4]; rfl
    · rw [row_cell a4]; rfl
    · exact Row.nil _ _ _ _ _
    · refine ⟨by decide, .inr ⟨_, 0, rfl, by omega, fun i hi => ?_⟩⟩
      rw [row_cell a0]
      match i, hi with
      | 0, _ => rfl
  | 1, _ =>
    show ∃ a1 c1 a2 c2, StC V _ _ (⟨1, 1, [], [-1]⟩ : Lra.Stp) a1 c1 a2 c2
    refine ⟨none, 0, some ⟨w.heap.size + 1, 0, none⟩, 1, ?_, ?_, ?_, ?_, ⟨?_, ?_, by decide, by decide, by decide⟩⟩
    · rw [row_cell a4]; rfl
    · rw [row_cell a4]; rfl
    · rw [row_cell a4]; rfl
    · rw [row_cell a4]; rfl
    · exact Row.nil _ _ _ _ _
    · refine ⟨by decide, .inr ⟨_, 0, rfl, by omega, fun i hi => ?_⟩⟩
      rw [row_cell a1]
      match i, hi with
      | 0, _ => rfl
  | 2, _ =>
    show ∃ a1 c1 a2 c2, StC V _ _ (⟨1, 4611686018427387903, [1048576, -1048576], [4611686018427387903, -4611686018427387903]⟩ : Lra.Stp) a1 c1 a2 c2
    refine ⟨some ⟨w.heap.size + 1 + 1, 0, none⟩, 2, some ⟨w.heap.size + 1 + 1 + 1, 0, none⟩, 2, ?_, ?_, ?_, ?_, ⟨?_, ?_, by decide, by decide, by decide⟩⟩
    · rw [row_cell a4]; rfl
    · rw [row_cell a4]; rfl
    · rw [row_cell a4]; rfl
    · rw [row_cell a4]; rfl
    · refine ⟨by decide, .inr ⟨_, 0, rfl, by omega, fun i hi => ?_⟩⟩
      rw [row_cell a2]
      match i, hi with
      | 0, _ => rfl
      | 1, _ => rfl
    · refine ⟨by decide, .inr ⟨_, 0, rfl, by omega, fun i hi => ?_⟩⟩
      rw [row_cell a3]
      match i, hi with
      | 0, _ => rfl
      | 1, _ => rfl
  | 3, _ =>
    show ∃ a1 c1 a2 c2, StC V _ _ (⟨2, 0, [], []⟩ : Lra.Stp) a1 c1 a2 c2
    refine ⟨none, 0, none, 0, ?_, ?_, ?_, ?_, ⟨?_, ?_, by decide, by decide, by decide⟩⟩
    · rw [row_cell a4]; rfl
    · rw [row_cell a4]; rfl
    · rw [row_cell a4]; rfl
    · rw [row_cell a4]; rfl
    · exact Row.nil _ _ _ _ _
    · exact Row.nil _ _ _ _ _
theorem badRow (w : World) : ∃ A : World, ((((((w.alloc (.cells #[.int .i32 0] 44)).alloc (.cells #[.int .i32 (-2147483648)] 44)).alloc (.cells #[.int .i64 0] 2)).alloc (.cells #[.int .i64 (-9223372036854775808)] 2)).alloc (.cells #[.int .i32 1] 44)).alloc (.cells #[.int .i64 (-1)] 2)).alloc (.cells #[.int .u8 0, .int .i64 0, .slice none 0 0, .slice none 0 0, .int .u8 3, .int .i64 1, .slice none 0 0, .slice none 0 0, .int .u8 1, .int .i64 0, .slice none 0 0, .slice none 0 0, .int .u8 1, .int .i64 4611686018427387904, .slice none 0 0, .slice none 0 0, .int .u8 1, .int .i64 1, .slice (some ⟨w.heap.size, 0, none⟩) 1 1, .slice none 0 0, .int .u8 1, .int .i64 1, .slice (some ⟨w.heap.size + 1, 0, none⟩) 1 1, .slice none 0 0, .int .u8 1, .int .i64 1, .slice none 0 0, .slice (some ⟨w.heap.size + 1 + 1, 0, none⟩) 1 1, .int .u8 1, .int .i64 1, .slice none 0 0, .slice (some ⟨w.heap.size + 1 + 1 + 1, 0, none⟩) 1 1, .int .u8 2, .int .i64 (-1), .slice none 0 0, .slice none 0 0, .int .u8 2, .int .i64 0, .slice (some ⟨w.heap.size + 1 + 1 + 1 + 1, 0, none⟩) 1 1, .slice none 0 0, .int .u8 2, .int .i64 0, .slice none 0 0, .slice (some ⟨w.heap.size + 1 + 1 + 1 + 1 + 1, 0, none⟩) 1 1] 43) = A ∧ Below w.heap.size w A ∧ A.heap.size = w.heap.size + 7 ∧ Steps A (some ⟨w.heap.size + 1 + 1 + 1 + 1 + 1 + 1, 0, none⟩) Bin.bads := by
  obtain ⟨V, hV⟩ : ∃ V, ((((((w.alloc (.cells #[.int .i32 0] 44)).alloc (.cells #[.int .i32 (-2147483648)] 44)).alloc (.cells #[.int .i64 0] 2)).alloc (.cells #[.int .i64 (-9223372036854775808)] 2)).alloc (.cells #[.int .i32 1] 44)).alloc (.cells #[.int .i64 (-1)] 2)).alloc (.cells #[.int .u8 0, .int .i64 0, .slice none 0 0, .slice none 0 0, .int .u8 3, .int .i64 1, .slice none 0 0, .slice none 0 0, .int .u8 1, .int .i64 0, .slice none 0 0, .slice none 0 0, .int .u8 1, .int .i64 4611686018427387904, .slice none 0 0, .slice none 0 0, .int .u8 1, .int .i64 1, .slice (some ⟨w.heap.size, 0, none⟩) 1 1, .slice none 0 0, .int .u8 1, .int .i64 1, .slice (some ⟨w.heap.size + 1, 0, none⟩) 1 1, .slice none 0 0, .int .u8 1, .int .i64 1, .slice none 0 0, .slice (some ⟨w.heap.size + 1 + 1, 0, none⟩) 1 1, .int .u8 1, .int .i64 1, .slice none 0 0, .slice (some ⟨w.heap.size + 1 + 1 + 1, 0, none⟩) 1 1, .int .u8 2, .int .i64 (-1), .slice none 0 0, .slice none 0 0, .int .u8 2, .int .i64 0, .slice (some ⟨w.heap.size + 1 + 1 + 1 + 1, 0, none⟩) 1 1, .slice none 0 0, .int .u8 2, .int .i64 0, .slice none 0 0, .slice (some ⟨w.heap.size + 1 + 1 + 1 + 1 + 1, 0, none⟩) 1 1] 43) = V := ⟨_, rfl⟩
  refine ⟨V, hV, ?_, by rw [← hV]; simp, ?_⟩
  · rw [← hV]
    exact ((((((((Below.refl _ w).alloc (Nat.le_refl _) _).alloc (by simp) _).alloc (by simp; omega) _).alloc (by simp; omega) _).alloc (by simp; omega) _).alloc (by simp; omega) _).alloc (by simp; omega) _)
  have hz : V.heap.size = w.heap.size + 7 := by rw [← hV]; simp
  have a0 : V.heap[w.heap.size]? = some (.cells #[.int .i32 0] 44 (0, 0)) := by
    rw [← hV, alloc_at, if_neg (by simp only [World.size_alloc]; omega), alloc_at, if_neg (by simp only [World.size_alloc]; omega), alloc_at, if_neg (by simp only [World.size_alloc]; omega), alloc_at, if_neg (by simp only [World.size_alloc]; omega), alloc_at, if_neg (by simp only [World.size_alloc]; omega), alloc_at, if_neg (by simp only [World.size_alloc]; omega), alloc_at, if_pos (by simp only [World.size_alloc])]
  have a1 : V.heap[w.heap.size + 1]? = some (.cells #[.int .i32 (-2147483648)] 44 (0, 0)) := by
    rw [← hV, alloc_at, if_neg (by simp only [World.size_alloc]; omega), alloc_at, if_neg (by simp only [World.size_alloc]; omega), alloc_at, if_neg (by simp only [World.size_alloc]; omega), alloc_at, if_neg (by simp only [World.size_alloc]; omega), alloc_at, if_neg (by simp only [World.size_alloc]; omega), alloc_at, if_pos (by simp only [World.size_alloc])]
  have a2 : V.heap[w.heap.size + 1 + 1]? = some (.cells #[.int .i64 0] 2 (0, 0)) := by
    rw [← hV, alloc_at, if_neg (by simp only [World.size_alloc]; omega), alloc_at, if_neg (by simp only [World.size_alloc]; omega), alloc_at, if_neg (by simp only [World.size_alloc]; omega), alloc_at, if_neg (by simp only [World.size_alloc]; omega), alloc_at, if_pos (by simp only [World.size_alloc])]
  have a3 : V.heap[w.heap.size + 1 + 1 + 1]? = some (.cells #[.int .i64 (-9223372036854775808)] 2 (0, 0)) := by
    rw [← hV, alloc_at, if_neg (by simp only [World.size_alloc]; omega), alloc_at, if_neg (by simp only [World.size_alloc]; omega), alloc_at, if_neg (by simp only [World.size_alloc]; omega), alloc_at, if_pos (by simp only [World.size_alloc])]
  have a4 : V.heap[w.heap.size + 1 + 1 + 1 + 1]? = some (.cells #[.int .i32 1] 44 (0, 0)) := by
    rw [← hV, alloc_at, if_neg (by simp only [World.size_alloc]; omega), alloc_at, if_neg (by simp only [World.size_alloc]; omega), alloc_at, if_pos (by simp only [World.size_alloc])]
  have a5 : V.heap[w.heap.size + 1 + 1 + 1 + 1 + 1]? = some (.cells #[.int .i64 (-1)] 2 (0, 0)) := by
    rw [← hV, alloc_at, if_neg (by simp only [World.size_alloc]; omega), alloc_at, if_pos (by simp only [World.size_alloc])]
  have a6 : V.heap[w.heap.size + 1 + 1 + 1 + 1 + 1 + 1]? = some (.cells #[.int .u8 0, .int .i64 0, .slice none 0 0, .slice none 0 0, .int .u8 3, .int .i64 1, .slice none 0 0, .slice none 0 0, .int .u8 1, .int .i64 0, .slice none 0 0, .slice none 0 0, .int .u8 1, .int .i64 4611686018427387904, .slice none 0 0, .slice none 0 0, .int .u8 1, .int .i64 1, .slice (some ⟨w.heap.size, 0, none⟩) 1 1, .slice none 0 0, .int .u8 1, .int .i64 1, .slice (some ⟨w.heap.size + 1, 0, none⟩) 1 1, .slice none 0 0, .int .u8 1, .int .i64 1, .slice none 0 0, .slice (some ⟨w.heap.size + 1 + 1, 0, none⟩) 1 1, .int .u8 1, .int .i64 1, .slice none 0 0, .slice (some ⟨w.heap.size + 1 + 1 + 1, 0, none⟩) 1 1, .int .u8 2, .int .i64 (-1), .slice none 0 0, .slice none 0 0, .int .u8 2, .int .i64 0, .slice (some ⟨w.heap.size + 1 + 1 + 1 + 1, 0, none⟩) 1 1, .slice none 0 0, .int .u8 2, .int .i64 0, .slice none 0 0, .slice (some ⟨w.heap.size + 1 + 1 + 1 + 1 + 1, 0, none⟩) 1 1] 43 (0, 0)) := by
    rw [← hV, alloc_at, if_pos (by simp only [World.size_alloc])]
  clear hV
  right
  refine ⟨_, 0, rfl, fun j hj => ?_⟩
  match j, hj with
  | 0, _ =>
    show ∃ a1 c1 a2 c2, StC V _ _ (⟨0, 0, [], []⟩ : Lra.Stp) a1 c1 a2 c2
    refine ⟨none, 0, none, 0, ?_, ?_, ?_, ?_, ⟨?_, ?_, by decide, by decide, by decide⟩⟩
    · rw [row_cell a6]; rfl
    · rw [row_cell a6]; rfl
    · rw [row_cell a6]; rfl
    · rw [row_cell a6]; rfl
    · exact Row.nil _ _ _ _ _
    · exact Row.nil _ _ _ _ _
  | 1, _ =>
    show ∃ a1 c1 a2 c2, StC V _ _ (⟨3, 1, [], []⟩ : Lra.Stp) a1 c1 a2 c2
    refine ⟨none, 0, none, 0, ?_, ?_, ?_, ?_, ⟨?_, ?_, by decide, by decide, by decide⟩⟩
    · rw [row_cell a6]; rfl
    · rw [row_cell a6]; rfl
    · rw [row_cell a6]; rfl
    · rw [row_cell a6]; rfl
    · exact Row.nil _ _ _ _ _
    · exact Row.nil _ _ _ _ _
  | 2, _ =>
    show ∃ a1 c1 a2 c2, StC V _ _ (⟨1, 0, [], []⟩ : Lra.Stp) a1 c1 a2 c2
    refine ⟨none, 0, none, 0, ?_, ?_, ?_, ?_, ⟨?_, ?_, by decide, by decide, by decide⟩⟩
    · rw [row_cell a6]; rfl
    · rw [row_cell a6]; rfl
    · rw [row_cell a6]; rfl
    · rw [row_cell a6]; rfl
    · exact Row.nil _ _ _ _ _
    · exact Row.nil _ _ _ _ _
  | 3, _ =>
    show ∃ a1 c1 a2 c2, StC V _ _ (⟨1, 4611686018427387904, [], []⟩ : Lra.Stp) a1 c1 a2 c2
    refine ⟨none, 0, none, 0, ?_, ?_, ?_, ?_, ⟨?_, ?_, by decide, by decide, by decide⟩⟩
    · rw [row_cell a6]; rfl
    · rw [row_cell a6]; rfl
    · rw [row_cell a6]; rfl
    · rw [row_cell a6]; rfl
    · exact Row.nil _ _ _ _ _
    · exact Row.nil _ _ _ _ _
  | 4, _ =>
    show ∃ a1 c1 a2 c2, StC V _ _ (⟨1, 1, [0], []⟩ : Lra.Stp) a1 c1 a2 c2
    refine ⟨some ⟨w.heap.size, 0, none⟩, 1, none, 0, ?_, ?_, ?_, ?_, ⟨?_, ?_, by decide, by decide, by decide⟩⟩
    · rw [row_cell a6]; rfl
    · rw [row_cell a6]; rfl
    · rw [row_cell a6]; rfl
    · rw [row_cell a6]; rfl
    · refine ⟨by decide, .inr ⟨_, 0, rfl, by omega, fun i hi => ?_⟩⟩
      rw [row_cell a0]
      match i, hi with
      | 0, _ => rfl
    · exact Row.nil _ _ _ _ _
  | 5, _ =>
    show ∃ a1 c1 a2 c2, StC V _ _ (⟨1, 1, [-2147483648], []⟩ : Lra.Stp) a1 c1 a2 c2
    refine ⟨some ⟨w.heap.size + 1, 0, none⟩, 1, none, 0, ?_, ?_, ?_, ?_, ⟨?_, ?_, by decide, by decide, by decide⟩⟩
    · rw [row_cell a6]; rfl
    · rw [row_cell a6]; rfl
    · rw [row_cell a6]; rfl
    · rw [row_cell a6]; rfl
    · refine ⟨by decide, .inr ⟨_, 0, rfl, by omega, fun i hi => ?_⟩⟩
      rw [row_cell a1]
      match i, hi with
      | 0, _ => rfl
    · exact Row.nil _ _ _ _ _
  | 6, _ =>
    show ∃ a1 c1 a2 c2, StC V _ _ (⟨1, 1, [], [0]⟩ : Lra.Stp) a1 c1 a2 c2
    refine ⟨none, 0, some ⟨w.heap.size + 1 + 1, 0, none⟩, 1, ?_, ?_, ?_, ?_, ⟨?_, ?_, by decide, by decide, by decide⟩⟩
    · rw [row_cell a6]; rfl
    · rw [row_cell a6]; rfl
    · rw [row_cell a6]; rfl
    · rw [row_cell a6]; rfl
    · exact Row.nil _ _ _ _ _
    · refine ⟨by decide, .inr ⟨_, 0, rfl, by omega, fun i hi => ?_⟩⟩
      rw [row_cell a2]
      match i, hi with
      | 0, _ => rfl
  | 7, _ =>
    show ∃ a1 c1 a2 c2, StC V _ _ (⟨1, 1, [], [-9223372036854775808]⟩ : Lra.Stp) a1 c1 a2 c2
    refine ⟨none, 0, some ⟨w.heap.size + 1 + 1 + 1, 0, none⟩, 1, ?_, ?_, ?_, ?_, ⟨?_, ?_, by decide, by decide, by decide⟩⟩
    · rw [row_cell a6]; rfl
    · rw [row_cell a6]; rfl
    · rw [row_cell a6]; rfl
    · rw [row_cell a6]; rfl
    · exact Row.nil _ _ _ _ _
    · refine ⟨by decide, .inr ⟨_, 0, rfl, by omega, fun i hi => ?_⟩⟩
      rw [row_cell a3]
      match i, hi with
      | 0, _ => rfl
  | 8, _ =>
    show ∃ a1 c1 a2 c2, StC V _ _ (⟨2, -1, [], []⟩ : Lra.Stp) a1 c1 a2 c2
    refine ⟨none, 0, none, 0, ?_, ?_, ?_, ?_, ⟨?_, ?_, by decide, by decide, by decide⟩⟩
    · rw [row_cell a6]; rfl
    · rw [row_cell a6]; rfl
    · rw [row_cell a6]; rfl
    · rw [row_cell a6]; rfl
    · exact Row.nil _ _ _ _ _
    · exact Row.nil _ _ _ _ _
  | 9, _ =>
    show ∃ a1 c1 a2 c2, StC V _ _ (⟨2, 0, [1], []⟩ : Lra.Stp) a1 c1 a2 c2
    refine ⟨some ⟨w.heap.size + 1 + 1 + 1 + 1, 0, none⟩, 1, none, 0, ?_, ?_, ?_, ?_, ⟨?_, ?_, by decide, by decide, by decide⟩⟩
    · rw [row_cell a6]; rfl
    · rw [row_cell a6]; rfl
    · rw [row_cell a6]; rfl
    · rw [row_cell a6]; rfl
    · refine ⟨by decide, .inr ⟨_, 0, rfl, by omega, fun i hi => ?_⟩⟩
      rw [row_cell a4]
      match i, hi with
      | 0, _ => rfl
    · exact Row.nil _ _ _ _ _
  | 10, _ =>
    show ∃ a1 c1 a2 c2, StC V _ _ (⟨2, 0, [], [-1]⟩ : Lra.Stp) a1 c1 a2 c2
    refine ⟨none, 0, some ⟨w.heap.size + 1 + 1 + 1 + 1 + 1, 0, none⟩, 1, ?_, ?_, ?_, ?_, ⟨?_, ?_, by decide, by decide, by decide⟩⟩
    · rw [row_cell a6]; rfl
    · rw [row_cell a6]; rfl
    · rw [row_cell a6]; rfl
    · rw [row_cell a6]; rfl
    · exact Row.nil _ _ _ _ _
    · refine ⟨by decide, .inr ⟨_, 0, rfl, by omega, fun i hi => ?_⟩⟩
      rw [row_cell a5]
      match i, hi with
      | 0, _ => rfl
/-- The wrong bytes, as they are laid. -/
theorem wrongRow (w : World) : ∃ A : World, ((((((((((((((((w.alloc (.cells #[.int .u8 97, .int .u8 18, .int .u8 2, .int .u8 5, .int .u8 0, .int .u8 6, .int .u8 8] 5)).alloc (.cells #[.int .u8 97, .int .u8 0, .int .u8 0, .int .u8 0] 5)).alloc (.cells #[.int .u8 97, .int .u8 130, .int .u8 0, .int .u8 0, .int .u8 0] 5)).alloc (.cells #[.int .u8 97, .int .u8 3, .int .u8 0, .int .u8 0] 5)).alloc (.cells #[.int .u8 98, .int .u8 2, .int .u8 0, .int .u8 0] 5)).alloc (.cells #[.int .u8 100, .int .u8 2, .int .u8 5, .int .u8 0] 5)).alloc (.cells #[.int .u8 97] 5)).alloc (.cells #[.int .u8 97, .int .u8 2] 5)).alloc (.cells #[.int .u8 97, .int .u8 2, .int .u8 0] 5)).alloc (.cells #[.int .u8 97, .int .u8 2, .int .u8 1, .int .u8 0, .int .u8 0] 5)).alloc (.cells #[.int .u8 97, .int .u8 2, .int .u8 128, .int .u8 0, .int .u8 0, .int .u8 0] 5)).alloc (.cells #[.int .u8 97, .int .u8 2, .int .u8 130, .int .u8 128, .int .u8 128, .int .u8 1, .int .u8 0, .int .u8 0] 5)).alloc (.cells #[.int .u8 100, .int .u8 1, .int .u8 0] 5)).alloc (.cells #[.int .u8 97, .int .u8 128, .int .u8 128, .int .u8 128, .int .u8 128, .int .u8 128, .int .u8 128, .int .u8 128, .int .u8 128, .int .u8 128, .int .u8 1, .int .u8 0, .int .u8 0] 5)).alloc (.cells #[.int .u8 97, .int .u8 255, .int .u8 255, .int .u8 255, .int .u8 255, .int .u8 255, .int .u8 255, .int .u8 255, .int .u8 255, .int .u8 255] 5)).alloc (.cells #[.int .u8 97, .int .u8 2, .int .u8 0, .int .u8 128] 5)).alloc (.cells #[.slice (some ⟨w.heap.size, 0, none⟩) 7 7, .slice (some ⟨w.heap.size + 1, 0, none⟩) 4 4, .slice (some ⟨w.heap.size + 1 + 1, 0, none⟩) 5 5, .slice (some ⟨w.heap.size + 1 + 1 + 1, 0, none⟩) 4 4, .slice (some ⟨w.heap.size + 1 + 1 + 1 + 1, 0, none⟩) 4 4, .slice (some ⟨w.heap.size + 1 + 1 + 1 + 1 + 1, 0, none⟩) 4 4, .slice (some ⟨w.heap.size + 1 + 1 + 1 + 1 + 1 + 1, 0, none⟩) 1 1, .slice (some ⟨w.heap.size + 1 + 1 + 1 + 1 + 1 + 1 + 1, 0, none⟩) 2 2, .slice (some ⟨w.heap.size + 1 + 1 + 1 + 1 + 1 + 1 + 1 + 1, 0, none⟩) 3 3, .slice (some ⟨w.heap.size + 1 + 1 + 1 + 1 + 1 + 1 + 1 + 1 + 1, 0, none⟩) 5 5, .slice (some ⟨w.heap.size + 1 + 1 + 1 + 1 + 1 + 1 + 1 + 1 + 1 + 1, 0, none⟩) 6 6, .slice (some ⟨w.heap.size + 1 + 1 + 1 + 1 + 1 + 1 + 1 + 1 + 1 + 1 + 1, 0, none⟩) 8 8, .slice (some ⟨w.heap.size + 1 + 1 + 1 + 1 + 1 + 1 + 1 + 1 + 1 + 1 + 1 + 1, 0, none⟩) 3 3, .slice (some ⟨w.heap.size + 1 + 1 + 1 + 1 + 1 + 1 + 1 + 1 + 1 + 1 + 1 + 1 + 1, 0, none⟩) 13 13, .slice (some ⟨w.heap.size + 1 + 1 + 1 + 1 + 1 + 1 + 1 + 1 + 1 + 1 + 1 + 1 + 1 + 1, 0, none⟩) 10 10, .slice (some ⟨w.heap.size + 1 + 1 + 1 + 1 + 1 + 1 + 1 + 1 + 1 + 1 + 1 + 1 + 1 + 1 + 1, 0, none⟩) 4 4] 26) = A ∧ Below w.heap.size w A ∧ ∀ (q : Nat) (hq : q < Bin.wrongs.length), ∃ g, A.cell? ⟨w.heap.size + 1 + 1 + 1 + 1 + 1 + 1 + 1 + 1 + 1 + 1 + 1 + 1 + 1 + 1 + 1 + 1, q, none⟩ = some (.slice (some ⟨g, 0, none⟩) Bin.wrongs[q].length Bin.wrongs[q].length) ∧ Bts A (some ⟨g, 0, none⟩) Bin.wrongs[q] := by
  obtain ⟨V, hV⟩ : ∃ V, ((((((((((((((((w.alloc (.cells #[.int .u8 97, .int .u8 18, .int .u8 2, .int .u8 5, .int .u8 0, .int .u8 6, .int .u8 8] 5)).alloc (.cells #[.int .u8 97, .int .u8 0, .int .u8 0, .int .u8 0] 5)).alloc (.cells #[.int .u8 97, .int .u8 130, .int .u8 0, .int .u8 0, .int .u8 0] 5)).alloc (.cells #[.int .u8 97, .int .u8 3, .int .u8 0, .int .u8 0] 5)).alloc (.cells #[.int .u8 98, .int .u8 2, .int .u8 0, .int .u8 0] 5)).alloc (.cells #[.int .u8 100, .int .u8 2, .int .u8 5, .int .u8 0] 5)).alloc (.cells #[.int .u8 97] 5)).alloc (.cells #[.int .u8 97, .int .u8 2] 5)).alloc (.cells #[.int .u8 97, .int .u8 2, .int .u8 0] 5)).alloc (.cells #[.int .u8 97, .int .u8 2, .int .u8 1, .int .u8 0, .int .u8 0] 5)).alloc (.cells #[.int .u8 97, .int .u8 2, .int .u8 128, .int .u8 0, .int .u8 0, .int .u8 0] 5)).alloc (.cells #[.int .u8 97, .int .u8 2, .int .u8 130, .int .u8 128, .int .u8 128, .int .u8 1, .int .u8 0, .int .u8 0] 5)).alloc (.cells #[.int .u8 100, .int .u8 1, .int .u8 0] 5)).alloc (.cells #[.int .u8 97, .int .u8 128, .int .u8 128, .int .u8 128, .int .u8 128, .int .u8 128, .int .u8 128, .int .u8 128, .int .u8 128, .int .u8 128, .int .u8 1, .int .u8 0, .int .u8 0] 5)).alloc (.cells #[.int .u8 97, .int .u8 255, .int .u8 255, .int .u8 255, .int .u8 255, .int .u8 255, .int .u8 255, .int .u8 255, .int .u8 255, .int .u8 255] 5)).alloc (.cells #[.int .u8 97, .int .u8 2, .int .u8 0, .int .u8 128] 5)).alloc (.cells #[.slice (some ⟨w.heap.size, 0, none⟩) 7 7, .slice (some ⟨w.heap.size + 1, 0, none⟩) 4 4, .slice (some ⟨w.heap.size + 1 + 1, 0, none⟩) 5 5, .slice (some ⟨w.heap.size + 1 + 1 + 1, 0, none⟩) 4 4, .slice (some ⟨w.heap.size + 1 + 1 + 1 + 1, 0, none⟩) 4 4, .slice (some ⟨w.heap.size + 1 + 1 + 1 + 1 + 1, 0, none⟩) 4 4, .slice (some ⟨w.heap.size + 1 + 1 + 1 + 1 + 1 + 1, 0, none⟩) 1 1, .slice (some ⟨w.heap.size + 1 + 1 + 1 + 1 + 1 + 1 + 1, 0, none⟩) 2 2, .slice (some ⟨w.heap.size + 1 + 1 + 1 + 1 + 1 + 1 + 1 + 1, 0, none⟩) 3 3, .slice (some ⟨w.heap.size + 1 + 1 + 1 + 1 + 1 + 1 + 1 + 1 + 1, 0, none⟩) 5 5, .slice (some ⟨w.heap.size + 1 + 1 + 1 + 1 + 1 + 1 + 1 + 1 + 1 + 1, 0, none⟩) 6 6, .slice (some ⟨w.heap.size + 1 + 1 + 1 + 1 + 1 + 1 + 1 + 1 + 1 + 1 + 1, 0, none⟩) 8 8, .slice (some ⟨w.heap.size + 1 + 1 + 1 + 1 + 1 + 1 + 1 + 1 + 1 + 1 + 1 + 1, 0, none⟩) 3 3, .slice (some ⟨w.heap.size + 1 + 1 + 1 + 1 + 1 + 1 + 1 + 1 + 1 + 1 + 1 + 1 + 1, 0, none⟩) 13 13, .slice (some ⟨w.heap.size + 1 + 1 + 1 + 1 + 1 + 1 + 1 + 1 + 1 + 1 + 1 + 1 + 1 + 1, 0, none⟩) 10 10, .slice (some ⟨w.heap.size + 1 + 1 + 1 + 1 + 1 + 1 + 1 + 1 + 1 + 1 + 1 + 1 + 1 + 1 + 1, 0, none⟩) 4 4] 26) = V := ⟨_, rfl⟩
  refine ⟨V, hV, ?_, ?_⟩
  · rw [← hV]
    exact ((((((((((((((((((Below.refl _ w).alloc (Nat.le_refl _) _).alloc (by simp) _).alloc (by simp; omega) _).alloc (by simp; omega) _).alloc (by simp; omega) _).alloc (by simp; omega) _).alloc (by simp; omega) _).alloc (by simp; omega) _).alloc (by simp; omega) _).alloc (by simp; omega) _).alloc (by simp; omega) _).alloc (by simp; omega) _).alloc (by simp; omega) _).alloc (by simp; omega) _).alloc (by simp; omega) _).alloc (by simp; omega) _).alloc (by simp; omega) _)
  have hz : V.heap.size = w.heap.size + 17 := by rw [← hV]; simp
  have a0 : V.heap[w.heap.size]? = some (.cells #[.int .u8 97, .int .u8 18, .int .u8 2, .int .u8 5, .int .u8 0, .int .u8 6, .int .u8 8] 5 (0, 0)) := by
    rw [← hV, alloc_at, if_neg (by simp only [World.size_alloc]; omega), alloc_at, if_neg (by simp only [World.size_alloc]; omega), alloc_at, if_neg (by simp only [World.size_alloc]; omega), alloc_at, if_neg (by simp only [World.size_alloc]; omega), alloc_at, if_neg (by simp only [World.size_alloc]; omega), alloc_at, if_neg (by simp only [World.size_alloc]; omega), alloc_at, if_neg (by simp only [World.size_alloc]; omega), alloc_at, if_neg (by simp only [World.size_alloc]; omega), alloc_at, if_neg (by simp only [World.size_alloc]; omega), alloc_at, if_neg (by simp only [World.size_alloc]; omega), alloc_at, if_neg (by simp only [World.size_alloc]; omega), alloc_at, if_neg (by simp only [World.size_alloc]; omega), alloc_at, if_neg (by simp only [World.size_alloc]; omega), alloc_at, if_neg (by simp only [World.size_alloc]; omega), alloc_at, if_neg (by simp only [World.size_alloc]; omega), alloc_at, if_neg (by simp only [World.size_alloc]; omega), alloc_at, if_pos (by simp only [World.size_alloc])]
  have a1 : V.heap[w.heap.size + 1]? = some (.cells #[.int .u8 97, .int .u8 0, .int .u8 0, .int .u8 0] 5 (0, 0)) := by
    rw [← hV, alloc_at, if_neg (by simp only [World.size_alloc]; omega), alloc_at, if_neg (by simp only [World.size_alloc]; omega), alloc_at, if_neg (by simp only [World.size_alloc]; omega), alloc_at, if_neg (by simp only [World.size_alloc]; omega), alloc_at, if_neg (by simp only [World.size_alloc]; omega), alloc_at, if_neg (by simp only [World.size_alloc]; omega), alloc_at, if_neg (by simp only [World.size_alloc]; omega), alloc_at, if_neg (by simp only [World.size_alloc]; omega), alloc_at, if_neg (by simp only [World.size_alloc]; omega), alloc_at, if_neg (by simp only [World.size_alloc]; omega), alloc_at, if_neg (by simp only [World.size_alloc]; omega), alloc_at, if_neg (by simp only [World.size_alloc]; omega), alloc_at, if_neg (by simp only [World.size_alloc]; omega), alloc_at, if_neg (by simp only [World.size_alloc]; omega), alloc_at, if_neg (by simp only [World.size_alloc]; omega), alloc_at, if_pos (by simp only [World.size_alloc])]
  have a2 : V.heap[w.heap.size + 1 + 1]? = some (.cells #[.int .u8 97, .int .u8 130, .int .u8 0, .int .u8 0, .int .u8 0] 5 (0, 0)) := by
    rw [← hV, alloc_at, if_neg (by simp only [World.size_alloc]; omega), alloc_at, if_neg (by simp only [World.size_alloc]; omega), alloc_at, if_neg (by simp only [World.size_alloc]; omega), alloc_at, if_neg (by simp only [World.size_alloc]; omega), alloc_at, if_neg (by simp only [World.size_alloc]; omega), alloc_at, if_neg (by simp only [World.size_alloc]; omega), alloc_at, if_neg (by simp only [World.size_alloc]; omega), alloc_at, if_neg (by simp only [World.size_alloc]; omega), alloc_at, if_neg (by simp only [World.size_alloc]; omega), alloc_at, if_neg (by simp only [World.size_alloc]; omega), alloc_at, if_neg (by simp only [World.size_alloc]; omega), alloc_at, if_neg (by simp only [World.size_alloc]; omega), alloc_at, if_neg (by simp only [World.size_alloc]; omega), alloc_at, if_neg (by simp only [World.size_alloc]; omega), alloc_at, if_pos (by simp only [World.size_alloc])]
  have a3 : V.heap[w.heap.size + 1 + 1 + 1]? = some (.cells #[.int .u8 97, .int .u8 3, .int .u8 0, .int .u8 0] 5 (0, 0)) := by
    rw [← hV, alloc_at, if_neg (by simp only [World.size_alloc]; omega), alloc_at, if_neg (by simp only [World.size_alloc]; omega), alloc_at, if_neg (by simp only [World.size_alloc]; omega), alloc_at, if_neg (by simp only [World.size_alloc]; omega), alloc_at, if_neg (by simp only [World.size_alloc]; omega), alloc_at, if_neg (by simp only [World.size_alloc]; omega), alloc_at, if_neg (by simp only [World.size_alloc]; omega), alloc_at, if_neg (by simp only [World.size_alloc]; omega), alloc_at, if_neg (by simp only [World.size_alloc]; omega), alloc_at, if_neg (by simp only [World.size_alloc]; omega), alloc_at, if_neg (by simp only [World.size_alloc]; omega), alloc_at, if_neg (by simp only [World.size_alloc]; omega), alloc_at, if_neg (by simp only [World.size_alloc]; omega), alloc_at, if_pos (by simp only [World.size_alloc])]
  have a4 : V.heap[w.heap.size + 1 + 1 + 1 + 1]? = some (.cells #[.int .u8 98, .int .u8 2, .int .u8 0, .int .u8 0] 5 (0, 0)) := by
    rw [← hV, alloc_at, if_neg (by simp only [World.size_alloc]; omega), alloc_at, if_neg (by simp only [World.size_alloc]; omega), alloc_at, if_neg (by simp only [World.size_alloc]; omega), alloc_at, if_neg (by simp only [World.size_alloc]; omega), alloc_at, if_neg (by simp only [World.size_alloc]; omega), alloc_at, if_neg (by simp only [World.size_alloc]; omega), alloc_at, if_neg (by simp only [World.size_alloc]; omega), alloc_at, if_neg (by simp only [World.size_alloc]; omega), alloc_at, if_neg (by simp only [World.size_alloc]; omega), alloc_at, if_neg (by simp only [World.size_alloc]; omega), alloc_at, if_neg (by simp only [World.size_alloc]; omega), alloc_at, if_neg (by simp only [World.size_alloc]; omega), alloc_at, if_pos (by simp only [World.size_alloc])]
  have a5 : V.heap[w.heap.size + 1 + 1 + 1 + 1 + 1]? = some (.cells #[.int .u8 100, .int .u8 2, .int .u8 5, .int .u8 0] 5 (0, 0)) := by
    rw [← hV, alloc_at, if_neg (by simp only [World.size_alloc]; omega), alloc_at, if_neg (by simp only [World.size_alloc]; omega), alloc_at, if_neg (by simp only [World.size_alloc]; omega), alloc_at, if_neg (by simp only [World.size_alloc]; omega), alloc_at, if_neg (by simp only [World.size_alloc]; omega), alloc_at, if_neg (by simp only [World.size_alloc]; omega), alloc_at, if_neg (by simp only [World.size_alloc]; omega), alloc_at, if_neg (by simp only [World.size_alloc]; omega), alloc_at, if_neg (by simp only [World.size_alloc]; omega), alloc_at, if_neg (by simp only [World.size_alloc]; omega), alloc_at, if_neg (by simp only [World.size_alloc]; omega), alloc_at, if_pos (by simp only [World.size_alloc])]
  have a6 : V.heap[w.heap.size + 1 + 1 + 1 + 1 + 1 + 1]? = some (.cells #[.int .u8 97] 5 (0, 0)) := by
    rw [← hV, alloc_at, if_neg (by simp only [World.size_alloc]; omega), alloc_at, if_neg (by simp only [World.size_alloc]; omega), alloc_at, if_neg (by simp only [World.size_alloc]; omega), alloc_at, if_neg (by simp only [World.size_alloc]; omega), alloc_at, if_neg (by simp only [World.size_alloc]; omega), alloc_at, if_neg (by simp only [World.size_alloc]; omega), alloc_at, if_neg (by simp only [World.size_alloc]; omega), alloc_at, if_neg (by simp only [World.size_alloc]; omega), alloc_at, if_neg (by simp only [World.size_alloc]; omega), alloc_at, if_neg (by simp only [World.size_alloc]; omega), alloc_at, if_pos (by simp only [World.size_alloc])]
  have a7 : V.heap[w.heap.size + 1 + 1 + 1 + 1 + 1 + 1 + 1]? = some (.cells #[.int .u8 97, .int .u8 2] 5 (0, 0)) := by
    rw [← hV, alloc_at, if_neg (by simp only [World.size_alloc]; omega), alloc_at, if_neg (by simp only [World.size_alloc]; omega), alloc_at, if_neg (by simp only [World.size_alloc]; omega), alloc_at, if_neg (by simp only [World.size_alloc]; omega), alloc_at, if_neg (by simp only [World.size_alloc]; omega), alloc_at, if_neg (by simp only [World.size_alloc]; omega), alloc_at, if_neg (by simp only [World.size_alloc]; omega), alloc_at, if_neg (by simp only [World.size_alloc]; omega), alloc_at, if_neg (by simp only [World.size_alloc]; omega), alloc_at, if_pos (by simp only [World.size_alloc])]
  have a8 : V.heap[w.heap.size + 1 + 1 + 1 + 1 + 1 + 1 + 1 + 1]? = some (.cells #[.int .u8 97, .int .u8 2, .int .u8 0] 5 (0, 0)) := by
    rw [← hV, alloc_at, if_neg (by simp only [World.size_alloc]; omega), alloc_at, if_neg (by simp only [World.size_alloc]; omega), alloc_at, if_neg (by simp only [World.size_alloc]; omega), alloc_at, if_neg (by simp only [World.size_alloc]; omega), alloc_at, if_neg (by simp only [World.size_alloc]; omega), alloc_at, if_neg (by simp only [World.size_alloc]; omega), alloc_at, if_neg (by simp only [World.size_alloc]; omega), alloc_at, if_neg (by simp only [World.size_alloc]; omega), alloc_at, if_pos (by simp only [World.size_alloc])]
  have a9 : V.heap[w.heap.size + 1 + 1 + 1 + 1 + 1 + 1 + 1 + 1 + 1]? = some (.cells #[.int .u8 97, .int .u8 2, .int .u8 1, .int .u8 0, .int .u8 0] 5 (0, 0)) := by
    rw [← hV, alloc_at, if_neg (by simp only [World.size_alloc]; omega), alloc_at, if_neg (by simp only [World.size_alloc]; omega), alloc_at, if_neg (by simp only [World.size_alloc]; omega), alloc_at, if_neg (by simp only [World.size_alloc]; omega), alloc_at, if_neg (by simp only [World.size_alloc]; omega), alloc_at, if_neg (by simp only [World.size_alloc]; omega), alloc_at, if_neg (by simp only [World.size_alloc]; omega), alloc_at, if_pos (by simp only [World.size_alloc])]
  have a10 : V.heap[w.heap.size + 1 + 1 + 1 + 1 + 1 + 1 + 1 + 1 + 1 + 1]? = some (.cells #[.int .u8 97, .int .u8 2, .int .u8 128, .int .u8 0, .int .u8 0, .int .u8 0] 5 (0, 0)) := by
    rw [← hV, alloc_at, if_neg (by simp only [World.size_alloc]; omega), alloc_at, if_neg (by simp only [World.size_alloc]; omega), alloc_at, if_neg (by simp only [World.size_alloc]; omega), alloc_at, if_neg (by simp only [World.size_alloc]; omega), alloc_at, if_neg (by simp only [World.size_alloc]; omega), alloc_at, if_neg (by simp only [World.size_alloc]; omega), alloc_at, if_pos (by simp only [World.size_alloc])]
  have a11 : V.heap[w.heap.size + 1 + 1 + 1 + 1 + 1 + 1 + 1 + 1 + 1 + 1 + 1]? = some (.cells #[.int .u8 97, .int .u8 2, .int .u8 130, .int .u8 128, .int .u8 128, .int .u8 1, .int .u8 0, .int .u8 0] 5 (0, 0)) := by
    rw [← hV, alloc_at, if_neg (by simp only [World.size_alloc]; omega), alloc_at, if_neg (by simp only [World.size_alloc]; omega), alloc_at, if_neg (by simp only [World.size_alloc]; omega), alloc_at, if_neg (by simp only [World.size_alloc]; omega), alloc_at, if_neg (by simp only [World.size_alloc]; omega), alloc_at, if_pos (by simp only [World.size_alloc])]
  have a12 : V.heap[w.heap.size + 1 + 1 + 1 + 1 + 1 + 1 + 1 + 1 + 1 + 1 + 1 + 1]? = some (.cells #[.int .u8 100, .int .u8 1, .int .u8 0] 5 (0, 0)) := by
    rw [← hV, alloc_at, if_neg (by simp only [World.size_alloc]; omega), alloc_at, if_neg (by simp only [World.size_alloc]; omega), alloc_at, if_neg (by simp only [World.size_alloc]; omega), alloc_at, if_neg (by simp only [World.size_alloc]; omega), alloc_at, if_pos (by simp only [World.size_alloc])]
  have a13 : V.heap[w.heap.size + 1 + 1 + 1 + 1 + 1 + 1 + 1 + 1 + 1 + 1 + 1 + 1 + 1]? = some (.cells #[.int .u8 97, .int .u8 128, .int .u8 128, .int .u8 128, .int .u8 128, .int .u8 128, .int .u8 128, .int .u8 128, .int .u8 128, .int .u8 128, .int .u8 1, .int .u8 0, .int .u8 0] 5 (0, 0)) := by
    rw [← hV, alloc_at, if_neg (by simp only [World.size_alloc]; omega), alloc_at, if_neg (by simp only [World.size_alloc]; omega), alloc_at, if_neg (by simp only [World.size_alloc]; omega), alloc_at, if_pos (by simp only [World.size_alloc])]
  have a14 : V.heap[w.heap.size + 1 + 1 + 1 + 1 + 1 + 1 + 1 + 1 + 1 + 1 + 1 + 1 + 1 + 1]? = some (.cells #[.int .u8 97, .int .u8 255, .int .u8 255, .int .u8 255, .int .u8 255, .int .u8 255, .int .u8 255, .int .u8 255, .int .u8 255, .int .u8 255] 5 (0, 0)) := by
    rw [← hV, alloc_at, if_neg (by simp only [World.size_alloc]; omega), alloc_at, if_neg (by simp only [World.size_alloc]; omega), alloc_at, if_pos (by simp only [World.size_alloc])]
  have a15 : V.heap[w.heap.size + 1 + 1 + 1 + 1 + 1 + 1 + 1 + 1 + 1 + 1 + 1 + 1 + 1 + 1 + 1]? = some (.cells #[.int .u8 97, .int .u8 2, .int .u8 0, .int .u8 128] 5 (0, 0)) := by
    rw [← hV, alloc_at, if_neg (by simp only [World.size_alloc]; omega), alloc_at, if_pos (by simp only [World.size_alloc])]
  have a16 : V.heap[w.heap.size + 1 + 1 + 1 + 1 + 1 + 1 + 1 + 1 + 1 + 1 + 1 + 1 + 1 + 1 + 1 + 1]? = some (.cells #[.slice (some ⟨w.heap.size, 0, none⟩) 7 7, .slice (some ⟨w.heap.size + 1, 0, none⟩) 4 4, .slice (some ⟨w.heap.size + 1 + 1, 0, none⟩) 5 5, .slice (some ⟨w.heap.size + 1 + 1 + 1, 0, none⟩) 4 4, .slice (some ⟨w.heap.size + 1 + 1 + 1 + 1, 0, none⟩) 4 4, .slice (some ⟨w.heap.size + 1 + 1 + 1 + 1 + 1, 0, none⟩) 4 4, .slice (some ⟨w.heap.size + 1 + 1 + 1 + 1 + 1 + 1, 0, none⟩) 1 1, .slice (some ⟨w.heap.size + 1 + 1 + 1 + 1 + 1 + 1 + 1, 0, none⟩) 2 2, .slice (some ⟨w.heap.size + 1 + 1 + 1 + 1 + 1 + 1 + 1 + 1, 0, none⟩) 3 3, .slice (some ⟨w.heap.size + 1 + 1 + 1 + 1 + 1 + 1 + 1 + 1 + 1, 0, none⟩) 5 5, .slice (some ⟨w.heap.size + 1 + 1 + 1 + 1 + 1 + 1 + 1 + 1 + 1 + 1, 0, none⟩) 6 6, .slice (some ⟨w.heap.size + 1 + 1 + 1 + 1 + 1 + 1 + 1 + 1 + 1 + 1 + 1, 0, none⟩) 8 8, .slice (some ⟨w.heap.size + 1 + 1 + 1 + 1 + 1 + 1 + 1 + 1 + 1 + 1 + 1 + 1, 0, none⟩) 3 3, .slice (some ⟨w.heap.size + 1 + 1 + 1 + 1 + 1 + 1 + 1 + 1 + 1 + 1 + 1 + 1 + 1, 0, none⟩) 13 13, .slice (some ⟨w.heap.size + 1 + 1 + 1 + 1 + 1 + 1 + 1 + 1 + 1 + 1 + 1 + 1 + 1 + 1, 0, none⟩) 10 10, .slice (some ⟨w.heap.size + 1 + 1 + 1 + 1 + 1 + 1 + 1 + 1 + 1 + 1 + 1 + 1 + 1 + 1 + 1, 0, none⟩) 4 4] 26 (0, 0)) := by
    rw [← hV, alloc_at, if_pos (by simp only [World.size_alloc])]
  clear hV
  intro q hq
  have hq16 : q < 16 := hq
  match q, hq, hq16 with
  | 0, _, _ =>
    refine ⟨w.heap.size, by rw [row_cell a16]; rfl, ?_⟩
    refine ⟨fun y hy => by have := (Bin.wrong_step _ (List.getElem_mem (l := Bin.wrongs) (n := 0) (by decide))).2.2.2 y hy; omega, .inr ⟨_, 0, rfl, by omega, fun i hi => ?_⟩⟩
    rw [row_cell a0]
    match i, hi with
    | 0, _ => rfl
    | 1, _ => rfl
    | 2, _ => rfl
    | 3, _ => rfl
    | 4, _ => rfl
    | 5, _ => rfl
    | 6, _ => rfl
  | 1, _, _ =>
    refine ⟨w.heap.size + 1, by rw [row_cell a16]; rfl, ?_⟩
    refine ⟨fun y hy => by have := (Bin.wrong_step _ (List.getElem_mem (l := Bin.wrongs) (n := 1) (by decide))).2.2.2 y hy; omega, .inr ⟨_, 0, rfl, by omega, fun i hi => ?_⟩⟩
    rw [row_cell a1]
    match i, hi with
    | 0, _ => rfl
    | 1, _ => rfl
    | 2, _ => rfl
    | 3, _ => rfl
  | 2, _, _ =>
    refine ⟨w.heap.size + 1 + 1, by rw [row_cell a16]; rfl, ?_⟩
    refine ⟨fun y hy => by have := (Bin.wrong_step _ (List.getElem_mem (l := Bin.wrongs) (n := 2) (by decide))).2.2.2 y hy; omega, .inr ⟨_, 0, rfl, by omega, fun i hi => ?_⟩⟩
    rw [row_cell a2]
    match i, hi with
    | 0, _ => rfl
    | 1, _ => rfl
    | 2, _ => rfl
    | 3, _ => rfl
    | 4, _ => rfl
  | 3, _, _ =>
    refine ⟨w.heap.size + 1 + 1 + 1, by rw [row_cell a16]; rfl, ?_⟩
    refine ⟨fun y hy => by have := (Bin.wrong_step _ (List.getElem_mem (l := Bin.wrongs) (n := 3) (by decide))).2.2.2 y hy; omega, .inr ⟨_, 0, rfl, by omega, fun i hi => ?_⟩⟩
    rw [row_cell a3]
    match i, hi with
    | 0, _ => rfl
    | 1, _ => rfl
    | 2, _ => rfl
    | 3, _ => rfl
  | 4, _, _ =>
    refine ⟨w.heap.size + 1 + 1 + 1 + 1, by rw [row_cell a16]; rfl, ?_⟩
    refine ⟨fun y hy => by have := (Bin.wrong_step _ (List.getElem_mem (l := Bin.wrongs) (n := 4) (by decide))).2.2.2 y hy; omega, .inr ⟨_, 0, rfl, by omega, fun i hi => ?_⟩⟩
    rw [row_cell a4]
    match i, hi with
    | 0, _ => rfl
    | 1, _ => rfl
    | 2, _ => rfl
    | 3, _ => rfl
  | 5, _, _ =>
    refine ⟨w.heap.size + 1 + 1 + 1 + 1 + 1, by rw [row_cell a16]; rfl, ?_⟩
    refine ⟨fun y hy => by have := (Bin.wrong_step _ (List.getElem_mem (l := Bin.wrongs) (n := 5) (by decide))).2.2.2 y hy; omega, .inr ⟨_, 0, rfl, by omega, fun i hi => ?_⟩⟩
    rw [row_cell a5]
    match i, hi with
    | 0, _ => rfl
    | 1, _ => rfl
    | 2, _ => rfl
    | 3, _ => rfl
  | 6, _, _ =>
    refine ⟨w.heap.size + 1 + 1 + 1 + 1 + 1 + 1, by rw [row_cell a16]; rfl, ?_⟩
    refine ⟨fun y hy => by have := (Bin.wrong_step _ (List.getElem_mem (l := Bin.wrongs) (n := 6) (by decide))).2.2.2 y hy; omega, .inr ⟨_, 0, rfl, by omega, fun i hi => ?_⟩⟩
    rw [row_cell a6]
    match i, hi with
    | 0, _ => rfl
  | 7, _, _ =>
    refine ⟨w.heap.size + 1 + 1 + 1 + 1 + 1 + 1 + 1, by rw [row_cell a16]; rfl, ?_⟩
    refine ⟨fun y hy => by have := (Bin.wrong_step _ (List.getElem_mem (l := Bin.wrongs) (n := 7) (by decide))).2.2.2 y hy; omega, .inr ⟨_, 0, rfl, by omega, fun i hi => ?_⟩⟩
    rw [row_cell a7]
    match i, hi with
    | 0, _ => rfl
    | 1, _ => rfl
  | 8, _, _ =>
    refine ⟨w.heap.size + 1 + 1 + 1 + 1 + 1 + 1 + 1 + 1, by rw [row_cell a16]; rfl, ?_⟩
    refine ⟨fun y hy => by have := (Bin.wrong_step _ (List.getElem_mem (l := Bin.wrongs) (n := 8) (by decide))).2.2.2 y hy; omega, .inr ⟨_, 0, rfl, by omega, fun i hi => ?_⟩⟩
    rw [row_cell a8]
    match i, hi with
    | 0, _ => rfl
    | 1, _ => rfl
    | 2, _ => rfl
  | 9, _, _ =>
    refine ⟨w.heap.size + 1 + 1 + 1 + 1 + 1 + 1 + 1 + 1 + 1, by rw [row_cell a16]; rfl, ?_⟩
    refine ⟨fun y hy => by have := (Bin.wrong_step _ (List.getElem_mem (l := Bin.wrongs) (n := 9) (by decide))).2.2.2 y hy; omega, .inr ⟨_, 0, rfl, by omega, fun i hi => ?_⟩⟩
    rw [row_cell a9]
    match i, hi with
    | 0, _ => rfl
    | 1, _ => rfl
    | 2, _ => rfl
    | 3, _ => rfl
    | 4, _ => rfl
  | 10, _, _ =>
    refine ⟨w.heap.size + 1 + 1 + 1 + 1 + 1 + 1 + 1 + 1 + 1 + 1, by rw [row_cell a16]; rfl, ?_⟩
    refine ⟨fun y hy => by have := (Bin.wrong_step _ (List.getElem_mem (l := Bin.wrongs) (n := 10) (by decide))).2.2.2 y hy; omega, .inr ⟨_, 0, rfl, by omega, fun i hi => ?_⟩⟩
    rw [row_cell a10]
    match i, hi with
    | 0, _ => rfl
    | 1, _ => rfl
    | 2, _ => rfl
    | 3, _ => rfl
    | 4, _ => rfl
    | 5, _ => rfl
  | 11, _, _ =>
    refine ⟨w.heap.size + 1 + 1 + 1 + 1 + 1 + 1 + 1 + 1 + 1 + 1 + 1, by rw [row_cell a16]; rfl, ?_⟩
    refine ⟨fun y hy => by have := (Bin.wrong_step _ (List.getElem_mem (l := Bin.wrongs) (n := 11) (by decide))).2.2.2 y hy; omega, .inr ⟨_, 0, rfl, by omega, fun i hi => ?_⟩⟩
    rw [row_cell a11]
    match i, hi with
    | 0, _ => rfl
    | 1, _ => rfl
    | 2, _ => rfl
    | 3, _ => rfl
    | 4, _ => rfl
    | 5, _ => rfl
    | 6, _ => rfl
    | 7, _ => rfl
  | 12, _, _ =>
    refine ⟨w.heap.size + 1 + 1 + 1 + 1 + 1 + 1 + 1 + 1 + 1 + 1 + 1 + 1, by rw [row_cell a16]; rfl, ?_⟩
    refine ⟨fun y hy => by have := (Bin.wrong_step _ (List.getElem_mem (l := Bin.wrongs) (n := 12) (by decide))).2.2.2 y hy; omega, .inr ⟨_, 0, rfl, by omega, fun i hi => ?_⟩⟩
    rw [row_cell a12]
    match i, hi with
    | 0, _ => rfl
    | 1, _ => rfl
    | 2, _ => rfl
  | 13, _, _ =>
    refine ⟨w.heap.size + 1 + 1 + 1 + 1 + 1 + 1 + 1 + 1 + 1 + 1 + 1 + 1 + 1, by rw [row_cell a16]; rfl, ?_⟩
    refine ⟨fun y hy => by have := (Bin.wrong_step _ (List.getElem_mem (l := Bin.wrongs) (n := 13) (by decide))).2.2.2 y hy; omega, .inr ⟨_, 0, rfl, by omega, fun i hi => ?_⟩⟩
    rw [row_cell a13]
    match i, hi with
    | 0, _ => rfl
    | 1, _ => rfl
    | 2, _ => rfl
    | 3, _ => rfl
    | 4, _ => rfl
    | 5, _ => rfl
    | 6, _ => rfl
    | 7, _ => rfl
    | 8, _ => rfl
    | 9, _ => rfl
    | 10, _ => rfl
    | 11, _ => rfl
    | 12, _ => rfl
  | 14, _, _ =>
    refine ⟨w.heap.size + 1 + 1 + 1 + 1 + 1 + 1 + 1 + 1 + 1 + 1 + 1 + 1 + 1 + 1, by rw [row_cell a16]; rfl, ?_⟩
    refine ⟨fun y hy => by have := (Bin.wrong_step _ (List.getElem_mem (l := Bin.wrongs) (n := 14) (by decide))).2.2.2 y hy; omega, .inr ⟨_, 0, rfl, by omega, fun i hi => ?_⟩⟩
    rw [row_cell a14]
    match i, hi with
    | 0, _ => rfl
    | 1, _ => rfl
    | 2, _ => rfl
    | 3, _ => rfl
    | 4, _ => rfl
    | 5, _ => rfl
    | 6, _ => rfl
    | 7, _ => rfl
    | 8, _ => rfl
    | 9, _ => rfl
  | 15, _, _ =>
    refine ⟨w.heap.size + 1 + 1 + 1 + 1 + 1 + 1 + 1 + 1 + 1 + 1 + 1 + 1 + 1 + 1 + 1, by rw [row_cell a16]; rfl, ?_⟩
    refine ⟨fun y hy => by have := (Bin.wrong_step _ (List.getElem_mem (l := Bin.wrongs) (n := 15) (by decide))).2.2.2 y hy; omega, .inr ⟨_, 0, rfl, by omega, fun i hi => ?_⟩⟩
    rw [row_cell a15]
    match i, hi with
    | 0, _ => rfl
    | 1, _ => rfl
    | 2, _ => rfl
    | 3, _ => rfl
  | q + 16, _, h => exact absurd h (by omega)
theorem two11 (V : World) (s t : Lra.Stp) (a1 : Option Addr) (c1 : Nat) (a2 : Option Addr) (c2 : Nat) (b1 : Option Addr) (d1 : Nat) (b2 : Option Addr) (d2 : Nat) (hs : StpV V a1 a2 s) (ht : StpV V b1 b2 t) (hi : Lra.items [s, t] ≤ 1000000) (hm : [s, t].all Lra.may = false) :
    Calls Try.prog 11 #[.slice (some ⟨V.heap.size, 0, none⟩) 2 2] (V.alloc (.cells #[.int .u8 s.kind, .int .i64 s.id, .slice a1 s.lits.length c1, .slice a2 s.hints.length c2, .int .u8 t.kind, .int .i64 t.id, .slice b1 t.lits.length d1, .slice b2 t.hints.length d2] 43)) fun e w' => e = .returned (.tuple #[.slice none 0 0, .int .i64 50]) ∧ Below V.heap.size V w' := by
  obtain ⟨X, hX⟩ : ∃ X, V.alloc (.cells #[.int .u8 s.kind, .int .i64 s.id, .slice a1 s.lits.length c1, .slice a2 s.hints.length c2, .int .u8 t.kind, .int .i64 t.id, .slice b1 t.lits.length d1, .slice b2 t.hints.length d2] 43) = X := ⟨_, rfl⟩
  have hb : Below V.heap.size V X := by rw [← hX]; exact below_box _ _
  have hr : X.heap[V.heap.size]? = some (.cells #[.int .u8 s.kind, .int .i64 s.id, .slice a1 s.lits.length c1, .slice a2 s.hints.length c2, .int .u8 t.kind, .int .i64 t.id, .slice b1 t.lits.length d1, .slice b2 t.hints.length d2] 43 (0, 0)) := by rw [← hX]; exact heap_alloc_new _ _
  rw [hX]
  have hS : Steps X (some ⟨V.heap.size, 0, none⟩) [s, t] := by
    right
    refine ⟨_, 0, rfl, fun j hj => ?_⟩
    match j, hj with
    | 0, _ =>
      refine ⟨a1, c1, a2, c2, ?_, ?_, ?_, ?_, hs.below hb⟩
      · rw [row_cell hr]; rfl
      · rw [row_cell hr]; rfl
      · rw [row_cell hr]; rfl
      · rw [row_cell hr]; rfl
    | 1, _ =>
      refine ⟨b1, d1, b2, d2, ?_, ?_, ?_, ?_, ht.below hb⟩
      · rw [row_cell hr]; rfl
      · rw [row_cell hr]; rfl
      · rw [row_cell hr]; rfl
      · rw [row_cell hr]; rfl
  refine (write11 _ 2 2 [s, t] X rfl (by decide) hi hS).mono fun e w' q => ?_
  rcases q with ⟨_, h2, h3⟩ | ⟨h1, _⟩
  · exact ⟨h2, hb.trans (h3.mono hb.size)⟩
  · rw [hm] at h1; cases h1
end Go.Proofs.Ytmgeoeajnpnadaa
