/- The trial that each statement makes: a step is written and read. -/
import Derived.Test.YtdodfmgbjfhnpaaDoorParse
import Derived.Test.YtdodfmgbjfhnpaaDoorWrite
import Derived.Test.YtdodfmgbjfhnpaaDoorRefL
namespace Lra
def st1 : Stp := ⟨1, 9, [1, -2], [3, 4]⟩
def st2 : Stp := ⟨2, 10, [], [3, 9]⟩
def text0 : List UInt8 := [57, 32, 49, 32, 45, 50, 32, 48, 32, 51, 32, 52, 32, 48, 10, 49, 48, 32, 100, 32, 51, 32, 57, 32, 48, 10]
theorem may12 : [st1, st2].all may = true := by decide
theorem parse12 : parse (ints ⟨text0.toArray⟩) = .ok [st1, st2] := by rfl
theorem text12 : textB [st1, st2] = text0 := by
  simp [textB, lineB, rowB, wordB, st1, st2, text0, Go.Lib.itoa, Go.Lib.decDigits]
end Lra
namespace Go.Proofs.YtdodfmgbjfhnpaaDoor
open Go.RowKit
set_option linter.unusedVariables false
set_option linter.unusedSimpArgs false

theorem Tab.on {n : Nat} {w W : World} (h : Tab n w) (hb : Below n w W) (hn : n ≤ W.heap.size) : Tab W.heap.size W := fun w' hw => h w' (hb.trans (hw.mono hn))

theorem own_two {W : World} {n size m : Nat} {e : TypeId} {v : Value} {xs : List Value} (h : W.ownsRow n e size v (m + 1) xs) : ∃ g c, v = .slice (some ⟨g, 0, none⟩) (m + 1) c := by
  rcases h.2 with ⟨_, h0⟩ | ⟨g, cap, cur, e1, _⟩
  · cases h0
  · exact ⟨g, cap, e1⟩
/-- Two steps that are told: where their rows lie. -/
theorem two_steps {n : Nat} {W : World} {v : Value} {qs : List Q} (h : Mem n W v qs) (hq : qs.map (·.1) = [Lra.st1, Lra.st2]) :
    ∃ g c g1 c1 g2 c2, v = .slice (some ⟨g, 0, none⟩) 2 c ∧ W.cell? ⟨g, 2, none⟩ = some (.slice (some ⟨g1, 0, none⟩) 2 c1) ∧ W.cell? ⟨g, 7, none⟩ = some (.slice (some ⟨g2, 0, none⟩) 2 c2) ∧ W.cell? ⟨g1, 1, none⟩ = some (.int .i32 (-2)) ∧ W.cell? ⟨g2, 1, none⟩ = some (.int .i64 9) := by
  obtain ⟨q1, q2, rfl⟩ : ∃ q1 q2, qs = [q1, q2] := by
    cases qs with
    | nil => cases hq
    | cons q1 t =>
      cases t with
      | nil => simp at hq
      | cons q2 t2 =>
        cases t2 with
        | nil => exact ⟨q1, q2, rfl⟩
        | cons _ _ => simp at hq
  simp at hq
  obtain ⟨h1, h2⟩ := hq
  have e1 := (h.each q1 (by simp)).l
  have e2 := (h.each q2 (by simp)).h
  rw [h1] at e1
  rw [h2] at e2
  have e0 : W.ownsRow n 43 4 v (1 + 1) ([q1, q2].flatMap qvals) := h.row
  have f1 : W.ownsRow n 44 1 q1.2.1 (1 + 1) [.int .i32 1, .int .i32 (-2)] := e1
  have f2 : W.ownsRow n 2 1 q2.2.2 (1 + 1) [.int .i64 3, .int .i64 9] := e2
  obtain ⟨g, c, rfl⟩ := own_two e0
  obtain ⟨g1, c1, hv1⟩ := own_two f1
  obtain ⟨g2, c2, hv2⟩ := own_two f2
  rw [hv1] at f1
  rw [hv2] at f2
  exact ⟨g, c, g1, c1, g2, c2, rfl, e0.cells (g := g) rfl 2 _ (congrArg some hv1), e0.cells (g := g) rfl 7 _ (congrArg some hv2), f1.cells (g := g1) rfl 1 _ rfl, f2.cells (g := g2) rfl 1 _ rfl⟩

set_option maxRecDepth 100000 in
set_option maxHeartbeats 8000000 in
theorem works10 (w : World) (hT : Tab w.heap.size w) : Calls Tryd.prog 10 #[] w fun e w' => e = .returned (.bool true) ∧ Below w.heap.size w w' := by
  obtain ⟨V, hV⟩ : ∃ V, (((w.alloc (.cells #[.int .i32 1, .int .i32 (-2)] 44)).alloc (.cells #[.int .i64 3, .int .i64 4] 2)).alloc (.cells #[.int .i64 3, .int .i64 9] 2)).alloc (.cells #[.int .u8 1, .int .i64 9, .slice (some ⟨w.heap.size, 0, none⟩) 2 2, .slice (some ⟨w.heap.size + 1, 0, none⟩) 2 2, .int .u8 2, .int .i64 10, .slice none 0 0, .slice (some ⟨w.heap.size + 1 + 1, 0, none⟩) 2 2] 43) = V := ⟨_, rfl⟩
  have hB : Below w.heap.size w V := by
    rw [← hV]
    exact ((((Below.refl _ w).alloc (Nat.le_refl _) _).alloc (by simp) _).alloc (by simp; omega) _).alloc (by simp; omega) _
  have hz : V.heap.size = w.heap.size + 4 := by rw [← hV]; simp
  have a0 : V.heap[w.heap.size]? = some (.cells #[.int .i32 1, .int .i32 (-2)] 44 (0, 0)) := by
    rw [← hV, alloc_at, if_neg (by simp only [World.size_alloc]; omega), alloc_at, if_neg (by simp only [World.size_alloc]; omega), alloc_at, if_neg (by simp only [World.size_alloc]; omega), alloc_at, if_pos rfl]
  have a1 : V.heap[w.heap.size + 1]? = some (.cells #[.int .i64 3, .int .i64 4] 2 (0, 0)) := by
    rw [← hV, alloc_at, if_neg (by simp only [World.size_alloc]; omega), alloc_at, if_neg (by simp only [World.size_alloc]; omega), alloc_at, if_pos (by simp only [World.size_alloc])]
  have a2 : V.heap[w.heap.size + 1 + 1]? = some (.cells #[.int .i64 3, .int .i64 9] 2 (0, 0)) := by
    rw [← hV, alloc_at, if_neg (by simp only [World.size_alloc]; omega), alloc_at, if_pos (by simp only [World.size_alloc])]
  have a3 : V.heap[w.heap.size + 1 + 1 + 1]? = some (.cells #[.int .u8 1, .int .i64 9, .slice (some ⟨w.heap.size, 0, none⟩) 2 2, .slice (some ⟨w.heap.size + 1, 0, none⟩) 2 2, .int .u8 2, .int .i64 10, .slice none 0 0, .slice (some ⟨w.heap.size + 1 + 1, 0, none⟩) 2 2] 43 (0, 0)) := by
    rw [← hV, alloc_at, if_pos (by simp only [World.size_alloc])]
  have v1 : StpV V (some ⟨w.heap.size, 0, none⟩) (some ⟨w.heap.size + 1, 0, none⟩) Lra.st1 := by
    refine ⟨⟨by decide, .inr ⟨_, 0, rfl, by omega, fun j hj => ?_⟩⟩, ⟨by decide, .inr ⟨_, 0, rfl, by omega, fun j hj => ?_⟩⟩, by decide, by decide, by decide⟩
    · rw [row_cell a0]
      match j, hj with
      | 0, _ => rfl
      | 1, _ => rfl
    · rw [row_cell a1]
      match j, hj with
      | 0, _ => rfl
      | 1, _ => rfl
  have v2 : StpV V none (some ⟨w.heap.size + 1 + 1, 0, none⟩) Lra.st2 := by
    refine ⟨Row.nil _ _ _ _ _, ⟨by decide, .inr ⟨_, 0, rfl, by omega, fun j hj => ?_⟩⟩, by decide, by decide, by decide⟩
    rw [row_cell a2]
    match j, hj with
    | 0, _ => rfl
    | 1, _ => rfl
  have hS : Steps V (some ⟨w.heap.size + 1 + 1 + 1, 0, none⟩) [Lra.st1, Lra.st2] := by
    right
    refine ⟨_, 0, rfl, fun j hj => ?_⟩
    match j, hj with
    | 0, _ =>
      refine ⟨some ⟨w.heap.size, 0, none⟩, 2, some ⟨w.heap.size + 1, 0, none⟩, 2, ?_, ?_, ?_, ?_, v1⟩
      · rw [row_cell a3]; rfl
      · rw [row_cell a3]; rfl
      · rw [row_cell a3]; rfl
      · rw [row_cell a3]; rfl
    | 1, _ =>
      refine ⟨none, 0, some ⟨w.heap.size + 1 + 1, 0, none⟩, 2, ?_, ?_, ?_, ?_, v2⟩
      · rw [row_cell a3]; rfl
      · rw [row_cell a3]; rfl
      · rw [row_cell a3]; rfl
      · rw [row_cell a3]; rfl
  have C12 := write12 (some ⟨w.heap.size + 1 + 1 + 1, 0, none⟩) 2 2 [Lra.st1, Lra.st2] V rfl (by decide) (by decide) hS (hT.on hB (by omega))
  unfold WOut at C12
  rw [Lra.may12, Lra.text12, if_pos rfl, if_pos rfl] at C12
  have K12 := hid C12
  have K15 := hid (fun W => parse15 ⟨Lra.text0.toArray⟩ W (by decide))
  rw [Lra.parse12] at K15
  have HB := hid hB
  clear C12 hS a0 a1 a2 a3 hz hT hB v1 v2
  unfold Lra.text0 at K12 K15
  go_enter Tryd.func10, Tryd.ntmps10
  go_wp2_with (first
    | (go_at_call 12; refine K12.out.mono ?_; clear K12; rintro e W1 ⟨rfl, hb⟩; have HB1 := hid (HB.out.trans (hb.mono HB.out.size)); clear hb)
    | (go_at_call 15; refine (K15.out _).mono ?_; clear K15; rintro e W2 (⟨_, h, _⟩ | ⟨qs, v, h, rfl, hm, hb⟩) <;> first
       | (cases h; done)
       | (have HB2 := hid (HB1.out.trans (hb.mono HB1.out.size))
          injection h with h
          obtain ⟨g, c, g1, c1, g2, c2, rfl, x1, x2, x3, x4⟩ := two_steps hm h.symm
          clear hb hm h)))
  go_ret
  exact ⟨rfl, HB2.out⟩
end Go.Proofs.YtdodfmgbjfhnpaaDoor
