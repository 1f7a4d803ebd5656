/- The trial that each statement makes: a step is written and read. -/
import Derived.Test.YtmgeoeajnpnadaaConv
import Derived.Test.YtmgeoeajnpnadaaWrt
namespace Bin
def st1 : Lra.Stp := ⟨1, 9, [1, -2], [3, 4]⟩
def st2 : Lra.Stp := ⟨2, 64, [], [3]⟩
def text1 : List Int := [97, 18, 2, 5, 0, 6, 8, 0]
def text12 : List Int := [97, 18, 2, 5, 0, 6, 8, 0, 100, 128, 1, 6, 0]
theorem may1 : [st1].all Lra.may = true := by decide
theorem may12 : [st1, st2].all Lra.may = true := by decide
theorem is1 : text [st1] = text1 := by
  simp [text, stp, row, num, code, bytes7, st1, text1]
theorem is12 : text [st1, st2] = text12 := by
  simp [text, stp, row, num, code, bytes7, st1, st2, text12]
theorem says12 : Says text12 [st1, st2] [] := by rw [← is12]; exact says_text may12
end Bin
namespace Go.Proofs.Ytmgeoeajnpnadaa
open Go.RowKit
set_option linter.unusedVariables false
set_option linter.unusedSimpArgs false

theorem own_two {W : World} {n size m : Nat} {e : TypeId} {v : Value} {xs : List Value} (h : W.ownsRow n e size v (m + 1) xs) : ∃ g c, v = .slice (some ⟨g, 0, none⟩) (m + 1) c := by
  rcases h.2 with ⟨_, h0⟩ | ⟨g, cap, cur, e1, _⟩
  · cases h0
  · exact ⟨g, cap, e1⟩
/-- Two steps that are told: where their rows lie. -/
theorem two_steps {n : Nat} {W : World} {v : Value} {qs : List Q} (h : Mem n W v qs) (hq : qs.map (·.1) = [Bin.st1, Bin.st2]) :
    ∃ g c g1 c1 g2 c2, v = .slice (some ⟨g, 0, none⟩) 2 c ∧ W.cell? ⟨g, 2, none⟩ = some (.slice (some ⟨g1, 0, none⟩) 2 c1) ∧ W.cell? ⟨g, 7, none⟩ = some (.slice (some ⟨g2, 0, none⟩) 1 c2) ∧ W.cell? ⟨g, 5, none⟩ = some (.int .i64 64) ∧ W.cell? ⟨g1, 1, none⟩ = some (.int .i32 (-2)) ∧ W.cell? ⟨g2, 0, none⟩ = some (.int .i64 3) := by
  obtain ⟨q1, q2, rfl⟩ : ∃ q1 q2, qs = [q1, q2] := by
    cases qs with
    | nil => cases hq
    | cons q1 t =>
      cases t with
      | nil => simp at hq
      | cons q2 t2 =>
        cases t2 with
        | nil => exact ⟨q1, q2, rfl⟩
        | cons _ _ => simp at hq
  simp at hq
  obtain ⟨h1, h2⟩ := hq
  have e1 := (h.each q1 (by simp)).l
  have e2 := (h.each q2 (by simp)).h
  rw [h1] at e1
  rw [h2] at e2
  have e0 : W.ownsRow n 43 4 v (1 + 1) ([q1, q2].flatMap qvals) := h.row
  have f1 : W.ownsRow n 44 1 q1.2.1 (1 + 1) [.int .i32 1, .int .i32 (-2)] := e1
  have f2 : W.ownsRow n 2 1 q2.2.2 (0 + 1) [.int .i64 3] := e2
  obtain ⟨g, c, rfl⟩ := own_two e0
  obtain ⟨g1, c1, hv1⟩ := own_two f1
  obtain ⟨g2, c2, hv2⟩ := own_two f2
  rw [hv1] at f1
  rw [hv2] at f2
  have h64 : q2.1.id = 64 := by rw [h2]; rfl
  exact ⟨g, c, g1, c1, g2, c2, rfl, e0.cells (g := g) rfl 2 _ (congrArg some hv1), e0.cells (g := g) rfl 7 _ (congrArg some hv2), e0.cells (g := g) rfl 5 _ (congrArg (fun i => some (Value.int .i64 i)) h64), f1.cells (g := g1) rfl 1 _ rfl, f2.cells (g := g2) rfl 0 _ rfl⟩

theorem bts_lit (W : World) (xs : List Int) (hx : Bin.Byt xs) : Bts (W.alloc (.cells (xs.map (Value.int .u8)).toArray 5)) (some ⟨W.heap.size, 0, none⟩) xs := by
  refine ⟨fun x h => by have := hx x h; omega, .inr ⟨W.heap.size, 0, rfl, by simp, fun j hj => ?_⟩⟩
  rw [row_cell (heap_alloc_new W _), List.getElem?_toArray, List.getElem?_map]
  simp [List.getD, List.getElem?_eq_getElem hj]
theorem byt_list {xs : List Int} (h : xs.all (fun x => decide (0 ≤ x) && decide (x < 256)) = true) : Bin.Byt xs := fun x hx => by
  have := List.all_eq_true.1 h x hx
  simp at this
  omega

set_option maxRecDepth 100000 in
set_option maxHeartbeats 8000000 in
theorem works9 (w : World) : Calls Try.prog 9 #[] w fun e w' => e = .returned (.bool true) ∧ Below w.heap.size w w' := by
  obtain ⟨V, hV⟩ : ∃ V, ((w.alloc (.cells #[.int .i32 1, .int .i32 (-2)] 44)).alloc (.cells #[.int .i64 3, .int .i64 4] 2)).alloc (.cells #[.int .u8 1, .int .i64 9, .slice (some ⟨w.heap.size, 0, none⟩) 2 2, .slice (some ⟨w.heap.size + 1, 0, none⟩) 2 2] 43) = V := ⟨_, rfl⟩
  have hB : Below w.heap.size w V := by
    rw [← hV]
    exact (((Below.refl _ w).alloc (Nat.le_refl _) _).alloc (by simp) _).alloc (by simp; omega) _
  have hz : V.heap.size = w.heap.size + 3 := by rw [← hV]; simp
  have a0 : V.heap[w.heap.size]? = some (.cells #[.int .i32 1, .int .i32 (-2)] 44 (0, 0)) := by
    rw [← hV, alloc_at, if_neg (by simp only [World.size_alloc]; omega), alloc_at, if_neg (by simp only [World.size_alloc]; omega), alloc_at, if_pos rfl]
  have a1 : V.heap[w.heap.size + 1]? = some (.cells #[.int .i64 3, .int .i64 4] 2 (0, 0)) := by
    rw [← hV, alloc_at, if_neg (by simp only [World.size_alloc]; omega), alloc_at, if_pos (by simp only [World.size_alloc])]
  have a3 : V.heap[w.heap.size + 1 + 1]? = some (.cells #[.int .u8 1, .int .i64 9, .slice (some ⟨w.heap.size, 0, none⟩) 2 2, .slice (some ⟨w.heap.size + 1, 0, none⟩) 2 2] 43 (0, 0)) := by
    rw [← hV, alloc_at, if_pos (by simp only [World.size_alloc])]
  have v1 : StpV V (some ⟨w.heap.size, 0, none⟩) (some ⟨w.heap.size + 1, 0, none⟩) Bin.st1 := by
    refine ⟨⟨by decide, .inr ⟨_, 0, rfl, by omega, fun j hj => ?_⟩⟩, ⟨by decide, .inr ⟨_, 0, rfl, by omega, fun j hj => ?_⟩⟩, by decide, by decide, by decide⟩
    · rw [row_cell a0]
      match j, hj with
      | 0, _ => rfl
      | 1, _ => rfl
    · rw [row_cell a1]
      match j, hj with
      | 0, _ => rfl
      | 1, _ => rfl
  have hS : Steps V (some ⟨w.heap.size + 1 + 1, 0, none⟩) [Bin.st1] := by
    right
    refine ⟨_, 0, rfl, fun j hj => ?_⟩
    match j, hj with
    | 0, _ =>
      refine ⟨some ⟨w.heap.size, 0, none⟩, 2, some ⟨w.heap.size + 1, 0, none⟩, 2, ?_, ?_, ?_, ?_, v1⟩
      · rw [row_cell a3]; rfl
      · rw [row_cell a3]; rfl
      · rw [row_cell a3]; rfl
      · rw [row_cell a3]; rfl
  have C11 := (write11 (some ⟨w.heap.size + 1 + 1, 0, none⟩) 1 1 [Bin.st1] V rfl (by decide) (by decide) hS).mono (R' := fun e w' => ∃ o c, e = .returned (.tuple #[.slice o 8 c, .int .i64 0]) ∧ Bts w' o Bin.text1 ∧ Below V.heap.size V w') (by
    rintro e w' (⟨h, _⟩ | ⟨_, o, c, he, ho, hb⟩)
    · rw [Bin.may1] at h; cases h
    · rw [Bin.is1] at he ho
      exact ⟨o, c, he, own_row ho (by decide), hb⟩)
  have K11 := hid C11
  have HB := hid hB
  clear C11 hS a0 a1 a3 hz hB v1
  have K14 := hid (fun (W : World) => (parse14 (some ⟨W.heap.size, 0, none⟩) 13 13 Bin.text12 (W.alloc (.cells #[.int .u8 97, .int .u8 18, .int .u8 2, .int .u8 5, .int .u8 0, .int .u8 6, .int .u8 8, .int .u8 0, .int .u8 100, .int .u8 128, .int .u8 1, .int .u8 6, .int .u8 0] 5)) rfl (bts_lit W Bin.text12 (byt_list (by decide))) (by decide) (by decide) (by decide)).mono (R' := fun e w' => ∃ g c g1 c1 g2 c2, e = .returned (.tuple #[.slice (some ⟨g, 0, none⟩) 2 c, .int .i64 0, .int .i64 0]) ∧ w'.cell? ⟨g, 2, none⟩ = some (.slice (some ⟨g1, 0, none⟩) 2 c1) ∧ w'.cell? ⟨g, 7, none⟩ = some (.slice (some ⟨g2, 0, none⟩) 1 c2) ∧ w'.cell? ⟨g, 5, none⟩ = some (.int .i64 64) ∧ w'.cell? ⟨g1, 1, none⟩ = some (.int .i32 (-2)) ∧ w'.cell? ⟨g2, 0, none⟩ = some (.int .i64 3) ∧ Below W.heap.size W w') (by
    intro e w' h
    obtain ⟨qs, v, hq, rfl, hm, hb⟩ := h.good Bin.says12
    obtain ⟨g, c, g1, c1, g2, c2, rfl, x1, x2, x3, x4, x5⟩ := two_steps hm hq
    exact ⟨g, c, g1, c1, g2, c2, rfl, x1, x2, x3, x4, x5, (below_box W _).trans (hb.mono (by simp))⟩))
  obtain ⟨s1, hs1⟩ : ∃ s1, strOfNums Bin.text1 = s1 := ⟨_, rfl⟩
  have CV := hid (fun (W1 : World) (o : Option Addr) (c : Nat) (hb : Bts W1 o Bin.text1) (X : World) (hX : Below W1.heap.size W1 X) => (show (convert 26 9 (.slice o 8 c)).run Try.prog X = .ok (.string s1) X by rw [← hs1]; exact to_str X o 8 c Bin.text1 (hb.below hX) rfl))
  have CW := hid (fun (W1 : World) => (show (convert 26 9 (.slice (some ⟨W1.heap.size, 0, none⟩) 8 8)).run Try.prog (W1.alloc (.cells #[.int .u8 97, .int .u8 18, .int .u8 2, .int .u8 5, .int .u8 0, .int .u8 6, .int .u8 8, .int .u8 0] 5)) = .ok (.string s1) (W1.alloc (.cells #[.int .u8 97, .int .u8 18, .int .u8 2, .int .u8 5, .int .u8 0, .int .u8 6, .int .u8 8, .int .u8 0] 5)) by rw [← hs1]; exact to_str _ _ 8 8 Bin.text1 (bts_lit W1 Bin.text1 (byt_list (by decide))) rfl))
  clear hs1
  go_enter Try.func9, Try.ntmps9
  go_wp2_with (first
    | (go_at_call 11; refine K11.out.mono ?_; clear K11; rintro e W1 ⟨o, c, rfl, hbt, hb⟩; have HB1 := hid (HB.out.trans (hb.mono HB.out.size)); have HBT := hid hbt; clear hb hbt)
    | (go_at_call 14; refine (K14.out _).mono ?_; clear K14; rintro e W2 ⟨g, c2, g1, c3, g2, c4, rfl, x1, x2, x3, x4, x5, hb⟩
       have HB2 := hid (HB1.out.trans (hb.mono HB1.out.size))
       have hb3 := below_box W2 (.cells #[.int .u8 97, .int .u8 18, .int .u8 2, .int .u8 5, .int .u8 0, .int .u8 6, .int .u8 8, .int .u8 0] 5)
       have cv1 := CV.out W1 o c HBT.out W2 hb
       have cv2 := CV.out W1 o c HBT.out _ (hb.trans (hb3.mono hb.size))
       have cv3 := CW.out W2
       have y1 := (World.cell?_of_block (w := W2) (a := ⟨g, 2, none⟩) (hb3.block g (cell_lt x1))).trans x1
       have y2 := (World.cell?_of_block (w := W2) (a := ⟨g, 7, none⟩) (hb3.block g (cell_lt x1))).trans x2
       have y3 := (World.cell?_of_block (w := W2) (a := ⟨g, 5, none⟩) (hb3.block g (cell_lt x1))).trans x3
       have y4 := (World.cell?_of_block (w := W2) (a := ⟨g1, 1, none⟩) (hb3.block g1 (cell_lt x4))).trans x4
       have y5 := (World.cell?_of_block (w := W2) (a := ⟨g2, 0, none⟩) (hb3.block g2 (cell_lt x5))).trans x5
       have HB4 := hid (HB2.out.trans (hb3.mono HB2.out.size))
       clear hb hb3 CV CW))
  go_ret
  exact ⟨rfl, HB4.out⟩
end Go.Proofs.Ytmgeoeajnpnadaa
