/- TrailKnown as a call. -/
import Derived.Test.YtckpahdlcdgbpaaKn
namespace Go.Proofs.Ytckpahdlcdgbpaa
open Go.RowKit Go.Maps
set_option linter.unusedVariables false
set_option linter.unusedSimpArgs false
set_option maxRecDepth 100000
theorem row_any {W : World} {b : Nat} {t : TypeId} {vs : List Value} {Pr : Value → Prop} (h : W.heap[b]? = some (.cells vs.toArray t (0, 0))) (hp : ∀ v ∈ vs, Pr v) {j : Nat} (hj : j < vs.length) : ∃ v, W.cell? ⟨b, j, none⟩ = some v ∧ Pr v := by
  refine ⟨vs[j], ?_, hp _ (List.getElem_mem hj)⟩
  rw [row_cell h j]
  simp [hj]
set_option maxHeartbeats 8000000 in
theorem law6 (W : World) : Calls Try.prog 6 #[] W fun e w' => e = .returned (.bool true) ∧ Below W.heap.size W w' := by
  obtain ⟨A, hA, hbA, hsA, hrow⟩ := row_laid W
  simp only [seqA, List.foldl_cons, List.foldl_nil] at hA
  have HBA := hid hbA
  have HR := hid hrow
  clear hbA hrow
  go_enter Try.func6, Try.ntmps6
  go_wp2_with (fail)
  clear hA
  obtain ⟨X, hX⟩ : ∃ X, A.alloc (.cells #[Value.int IntKind.i64 (-1), Value.int IntKind.i64 0, Value.int IntKind.i64 1, Value.int IntKind.i64 2, Value.int IntKind.i64 3, Value.int IntKind.i64 4, Value.int IntKind.i64 8, Value.int IntKind.i64 1048576, Value.int IntKind.i64 1048577] 3) = X := ⟨_, rfl⟩
  have HBX := hid (show Below A.heap.size A X by rw [← hX]; exact below_box _ _)
  have HN := hid (show X.heap[W.heap.size + 6]? = some (.cells ([Value.int IntKind.i64 (-1), Value.int IntKind.i64 0, Value.int IntKind.i64 1, Value.int IntKind.i64 2, Value.int IntKind.i64 3, Value.int IntKind.i64 4, Value.int IntKind.i64 8, Value.int IntKind.i64 1048576, Value.int IntKind.i64 1048577] : List Value).toArray 3 (0, 0)) by rw [← hX, ← hsA]; exact heap_alloc_new _ _)
  have HP : ∀ v ∈ ([Value.int IntKind.i64 (-1), Value.int IntKind.i64 0, Value.int IntKind.i64 1, Value.int IntKind.i64 2, Value.int IntKind.i64 3, Value.int IntKind.i64 4, Value.int IntKind.i64 8, Value.int IntKind.i64 1048576, Value.int IntKind.i64 1048577] : List Value), ∃ x, v = .int .i64 x ∧ I64 x := by
    intro v hv
    simp only [List.mem_cons, List.not_mem_nil, or_false] at hv
    rcases hv with rfl | rfl | rfl | rfl | rfl | rfl | rfl | rfl | rfl <;> exact ⟨_, rfl, by decide, by decide⟩
  have HPP := hid HP
  rw [hX]
  have HRX := hid (HR.out.below HBX.out)
  have HBW := hid (HBA.out.trans (HBX.out.mono HBA.out.size))
  clear hX HP HR HBA HBX hsA
  go_loopw [3, 42] (fun _ iv wr => ∃ j : Nat, j ≤ 9 ∧ iv = .int .i64 j ∧ Hid (Below X.heap.size X wr)) (fun _ iv _ => 9 - (intOf iv).toNat)
  case atStart => exact ⟨0, by omega, rfl, hid (Below.refl _ _)⟩
  case round =>
    obtain ⟨j, hj, rfl, HB⟩ := hrel
    by_cases hlt : j < 9
    · have hlt' : (j : Int) < 9 := by omega
      obtain ⟨v, hv, x, rfl, hx⟩ := row_any HN.out HPP.out hlt
      have c0 := (HB.out.cell (p := ⟨W.heap.size + 6, j, none⟩) (Array.getElem?_eq_some_iff.1 HN.out).1).trans hv
      have C3 := hid (law3 x (some ⟨W.heap.size + 1 + 1 + 1 + 1 + 1, 0, none⟩) 30 30 exRow wr hx rfl (by decide) (HRX.out.below HB.out))
      clear hv hx
      go_wp2_with (fail)
      go_at_call 3
      refine C3.out.mono ?_
      rintro e w3 ⟨rfl, hb3⟩
      have HB2 := hid (HB.out.trans (hb3.mono HB.out.size))
      clear C3 hb3 HB c0
      go_wp2
      go_roundw
      case rel => exact ⟨j + 1, by omega, by go_num, HB2⟩
      case measure => simp [intOf]; omega
    · have hge : ¬ (j : Int) < 9 := by omega
      obtain rfl : j = 9 := by omega
      have HRW := hid (HRX.out.below HB.out)
      have HBF := hid (fun (Y : World) (h : Below wr.heap.size wr Y) => HBW.out.trans ((HB.out.trans (h.mono HB.out.size)).mono HBW.out.size))
      generalize W.heap.size + 1 + 1 + 1 + 1 + 1 = b at *
      have C5 := hid (fun (Y : World) (h : Below wr.heap.size wr Y) => (law5 4 (some ⟨b, 0, none⟩) (some ⟨b, 8, none⟩) 2 30 6 28 _ _ Y ⟨by decide, by decide⟩ rfl (by decide) ((HRW.out.below h).part 0 2 (by decide) (by decide)) rfl (by decide) ((HRW.out.below h).part 2 6 (by decide) (by decide))).mono (R' := fun e w' => e = .returned (.bool true) ∧ Below wr.heap.size wr w') (fun e w' hh => ⟨hh.1, h.trans (hh.2.mono h.size)⟩))
      obtain ⟨b2, off2, a', c', e2, _, x0, x1, x2, x3⟩ := HRW.out.at (j := 2) (by decide)
      cases e2
      have HL := hid (show b < wr.heap.size from cell_lt x0)
      have HQ := hid (fun (Y : World) (h : Below wr.heap.size wr Y) => show Y.cell? ⟨b, 8, none⟩ = some (.int .i64 2) ∧ Y.cell? ⟨b, 9, none⟩ = some (.int .i32 3) ∧ Y.cell? ⟨b, 10, none⟩ = some (.int .i64 7) ∧ Y.cell? ⟨b, 11, none⟩ = some (.slice a' 0 c') ∧ Below wr.heap.size wr Y from ⟨(h.cell (p := ⟨b, 8, none⟩) HL.out).trans x0, (h.cell (p := ⟨b, 9, none⟩) HL.out).trans x1, (h.cell (p := ⟨b, 10, none⟩) HL.out).trans x2, (h.cell (p := ⟨b, 11, none⟩) HL.out).trans x3, h⟩)
      have C4 := hid (fun (Y : World) (h : Below wr.heap.size wr Y) => (law4 2 3 7 a' 0 c' ⟨by decide, by decide⟩ Y).mono (R' := fun e w' => e = .returned (.bool true) ∧ Below wr.heap.size wr w') (fun e w' hh => ⟨hh.1, h.trans (hh.2.mono h.size)⟩))
      have C10 := hid (fun (Y : World) (h : Below wr.heap.size wr Y) => (works10 Y).mono (R' := fun e w' => e = .returned (.bool true) ∧ Below wr.heap.size wr w') (fun e w' hh => ⟨hh.1, h.trans (hh.2.mono h.size)⟩))
      have HBD := hid (show Below wr.heap.size wr wr.drew from (Below.refl _ _).drew)
      clear x0 x1 x2 x3 HRW HRX HB HBW HN HPP
      go_wp2_with (fail)
      go_region_held3 (fun Y => Y.cell? ⟨b, 8, none⟩ = some (.int .i64 2) ∧ Y.cell? ⟨b, 9, none⟩ = some (.int .i32 3) ∧ Y.cell? ⟨b, 10, none⟩ = some (.int .i64 7) ∧ Y.cell? ⟨b, 11, none⟩ = some (.slice a' 0 c') ∧ Below wr.heap.size wr Y)
        (first | exact HQ.out _ HBD.out | exact HQ.out _ hb10 | exact HQ.out _ hb4 | exact HQ.out _ hb5)
        (first | (go_at_call 5; refine (C5.out _ HBD.out).mono ?_; rintro e w5 ⟨rfl, hb5⟩) | (go_at_call 4; refine (C4.out _ hb5).mono ?_; rintro e w4 ⟨rfl, hb4⟩) | (go_at_call 10; refine (C10.out _ hb4).mono ?_; rintro e w10 ⟨rfl, hb10⟩))
      go_wp2
      go_ret
      exact ⟨rfl, HBF.out _ hb10⟩
end Go.Proofs.Ytckpahdlcdgbpaa
