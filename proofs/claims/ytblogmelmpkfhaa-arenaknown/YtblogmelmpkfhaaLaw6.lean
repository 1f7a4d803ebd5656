/- ArenaKnown as a call. -/
import Derived.Test.YtblogmelmpkfhaaKn
namespace Go.Proofs.Ytblogmelmpkfhaa
open Go.RowKit Go.Maps
set_option linter.unusedVariables false
set_option linter.unusedSimpArgs false
set_option maxRecDepth 100000
theorem wp_of_value {P : Program} {o : Oper} {a : Act} {w w' : World} {next : Act → World → Prop} {Q : Exit → Act → World → Prop} {v : Value} (h : (execOp a.eval o).run P w = .ok (.value v) w') (k : next (a.put o.dst v) w') : o.wp P a w next Q := by
  unfold Oper.wp
  rw [h]
  exact k
theorem row_any {W : World} {b : Nat} {t : TypeId} {vs : List Value} {Pr : Value → Prop} (h : W.heap[b]? = some (.cells vs.toArray t (0, 0))) (hp : ∀ v ∈ vs, Pr v) {j : Nat} (hj : j < vs.length) : ∃ v, W.cell? ⟨b, j, none⟩ = some v ∧ Pr v := by
  refine ⟨vs[j], ?_, hp _ (List.getElem_mem hj)⟩
  rw [row_cell h j]
  simp [hj]
set_option maxHeartbeats 4000000 in
theorem laid2 (w : World) : ∃ B, seqA w [(.cells #[.int .i32 1] 48), (.cells #[.int .i32 2, .int .i32 3] 48), (.cells #[.int .i32 4] 48), (.cells #[.int .i32 5, .int .i32 6, .int .i32 7] 48),
      (.cells #[.slice (some ⟨w.heap.size, 0, none⟩) 1 1, .slice (some ⟨w.heap.size + 1, 0, none⟩) 2 2, .slice (some ⟨w.heap.size + 1 + 1, 0, none⟩) 1 1, .slice none 0 0, .slice (some ⟨w.heap.size + 1 + 1 + 1, 0, none⟩) 3 3] 30),
      (.cells #[.bool false, .bool true, .bool false, .bool true] 4)] = B ∧ Below w.heap.size w B ∧ Cls B (some ⟨w.heap.size + 1 + 1 + 1 + 1, 0, none⟩) [[1], [2, 3], [4], [], [5, 6, 7]] ∧ Bools B (some ⟨w.heap.size + 1 + 1 + 1 + 1 + 1, 0, none⟩) [false, true, false, true] := by
  refine ⟨_, rfl, (seqA_below w _).1, ?_⟩
  have k := seqA_heap w [(.cells #[.int .i32 1] 48), (.cells #[.int .i32 2, .int .i32 3] 48), (.cells #[.int .i32 4] 48), (.cells #[.int .i32 5, .int .i32 6, .int .i32 7] 48),
      (.cells #[.slice (some ⟨w.heap.size, 0, none⟩) 1 1, .slice (some ⟨w.heap.size + 1, 0, none⟩) 2 2, .slice (some ⟨w.heap.size + 1 + 1, 0, none⟩) 1 1, .slice none 0 0, .slice (some ⟨w.heap.size + 1 + 1 + 1, 0, none⟩) 3 3] 30),
      (.cells #[.bool false, .bool true, .bool false, .bool true] 4)]
  have k0 := lits_any [1] (k 0 _ rfl) (by decide)
  have k1 := lits_any [2, 3] (k 1 _ rfl) (by decide)
  have k2 := lits_any [4] (k 2 _ rfl) (by decide)
  have k3 := lits_any [5, 6, 7] (k 3 _ rfl) (by decide)
  have k4 := k 4 _ rfl
  have k5 := k 5 _ rfl
  generalize seqA w [(.cells #[.int .i32 1] 48), (.cells #[.int .i32 2, .int .i32 3] 48), (.cells #[.int .i32 4] 48), (.cells #[.int .i32 5, .int .i32 6, .int .i32 7] 48),
      (.cells #[.slice (some ⟨w.heap.size, 0, none⟩) 1 1, .slice (some ⟨w.heap.size + 1, 0, none⟩) 2 2, .slice (some ⟨w.heap.size + 1 + 1, 0, none⟩) 1 1, .slice none 0 0, .slice (some ⟨w.heap.size + 1 + 1 + 1, 0, none⟩) 3 3] 30),
      (.cells #[.bool false, .bool true, .bool false, .bool true] 4)] = B at *
  clear k
  refine ⟨⟨by decide, .inr ⟨_, 0, rfl, lt_of_blk k4, fun j hj => ?_⟩⟩, .inr ⟨_, 0, rfl, lt_of_blk k5, fun j hj => ?_⟩⟩
  · have hj5 : j < 5 := hj
    obtain rfl | rfl | rfl | rfl | rfl : j = 0 ∨ j = 1 ∨ j = 2 ∨ j = 3 ∨ j = 4 := by omega
    · exact ⟨_, _, row_cell k4 _, k0⟩
    · exact ⟨_, _, row_cell k4 _, k1⟩
    · exact ⟨_, _, row_cell k4 _, k2⟩
    · exact ⟨none, 0, row_cell k4 _, lits_nil _ _⟩
    · exact ⟨_, _, row_cell k4 _, k3⟩
  · have hj4 : j < 4 := hj
    obtain rfl | rfl | rfl | rfl : j = 0 ∨ j = 1 ∨ j = 2 ∨ j = 3 := by omega
    all_goals exact row_cell k5 _
set_option maxHeartbeats 8000000 in
theorem law6 (W : World) : Calls Try.prog 6 #[] W fun e w' => e = .returned (.bool true) ∧ Below W.heap.size W w' := by
  obtain ⟨A, hA, hbA, hsA, hrow⟩ := row_laid W
  simp only [seqA, List.foldl_cons, List.foldl_nil] at hA
  obtain ⟨B5, hB5⟩ : ∃ B5, ((((W.alloc (.cells #[.int .i32 1, .int .i32 (-2), .int .i32 3] 48)).alloc (.cells #[.int .i32 4, .int .i32 5] 48)).alloc (.cells #[.int .i32 6] 48)).alloc (.cells #[.int .i32 (-2147483648), .int .i32 2147483647] 48)).alloc (.cells #[.int .i32 1, .int .i32 0] 48) = B5 := ⟨_, rfl⟩
  have hsB : B5.heap.size = W.heap.size + 1 + 1 + 1 + 1 + 1 := by rw [← hB5]; simp
  rw [hB5] at hA
  have HA := hid hA
  have HBA := hid hbA
  have HR := hid hrow
  clear hbA hrow hA
  go_enter Try.func6, Try.ntmps6
  go_wp2_with (fail)
  clear hB5
  refine wp_of_value (v := .slice (some ⟨B5.heap.size, 0, none⟩) 26 26) (w' := A) (by rw [← HA.out]; kernel_rfl) ?_
  rw [hsB]
  clear HA hsB
  go_wp2_with (fail)
  obtain ⟨X, hX⟩ : ∃ X, A.alloc (.cells #[Value.int IntKind.i64 (-9223372036854775808), Value.int IntKind.i64 (-1), Value.int IntKind.i64 0, Value.int IntKind.i64 3, Value.int IntKind.i64 4, Value.int IntKind.i64 6, Value.int IntKind.i64 7, Value.int IntKind.i64 12, Value.int IntKind.i64 13, Value.int IntKind.i64 17, Value.int IntKind.i64 18, Value.int IntKind.i64 100, Value.int IntKind.i64 268435456, Value.int IntKind.i64 9223372036854775807] 3) = X := ⟨_, rfl⟩
  have HBX := hid (show Below A.heap.size A X by rw [← hX]; exact below_box _ _)
  have HN := hid (show X.heap[W.heap.size + 6]? = some (.cells ([Value.int IntKind.i64 (-9223372036854775808), Value.int IntKind.i64 (-1), Value.int IntKind.i64 0, Value.int IntKind.i64 3, Value.int IntKind.i64 4, Value.int IntKind.i64 6, Value.int IntKind.i64 7, Value.int IntKind.i64 12, Value.int IntKind.i64 13, Value.int IntKind.i64 17, Value.int IntKind.i64 18, Value.int IntKind.i64 100, Value.int IntKind.i64 268435456, Value.int IntKind.i64 9223372036854775807] : List Value).toArray 3 (0, 0)) by rw [← hX, ← hsA]; exact heap_alloc_new _ _)
  have HP : ∀ v ∈ ([Value.int IntKind.i64 (-9223372036854775808), Value.int IntKind.i64 (-1), Value.int IntKind.i64 0, Value.int IntKind.i64 3, Value.int IntKind.i64 4, Value.int IntKind.i64 6, Value.int IntKind.i64 7, Value.int IntKind.i64 12, Value.int IntKind.i64 13, Value.int IntKind.i64 17, Value.int IntKind.i64 18, Value.int IntKind.i64 100, Value.int IntKind.i64 268435456, Value.int IntKind.i64 9223372036854775807] : List Value), ∃ x, v = .int .i64 x ∧ I64 x := by
    intro v hv
    simp only [List.mem_cons, List.not_mem_nil, or_false] at hv
    rcases hv with rfl | rfl | rfl | rfl | rfl | rfl | rfl | rfl | rfl | rfl | rfl | rfl | rfl | rfl <;> exact ⟨_, rfl, by decide, by decide⟩
  have HPP := hid HP
  rw [hX]
  have HRX := hid (HR.out.below HBX.out)
  have HBW := hid (HBA.out.trans (HBX.out.mono HBA.out.size))
  clear hX HP HR HBA HBX hsA
  go_loopw [3, 38] (fun _ iv wr => ∃ j : Nat, j ≤ 14 ∧ iv = .int .i64 j ∧ Hid (Below X.heap.size X wr)) (fun _ iv _ => 14 - (intOf iv).toNat)
  case atStart => exact ⟨0, by omega, rfl, hid (Below.refl _ _)⟩
  case round =>
    obtain ⟨j, hj, rfl, HB⟩ := hrel
    by_cases hlt : j < 14
    · have hlt' : (j : Int) < 14 := by omega
      obtain ⟨v, hv, x, rfl, hx⟩ := row_any HN.out HPP.out hlt
      have c0 := (HB.out.cell (p := ⟨W.heap.size + 6, j, none⟩) (Array.getElem?_eq_some_iff.1 HN.out).1).trans hv
      have C3 := hid (law3 x (some ⟨W.heap.size + 1 + 1 + 1 + 1 + 1, 0, none⟩) 26 26 exRow wr rfl (by decide) (HRX.out.below HB.out))
      clear hv hx
      go_wp2_with (fail)
      go_at_call 3
      refine C3.out.mono ?_
      rintro e w3 ⟨rfl, hb3⟩
      have HB2 := hid (HB.out.trans (hb3.mono HB.out.size))
      clear C3 hb3 HB c0
      go_wp2
      go_roundw
      case rel => exact ⟨j + 1, by omega, by go_num, HB2⟩
      case measure => simp [intOf]; omega
    · have hge : ¬ (j : Int) < 14 := by omega
      obtain rfl : j = 14 := by omega
      have HRW := hid (HRX.out.below HB.out)
      have HBF := hid (fun (Y : World) (h : Below wr.heap.size wr Y) => HBW.out.trans ((HB.out.trans (h.mono HB.out.size)).mono HBW.out.size))
      generalize W.heap.size + 1 + 1 + 1 + 1 + 1 = b at *
      obtain ⟨B, hB, hbB, hC, hK⟩ := laid2 wr
      simp only [seqA, List.foldl_cons, List.foldl_nil] at hB
      have C5 := hid ((law5 _ _ 5 5 4 4 _ _ 1 B rfl (by decide) hC rfl hK ⟨by decide, by decide⟩).mono (R' := fun e w' => e = .returned (.bool true) ∧ Below wr.heap.size wr w') (fun e w' hh => ⟨hh.1, hbB.trans (hh.2.mono hbB.size)⟩))
      obtain ⟨b2, off2, a', c', e2, hbl, _, hc⟩ := HRW.out.at (j := 0) (by decide)
      cases e2
      have HQ := hid (fun (Y : World) (h : Below wr.heap.size wr Y) (t : Nat) (v : Value) (hv : (sval exRow[0] a' c')[t]? = some v) => show Y.cell? ⟨b, 0 + 0 * 8 + t, none⟩ = some v from (h.cell (p := ⟨b, 0 + 0 * 8 + t, none⟩) hbl).trans (hc t v hv))
      have C4 := hid (fun (Y : World) (h : Below wr.heap.size wr Y) => (law4 0 7 a' 3 c' true 0 false 2 0 Y).mono (R' := fun e w' => e = .returned (.bool true) ∧ Below wr.heap.size wr w') (fun e w' hh => ⟨hh.1, h.trans (hh.2.mono h.size)⟩))
      have C12 := hid (fun (Y : World) (h : Below wr.heap.size wr Y) => (works12 Y).mono (R' := fun e w' => e = .returned (.bool true) ∧ Below wr.heap.size wr w') (fun e w' hh => ⟨hh.1, h.trans (hh.2.mono h.size)⟩))
      clear HRW HRX HB HBW HN HPP hbB hC hK hc
      go_wp2_with (fail)
      clear hB
      go_at_call 5
      refine C5.out.mono ?_
      rintro e w5 ⟨rfl, hb5⟩
      have x0 : w5.cell? ⟨b, 0, none⟩ = some (.int .i64 0) := HQ.out _ hb5 0 _ rfl
      have x1 : w5.cell? ⟨b, 1, none⟩ = some (.int .i64 7) := HQ.out _ hb5 1 _ rfl
      have x2 : w5.cell? ⟨b, 2, none⟩ = some (.slice a' 3 c') := HQ.out _ hb5 2 _ rfl
      have x3 : w5.cell? ⟨b, 3, none⟩ = some (.bool true) := HQ.out _ hb5 3 _ rfl
      have x4 : w5.cell? ⟨b, 4, none⟩ = some (.int .i64 0) := HQ.out _ hb5 4 _ rfl
      have x5 : w5.cell? ⟨b, 5, none⟩ = some (.bool false) := HQ.out _ hb5 5 _ rfl
      have x6 : w5.cell? ⟨b, 6, none⟩ = some (.int .i64 2) := HQ.out _ hb5 6 _ rfl
      have x7 : w5.cell? ⟨b, 7, none⟩ = some (.int .i64 0) := HQ.out _ hb5 7 _ rfl
      have C4' := hid (C4.out _ hb5)
      clear C4 C5 hb5
      go_wp2_with (fail)
      go_at_call 4
      refine C4'.out.mono ?_
      rintro e w4 ⟨rfl, hb4⟩
      have C12' := hid (C12.out _ hb4)
      clear C4' C12 hb4 x0 x1 x2 x3 x4 x5 x6 x7 HQ
      go_wp2_with (fail)
      go_at_call 12
      refine C12'.out.mono ?_
      rintro e w12 ⟨rfl, hb12⟩
      have HO := hid (HBF.out _ hb12)
      clear C12' hb12 HBF
      go_wp2
      go_ret
      exact ⟨rfl, HO.out⟩
end Go.Proofs.Ytblogmelmpkfhaa
