/- The statements' own trial: a formula there and back. -/
import Derived.Test.YtlhpnkgdnmnclaaDoorEval
namespace Go.Proofs.YtlhpnkgdnmnclaaDoor
open Go.RowKit
set_option linter.unusedVariables false

/-- A block that holds a text's bytes. -/
theorem txt_block {W : World} {tb : Nat} {xs : List Int} {fr : Nat × Nat} (hb : Byt xs) (hl : xs.length ≤ 1099511627776) (h : W.heap[tb]? = some (.cells (xs.map (Value.int .u8)).toArray 5 fr)) : Txt tb W (some ⟨tb, 0, none⟩) xs.length xs := by
  refine ⟨hb, Nat.le_refl _, ⟨hl, by omega⟩, .inr ⟨0, rfl, fun i hi => ?_⟩⟩
  rw [Nat.zero_add, row_cell h i]
  simp [List.getD, List.getElem?_eq_getElem hi]
theorem row_below {B : Nat} {v : Value} {n : Nat} {xs : List Value} {w w' : World} (h : w.ownsRow B 5 1 v n xs) (hb : Below w.heap.size w w') : w'.ownsRow B 5 1 v n xs := by
  refine ⟨h.1, h.2.imp id ?_⟩
  rintro ⟨g, cap, cur, h1, h2, h3, h4⟩
  exact ⟨g, cap, cur, h1, h2, (hb.block g ((Array.getElem?_eq_some_iff.1 h3).1)).trans h3, h4⟩
theorem bools_two {W : World} {b : Nat} {t : TypeId} {fr : Nat × Nat} (h : W.heap[b]? = some (.cells #[.bool true, .bool false] t fr)) : Bools W (some ⟨b, 0, none⟩) [true, false] := by
  refine .inr ⟨b, 0, rfl, (Array.getElem?_eq_some_iff.1 h).1, fun j hj => ?_⟩
  rw [Nat.zero_add, row_cell h j]
  match j, hj with
  | 0, _ => rfl
  | 1, _ => rfl
theorem byt1 : Byt Dim.text1 := by unfold Byt; decide
theorem byt2 : Byt Dim.text2 := by unfold Byt; decide

set_option maxRecDepth 100000 in
set_option maxHeartbeats 4000000 in
theorem works12 (w : World) (htab : Lib.TabBelow Tryd.prog w.heap.size w "internal/strconv.uint64pow10" .u64 Lib.pow10Tab) :
    Calls Tryd.prog 12 #[] w fun e w' => e = .returned (.bool true) ∧ Below w.heap.size w w' := by
  have HT := hid htab
  clear htab
  have cvt1 := Lib.run_convert_bytes_const (P := Tryd.prog) w 22 5 #[.int .u8 99, .int .u8 32, .int .u8 120, .int .u8 10, .int .u8 112, .int .u8 32, .int .u8 99, .int .u8 110, .int .u8 102, .int .u8 32, .int .u8 50, .int .u8 32, .int .u8 50, .int .u8 10, .int .u8 49, .int .u8 32, .int .u8 45, .int .u8 50, .int .u8 32, .int .u8 48, .int .u8 32, .int .u8 50, .int .u8 10, .int .u8 48, .int .u8 10] 25 25 Tryd.underlying22 Tryd.underlying5
  have hk1 := World.alloc_heap_new w (.cells #[.int .u8 99, .int .u8 32, .int .u8 120, .int .u8 10, .int .u8 112, .int .u8 32, .int .u8 99, .int .u8 110, .int .u8 102, .int .u8 32, .int .u8 50, .int .u8 32, .int .u8 50, .int .u8 10, .int .u8 49, .int .u8 32, .int .u8 45, .int .u8 50, .int .u8 32, .int .u8 48, .int .u8 32, .int .u8 50, .int .u8 10, .int .u8 48, .int .u8 10] 5 (25, 26))
  have C9 := hid (parse9 w.heap.size (some ⟨w.heap.size, 0, none⟩) 25 25 Dim.text1 (w.alloc (.cells #[.int .u8 99, .int .u8 32, .int .u8 120, .int .u8 10, .int .u8 112, .int .u8 32, .int .u8 99, .int .u8 110, .int .u8 102, .int .u8 32, .int .u8 50, .int .u8 32, .int .u8 50, .int .u8 10, .int .u8 49, .int .u8 32, .int .u8 45, .int .u8 50, .int .u8 32, .int .u8 48, .int .u8 32, .int .u8 50, .int .u8 10, .int .u8 48, .int .u8 10] 5 (25, 26))) ⟨_, _, hk1⟩ rfl (txt_block byt1 (by decide) hk1) (by decide))
  rw [Dim.parse_text1] at C9
  clear hk1
  go_enter Tryd.func12, Tryd.ntmps12
  go_wp2_with (first
    | (go_at_call 9; refine C9.out.mono ?_; clear C9; rintro e W2 ⟨a, cap, rfl, hcls, hb2⟩; clear cvt1
       have hB2 : Below w.heap.size w W2 := ((Below.refl _ w).alloc (Nat.le_refl _) _).trans (hb2.mono (by simp))
       have hB2' : Below w.heap.size w (W2.alloc (.cells #[.int .i64 2, .slice a 2 cap] 25)) := hB2.alloc hB2.size _
       have C14 := hid (print14 2 a 2 cap [[1, -2], [2]] (W2.alloc (.cells #[.int .i64 2, .slice a 2 cap] 25)) rfl (by decide) (by decide) (by decide) (by decide) (hcls.below (below_box _ _)) (by decide) (fun w' h => HT.out w' (hB2'.trans (h.mono hB2'.size))))
       rw [Dim.print_text1] at C14
       replace hcls := hid hcls
       replace hb2 := hid hb2
       replace hB2 := hid hB2
       replace hB2' := hid hB2')
    | (go_at_call 14; refine C14.out.mono ?_; clear C14; rintro e W3 ⟨v, rfl, hown, hb3⟩
       have hB3 := hB2'.out.trans (hb3.mono hB2'.out.size)
       have cvt2 := Lib.run_convert_bytes_const (P := Tryd.prog) W3 22 5 #[.int .u8 112, .int .u8 32, .int .u8 99, .int .u8 110, .int .u8 102, .int .u8 32, .int .u8 50, .int .u8 32, .int .u8 49, .int .u8 10, .int .u8 51, .int .u8 32, .int .u8 48, .int .u8 10] 14 14 Tryd.underlying22 Tryd.underlying5
       have hk2 := World.alloc_heap_new W3 (.cells #[.int .u8 112, .int .u8 32, .int .u8 99, .int .u8 110, .int .u8 102, .int .u8 32, .int .u8 50, .int .u8 32, .int .u8 49, .int .u8 10, .int .u8 51, .int .u8 32, .int .u8 48, .int .u8 10] 5 (14, 15))
       have CC := hid (parse9 W3.heap.size (some ⟨W3.heap.size, 0, none⟩) 14 14 Dim.text2 (W3.alloc (.cells #[.int .u8 112, .int .u8 32, .int .u8 99, .int .u8 110, .int .u8 102, .int .u8 32, .int .u8 50, .int .u8 32, .int .u8 49, .int .u8 10, .int .u8 51, .int .u8 32, .int .u8 48, .int .u8 10] 5 (14, 15))) ⟨_, _, hk2⟩ rfl (txt_block byt2 (by decide) hk2) (by decide))
       rw [Dim.parse_text2] at CC
       clear hk2
       replace hown := hid hown
       replace hb3 := hid hb3
       replace hB3 := hid hB3)
    | (go_at_call 9; refine CC.out.mono ?_; clear CC; rintro e W4 ⟨a4, cap4, rfl, hcls4, hb4⟩; clear cvt2 hcls4
       have hB34 : Below W3.heap.size W3 W4 := ((Below.refl _ W3).alloc (Nat.le_refl _) _).trans (hb4.mono (by simp))
       have hB4 : Below w.heap.size w W4 := hB3.out.trans (hB34.mono hB3.out.size)
       have cv := row_string (row_below (row_below hown.out hB34) (below_box W4 (.cells #[.int .i64 0, .slice a4 0 cap4] 25))) (by decide)
       have hB5 := hB4.alloc hB4.size (.cells #[.int .i64 0, .slice a4 0 cap4] 25)
       have hB6 := hB5.alloc hB5.size (.cells #[.bool true, .bool false] 4)
       have hk6 := World.alloc_heap_new (W4.alloc (.cells #[.int .i64 0, .slice a4 0 cap4] 25)) (.cells #[.bool true, .bool false] 4)
       have C16 := hid (values16 (some ⟨W4.heap.size + 1, 0, none⟩) 2 2 [true, false] ((W4.alloc (.cells #[.int .i64 0, .slice a4 0 cap4] 25)).alloc (.cells #[.bool true, .bool false] 4)) rfl (by decide) (bools_two (by simpa using hk6)) (fun w' h => HT.out w' (hB6.trans (h.mono hB6.size))))
       rw [Dim.values_two] at C16
       clear hk6
       replace hb4 := hid hb4
       replace hB34 := hid hB34
       replace hB4 := hid hB4
       replace hB5 := hid hB5
       replace hB6 := hid hB6)
    | (go_at_call 16; refine C16.out.mono ?_; clear C16; rintro e W7 ⟨rfl, hb7⟩
       replace hb7 := hid hb7))
  go_ret
  exact ⟨rfl, hB6.out.trans (hb7.out.mono hB6.out.size)⟩
end Go.Proofs.YtlhpnkgdnmnclaaDoor
