/- A base that is not there: the law. -/
import Derived.Test.YthpebfojkpnojaaWk2
import Derived.Test.YthpebfojkpnojaaNil
namespace Go.Proofs.Ythpebfojkpnojaa
open Go.RowKit Go.Maps
set_option linter.unusedVariables false
set_option linter.unusedSimpArgs false
set_option maxRecDepth 100000
set_option maxHeartbeats 8000000 in
theorem law3 (k id by_ : Int) (a : Option Addr) (n c : Nat) (a2 : Option Addr) (n2 c2 : Nat) (red : Bool) (W : World) :
    Calls Try.prog 3 #[.agg #[.int .i64 k, .int .i64 id, .int .i64 by_, .slice a n c, .slice a2 n2 c2, .bool red]] W fun e w' => e = .returned (.bool true) ∧ Below W.heap.size W w' := by
  have hB := below_box W (.cells #[.int .i64 k, .int .i64 id, .int .i64 by_, .slice a n c, .slice a2 n2 c2, .bool red] 26)
  have hx := heap_alloc_new W (.cells #[.int .i64 k, .int .i64 id, .int .i64 by_, .slice a n c, .slice a2 n2 c2, .bool red] 26)
  generalize hW1 : W.alloc (.cells #[.int .i64 k, .int .i64 id, .int .i64 by_, .slice a n c, .slice a2 n2 c2, .bool red] 26) = W1 at hB hx
  have HF := hid (fun X (hX : Below W1.heap.size W1 X) => show X.cell? ⟨W.heap.size, 1, none⟩ = some (.int .i64 id) ∧ X.cell? ⟨W.heap.size, 2, none⟩ = some (.int .i64 by_) ∧ X.cell? ⟨W.heap.size, 3, none⟩ = some (.slice a n c) from by
    have hh := (hX.block W.heap.size (lt_of_blk hx)).trans hx
    exact ⟨row_cell hh 1, row_cell hh 2, row_cell hh 3⟩)
  have p1 : W1.cell? ⟨W.heap.size, 1, none⟩ = some (.int .i64 id) := row_cell hx 1
  have p3 : W1.cell? ⟨W.heap.size, 3, none⟩ = some (.slice a n c) := row_cell hx 3
  have p4 : W1.cell? ⟨W.heap.size, 4, none⟩ = some (.slice a2 n2 c2) := row_cell hx 4
  have p5 : W1.cell? ⟨W.heap.size, 5, none⟩ = some (.bool red) := row_cell hx 5
  have HYF := hid (fun w6 X (hX : Below (World.alloc w6 (.cells #[.int .i64 0, .slice none 0 0, .bool false] 32)).heap.size (World.alloc w6 (.cells #[.int .i64 0, .slice none 0 0, .bool false] 32)) X) => show X.cell? ⟨w6.heap.size, 0, none⟩ = some (.int .i64 0) from by
    have hh := (hX.block w6.heap.size (by simp)).trans (heap_alloc_new w6 (.cells #[.int .i64 0, .slice none 0 0, .bool false] 32))
    exact row_cell hh 0)
  have HB := hid hB
  clear hx hB
  go_enter Try.func3, Try.ntmps3
  go_wp2_with (first
    | (go_at_call 5; go_loud (refine (add5_nil _ _ _ _ _ _ _ _).mono ?_; rintro e w5 ⟨rfl, hb⟩; have D5 := hid hb; clear hb; have q51 := (HF.out w5 D5.out).1; have q52 := (HF.out w5 D5.out).2.1; have q53 := (HF.out w5 D5.out).2.2))
    | (go_at_call 6; go_loud (refine (get6_nil _ _).mono ?_; rintro e w6 ⟨rfl, hb⟩; have D6 := hid (D5.out.trans (hb.mono D5.out.size)); clear hb q51 q52 q53))
    | (go_at_call 7; go_loud (refine (empty7_nil _).mono ?_; rintro e w7 ⟨rfl, hb⟩; have D7 := hid (D6.out.trans (((below_box w6 (.cells #[.int .i64 0, .slice none 0 0, .bool false] 32)).mono D6.out.size).trans (hb.mono (Nat.le_trans D6.out.size (below_box w6 (.cells #[.int .i64 0, .slice none 0 0, .bool false] 32)).size)))); have Y7 := hid hb; clear hb; have q71 := (HF.out w7 D7.out).1; have q72 := (HF.out w7 D7.out).2.1; have q73 := (HF.out w7 D7.out).2.2; have q7y := HYF.out w6 w7 Y7.out))
    | (go_at_call 8; go_loud (refine (keep8_nil _ _).mono ?_; rintro e w8 ⟨rfl, hb⟩; have D8 := hid (D7.out.trans (hb.mono D7.out.size)); have Y8 := hid (Y7.out.trans (hb.mono Y7.out.size)); clear hb q71 q72 q73 q7y; have q81 := (HF.out w8 D8.out).1; have q82 := (HF.out w8 D8.out).2.1; have q83 := (HF.out w8 D8.out).2.2; have q8y := HYF.out w6 w8 Y8.out))
    | (go_at_call 9; go_loud (refine (delete9_nil _ _).mono ?_; rintro e w9 ⟨rfl, hb⟩; have D9 := hid (D8.out.trans (hb.mono D8.out.size)); have Y9 := hid (Y8.out.trans (hb.mono Y8.out.size)); clear hb q81 q82 q83 q8y; have q91 := (HF.out w9 D9.out).1; have q92 := (HF.out w9 D9.out).2.1; have q93 := (HF.out w9 D9.out).2.2; have q9y := HYF.out w6 w9 Y9.out))
    | (go_at_call 10; go_loud (refine (drop10_nil _ _ _).mono ?_; rintro e w10 ⟨rfl, hb⟩; have D10 := hid (D9.out.trans (hb.mono D9.out.size)); have Y10 := hid (Y9.out.trans (hb.mono Y9.out.size)); clear hb q91 q92 q93 q9y; have q101 := (HF.out w10 D10.out).1; have q102 := (HF.out w10 D10.out).2.1; have q103 := (HF.out w10 D10.out).2.2; have q10y := HYF.out w6 w10 Y10.out))
    | (go_at_call 11; go_loud (refine (weaken11_nil _ _ _ _ _).mono ?_; rintro e w11 ⟨rfl, hb⟩; have D11 := hid (D10.out.trans (hb.mono D10.out.size)); have Y11 := hid (Y10.out.trans (hb.mono Y10.out.size)); clear hb q101 q102 q103 q10y; have q111 := (HF.out w11 D11.out).1; have q112 := (HF.out w11 D11.out).2.1; have q113 := (HF.out w11 D11.out).2.2; have q11y := HYF.out w6 w11 Y11.out))
    | (go_at_call 12; go_loud (refine (vars12_nil _).mono ?_; rintro e w12 ⟨rfl, hb⟩; have D12 := hid (D11.out.trans (hb.mono D11.out.size)); have Y12 := hid (Y11.out.trans (hb.mono Y11.out.size)); clear hb q111 q112 q113 q11y; have q121 := (HF.out w12 D12.out).1; have q122 := (HF.out w12 D12.out).2.1; have q123 := (HF.out w12 D12.out).2.2; have q12y := HYF.out w6 w12 Y12.out))
    | (go_at_call 13; go_loud (refine (last13_nil _).mono ?_; rintro e w13 ⟨rfl, hb⟩; have D13 := hid (D12.out.trans (hb.mono D12.out.size)); have Y13 := hid (Y12.out.trans (hb.mono Y12.out.size)); clear hb q121 q122 q123 q12y; have q131 := (HF.out w13 D13.out).1; have q132 := (HF.out w13 D13.out).2.1; have q133 := (HF.out w13 D13.out).2.2; have q13y := HYF.out w6 w13 Y13.out))
    | (go_at_call 14; go_loud (refine (entries14_nil _).mono ?_; rintro e w14 ⟨rfl, hb⟩; have D14 := hid (D13.out.trans (hb.mono D13.out.size)); have Y14 := hid (Y13.out.trans (hb.mono Y13.out.size)); clear hb q131 q132 q133 q13y; have q141 := (HF.out w14 D14.out).1; have q142 := (HF.out w14 D14.out).2.1; have q143 := (HF.out w14 D14.out).2.2; have q14y := HYF.out w6 w14 Y14.out))
    | (go_at_call 15; go_loud (refine (occurs15_nil _ _).mono ?_; rintro e w15 ⟨rfl, hb⟩; have D15 := hid (D14.out.trans (hb.mono D14.out.size)); have Y15 := hid (Y14.out.trans (hb.mono Y14.out.size)); clear hb q141 q142 q143 q14y; have q151 := (HF.out w15 D15.out).1; have q152 := (HF.out w15 D15.out).2.1; have q153 := (HF.out w15 D15.out).2.2; have q15y := HYF.out w6 w15 Y15.out))
    | (go_at_call 16; go_loud (refine (steps16_nil _).mono ?_; rintro e w16 ⟨rfl, hb⟩; have D16 := hid (D15.out.trans (hb.mono D15.out.size)); have Y16 := hid (Y15.out.trans (hb.mono Y15.out.size)); clear hb q151 q152 q153 q15y; have q161 := (HF.out w16 D16.out).1; have q162 := (HF.out w16 D16.out).2.1; have q163 := (HF.out w16 D16.out).2.2; have q16y := HYF.out w6 w16 Y16.out))
    | (go_at_call 17; go_loud (refine (stack17_nil _).mono ?_; rintro e w17 ⟨rfl, hb⟩; have D17 := hid (D16.out.trans (hb.mono D16.out.size)); have Y17 := hid (Y16.out.trans (hb.mono Y16.out.size)); clear hb q161 q162 q163 q16y; have q171 := (HF.out w17 D17.out).1; have q172 := (HF.out w17 D17.out).2.1; have q173 := (HF.out w17 D17.out).2.2; have q17y := HYF.out w6 w17 Y17.out))
    | (go_at_call 18; go_loud (refine (rules18_nil _).mono ?_; rintro e w18 ⟨rfl, hb⟩; have D18 := hid (D17.out.trans (hb.mono D17.out.size)); have Y18 := hid (Y17.out.trans (hb.mono Y17.out.size)); clear hb q171 q172 q173 q17y; have q181 := (HF.out w18 D18.out).1; have q182 := (HF.out w18 D18.out).2.1; have q183 := (HF.out w18 D18.out).2.2; have q18y := HYF.out w6 w18 Y18.out))
    | (go_at_call 19; go_loud (refine (copy19_nil _).mono ?_; rintro e w19 ⟨rfl, hb⟩; have D19 := hid (D18.out.trans (hb.mono D18.out.size)); have Y19 := hid (Y18.out.trans (hb.mono Y18.out.size)); clear hb q181 q182 q183 q18y; have q191 := (HF.out w19 D19.out).1; have q192 := (HF.out w19 D19.out).2.1; have q193 := (HF.out w19 D19.out).2.2; have q19y := HYF.out w6 w19 Y19.out))
    | (go_at_call 20; go_loud (refine (works20 _).mono ?_; rintro e w20 ⟨rfl, hb⟩; have D20 := hid (D19.out.trans (hb.mono D19.out.size)); clear hb)))
  go_ret
  exact ⟨rfl, HB.out.trans (D20.out.mono HB.out.size)⟩
end Go.Proofs.Ythpebfojkpnojaa
