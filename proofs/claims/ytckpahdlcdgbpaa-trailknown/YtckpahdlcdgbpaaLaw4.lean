/- A trail that is not there. -/
import Derived.Test.YtckpahdlcdgbpaaWrk
namespace Go.Proofs.Ytckpahdlcdgbpaa
open Go.RowKit Go.Maps
set_option linter.unusedVariables false
set_option maxRecDepth 100000

theorem next14_nil (W : World) : Calls Try.prog 14 #[.pointer none] W fun e w' => e = .returned (.tuple #[.int .i32 0, .bool false]) ∧ Drawn W w' := by
  go_enter Try.func14, Try.ntmps14
  go_wp2
  go_quiet (fail)
  go_wp2
  go_ret2
  exact ⟨rfl, _, rfl⟩
theorem model15_nil (W : World) : Calls Try.prog 15 #[.pointer none] W fun e w' => e = .returned (.tuple #[.slice none 0 0, .bool false]) ∧ Drawn W w' := by
  go_enter Try.func15, Try.ntmps15
  go_wp2
  go_quiet (fail)
  go_wp2
  go_ret2
  exact ⟨rfl, _, rfl⟩
theorem vars20_nil (W : World) : Calls Try.prog 20 #[.pointer none] W fun e w' => e = .returned (.int .i64 0) ∧ w' = W := by
  go_enter Try.func20, Try.ntmps20
  go_wp2
  go_ret
  exact ⟨rfl, rfl⟩
theorem levels21_nil (W : World) : Calls Try.prog 21 #[.pointer none] W fun e w' => e = .returned (.int .i64 0) ∧ w' = W := by
  go_enter Try.func21, Try.ntmps21
  go_wp2
  go_ret
  exact ⟨rfl, rfl⟩
theorem lits22_nil (W : World) : Calls Try.prog 22 #[.pointer none] W fun e w' => e = .returned (.slice none 0 0) ∧ w' = W := by
  go_enter Try.func22, Try.ntmps22
  go_wp2
  go_ret
  exact ⟨rfl, rfl⟩
theorem len23_nil (W : World) : Calls Try.prog 23 #[.pointer none] W fun e w' => e = .returned (.int .i64 0) ∧ w' = W := by
  go_enter Try.func23, Try.ntmps23
  go_wp2
  go_ret
  exact ⟨rfl, rfl⟩
theorem move19_nil (a : Option Addr) (k c : Nat) (W : World) : Calls Try.prog 19 #[.pointer none, .slice a k c] W fun e w' => e = .returned (.int .i64 1) ∧ w' = W := by
  go_enter Try.func19, Try.ntmps19
  go_wp2
  go_ret
  exact ⟨rfl, rfl⟩
theorem wrong43_nil (l r : Int) (hl : I32 l) (W : World) : Calls Try.prog 43 #[.pointer none, .int .i32 l, .int .i64 r] W fun e w' => e = .returned (.int .i64 1) ∧ w' = W := by
  have C := hid (var16 l W hl)
  go_enter Try.func43, Try.ntmps43
  go_wp2_with (first
    | (go_at_call 16; refine (C.out).mono ?_; rintro e w4 ⟨rfl, hw4⟩; rw [hw4]; clear hw4))
  go_ret
  exact ⟨rfl, rfl⟩
theorem decide17_nil (l : Int) (hl : I32 l) (W : World) : Calls Try.prog 17 #[.pointer none, .int .i32 l] W fun e w' => e = .returned (.int .i64 1) ∧ w' = W := by
  have C := hid (wrong43_nil l (-1) hl W)
  go_enter Try.func17, Try.ntmps17
  go_wp2_with (first
    | (go_at_call 43; refine (C.out).mono ?_; rintro e w4 ⟨rfl, hw4⟩; rw [hw4]; clear hw4))
  go_ret
  exact ⟨rfl, rfl⟩
theorem assign18_nil (l r : Int) (hl : I32 l) (W : World) : Calls Try.prog 18 #[.pointer none, .int .i32 l, .int .i64 r] W fun e w' => e = .returned (.int .i64 1) ∧ w' = W := by
  have C := hid (wrong43_nil l r hl W)
  go_enter Try.func18, Try.ntmps18
  go_wp2_with (first
    | (go_at_call 43; refine (C.out).mono ?_; rintro e w4 ⟨rfl, hw4⟩; rw [hw4]; clear hw4))
  go_ret
  exact ⟨rfl, rfl⟩
theorem back13_nil (r : Int) (W : World) : Calls Try.prog 13 #[.pointer none, .int .i64 r] W fun e w' => e = .returned (.tuple #[.slice none 0 0, .int .i64 1]) ∧ Below W.heap.size W w' := by
  go_enter Try.func13, Try.ntmps13
  go_wp2
  go_ret2
  exact ⟨rfl, below_box _ _⟩
theorem about47_nil (v : Int) (W : World) : Calls Try.prog 47 #[.pointer none, .int .i64 v] W fun e w' => e = .returned (known Trl.K0) ∧ Below W.heap.size W w' := by
  go_enter Try.func47, Try.ntmps47
  go_wp2
  refine bodyPost_ret (results74 rfl _ _ W.heap.size Trl.K0 _ rfl (heap_alloc_new _ _) rfl) rfl ?_
  exact ⟨rfl, below_box _ _⟩
theorem tell48_nil (v : Int) (f : Nat) (W : World) : Calls Try.prog 48 #[.pointer none, .int .i64 v, .func (.func f) #[] #[]] W fun e w' => e = .returned (.int .i64 (-1)) ∧ Below W.heap.size W w' := by
  have C := hid (about47_nil v W)
  unfold known Trl.K0 at C
  go_enter Try.func48, Try.ntmps48
  go_wp2_with (fail)
  go_at_call 47
  refine C.out.mono ?_
  rintro e w2 ⟨rfl, hb2⟩
  go_wp2
  go_ret
  exact ⟨rfl, hb2.alloc hb2.size _⟩
theorem level25_nil (v : Int) (W : World) : Calls Try.prog 25 #[.pointer none, .int .i64 v] W fun e w' => e = .returned (.int .i64 (-1)) ∧ Below W.heap.size W w' := by
  have C := hid (tell48_nil v 49 W)
  go_enter Try.func25, Try.ntmps25
  go_wp2_with (go_at_call 48; refine C.out.mono ?_; rintro e w2 ⟨rfl, hb2⟩)
  go_ret
  exact ⟨rfl, hb2⟩
theorem reason26_nil (v : Int) (W : World) : Calls Try.prog 26 #[.pointer none, .int .i64 v] W fun e w' => e = .returned (.int .i64 (-1)) ∧ Below W.heap.size W w' := by
  have C := hid (tell48_nil v 50 W)
  go_enter Try.func26, Try.ntmps26
  go_wp2_with (go_at_call 48; refine C.out.mono ?_; rintro e w2 ⟨rfl, hb2⟩)
  go_ret
  exact ⟨rfl, hb2⟩
theorem place27_nil (v : Int) (W : World) : Calls Try.prog 27 #[.pointer none, .int .i64 v] W fun e w' => e = .returned (.int .i64 (-1)) ∧ Below W.heap.size W w' := by
  have C := hid (tell48_nil v 51 W)
  go_enter Try.func27, Try.ntmps27
  go_wp2_with (go_at_call 48; refine C.out.mono ?_; rintro e w2 ⟨rfl, hb2⟩)
  go_ret
  exact ⟨rfl, hb2⟩
theorem value24_nil (l : Int) (hl : I32 l) (W : World) : Calls Try.prog 24 #[.pointer none, .int .i32 l] W fun e w' => e = .returned (.int .i64 0) ∧ Below W.heap.size W w' := by
  have CV := hid (var16 l W hl)
  have C := hid (about47_nil (Trl.vr l) W)
  have hfld := field74
  unfold known Trl.K0 at C
  generalize Trl.vr l = vl at *
  go_enter Try.func24, Try.ntmps24
  go_wp2_with (first
    | (go_at_call 16; refine CV.out.mono ?_; rintro e w2 ⟨rfl, hw2⟩; rw [hw2]; clear hw2)
    | (go_at_call 47; refine C.out.mono ?_; rintro e w2 ⟨rfl, hb2⟩))
  go_ret
  exact ⟨rfl, hb2⟩
set_option maxHeartbeats 4000000 in
theorem law4 (kd l n : Int) (a : Option Addr) (k c : Nat) (hl : I32 l) (W : World) :
    Calls Try.prog 4 #[.agg #[.int .i64 kd, .int .i32 l, .int .i64 n, .slice a k c]] W fun e w' => e = .returned (.bool true) ∧ Below W.heap.size W w' := by
  have hx := below_box W (.cells #[.int .i64 kd, .int .i32 l, .int .i64 n, .slice a k c] 36)
  have hnew := heap_alloc_new W (.cells #[.int .i64 kd, .int .i32 l, .int .i64 n, .slice a k c] 36)
  obtain ⟨V, hV⟩ : ∃ V, W.alloc (.cells #[.int .i64 kd, .int .i32 l, .int .i64 n, .slice a k c] 36) = V := ⟨_, rfl⟩
  rw [hV] at hx hnew
  have x2 : V.cell? ⟨W.heap.size, 2, none⟩ = some (.int .i64 n) := row_cell hnew 2
  have HX := hid hx
  have HNEW := hid hnew
  clear hx hnew
  go_enter Try.func4, Try.ntmps4
  go_wp2_with (fail)
  go_at_call 13
  refine (back13_nil n V).mono ?_
  rintro e w2 ⟨rfl, hb2⟩
  go_wp2_with (fail)
  go_at_call 14
  refine (next14_nil w2).mono ?_
  rintro e w3 ⟨rfl, hd3⟩
  go_wp2_with (fail)
  go_at_call 15
  refine (model15_nil w3).mono ?_
  rintro e w4 ⟨rfl, hd4⟩
  have hb4 : Below V.heap.size V w4 := hb2.trans ((hd3.below.mono hb2.size).trans (hd4.below.mono (Nat.le_trans hb2.size hd3.below.size)))
  have hn4 : w4.heap[W.heap.size]? = some (.cells #[.int .i64 kd, .int .i32 l, .int .i64 n, .slice a k c] 36 (0, 0)) := (hb4.block _ (lt_of_blk HNEW.out)).trans HNEW.out
  have y1 : w4.cell? ⟨W.heap.size, 1, none⟩ = some (.int .i32 l) := row_cell hn4 1
  have y2 : w4.cell? ⟨W.heap.size, 2, none⟩ = some (.int .i64 n) := row_cell hn4 2
  have y3 : w4.cell? ⟨W.heap.size, 3, none⟩ = some (.slice a k c) := row_cell hn4 3
  have HB4 := hid (HX.out.trans (hb4.mono HX.out.size))
  clear hb2 hd3 hd4 hb4 hn4 x2 HX HNEW hV
  have C16 := hid (var16 l w4 hl)
  have C17 := hid (decide17_nil l hl w4)
  have C18 := hid (assign18_nil l n hl w4)
  have C24 := hid (value24_nil l hl w4)
  generalize Trl.vr l = vl at *
  go_wp2_with (first
    | (go_at_call 16; refine C16.out.mono ?_; rintro e v4 ⟨rfl, hw4⟩; rw [hw4]; clear hw4)
    | (go_at_call 17; refine C17.out.mono ?_; rintro e v4 ⟨rfl, hw4⟩; rw [hw4]; clear hw4)
    | (go_at_call 18; refine C18.out.mono ?_; rintro e v4 ⟨rfl, hw4⟩; rw [hw4]; clear hw4)
    | (go_at_call 19; refine (move19_nil a k c _).mono ?_; rintro e v4 ⟨rfl, hw4⟩; rw [hw4]; clear hw4)
    | (go_at_call 20; refine (vars20_nil _).mono ?_; rintro e v4 ⟨rfl, hw4⟩; rw [hw4]; clear hw4)
    | (go_at_call 21; refine (levels21_nil _).mono ?_; rintro e v4 ⟨rfl, hw4⟩; rw [hw4]; clear hw4)
    | (go_at_call 22; refine (lits22_nil _).mono ?_; rintro e v4 ⟨rfl, hw4⟩; rw [hw4]; clear hw4)
    | (go_at_call 23; refine (len23_nil _).mono ?_; rintro e v4 ⟨rfl, hw4⟩; rw [hw4]; clear hw4)
    | (go_at_call 24; refine C24.out.mono ?_; rintro e w5 ⟨rfl, hb5⟩)
    | (go_at_call 25; refine (level25_nil vl _).mono ?_; rintro e w6 ⟨rfl, hb6⟩)
    | (go_at_call 26; refine (reason26_nil vl _).mono ?_; rintro e w7 ⟨rfl, hb7⟩)
    | (go_at_call 27; refine (place27_nil vl _).mono ?_; rintro e w8 ⟨rfl, hb8⟩)
    | (go_at_call 10; refine (works10 _).mono ?_; rintro e w9 ⟨rfl, hb9⟩))
  go_ret
  have h5 := HB4.out.trans (hb5.mono HB4.out.size)
  have h6 := h5.trans (hb6.mono h5.size)
  have h7 := h6.trans (hb7.mono h6.size)
  have h8 := h7.trans (hb8.mono h7.size)
  exact ⟨rfl, h8.trans (hb9.mono h8.size)⟩
end Go.Proofs.Ytckpahdlcdgbpaa
