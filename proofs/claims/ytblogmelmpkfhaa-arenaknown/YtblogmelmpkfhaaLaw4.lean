/- An arena that is not there. -/
import Derived.Test.YtblogmelmpkfhaaWrk
namespace Go.Proofs.Ytblogmelmpkfhaa
open Go.RowKit Go.Maps
set_option linter.unusedVariables false
set_option maxRecDepth 100000

theorem live42_nil (r : Int) (W : World) : Calls Try.prog 42 #[.pointer none, .int .i64 r] W fun e w' => e = .returned (.bool false) ∧ w' = W := by
  go_enter Try.func42, Try.ntmps42
  go_wp2
  go_ret
  exact ⟨rfl, rfl⟩
theorem wrong43_nil (r : Int) (W : World) : Calls Try.prog 43 #[.pointer none, .int .i64 r] W fun e w' => e = .returned (.int .i64 1) ∧ w' = W := by
  go_enter Try.func43, Try.ntmps43
  go_wp2
  go_ret
  exact ⟨rfl, rfl⟩
theorem put13_nil (id : Int) (a : Option Addr) (k c : Nat) (red : Bool) (lbd : Int) (W : World) : Calls Try.prog 13 #[.pointer none, .int .i64 id, .slice a k c, .bool red, .int .i64 lbd] W fun e w' => e = .returned (.tuple #[.int .i64 0, .int .i64 1]) ∧ w' = W := by
  go_enter Try.func13, Try.ntmps13
  go_wp2
  go_ret2
  exact ⟨rfl, rfl⟩
theorem words14_nil (W : World) : Calls Try.prog 14 #[.pointer none] W fun e w' => e = .returned (.tuple #[.int .i64 0, .int .i64 0]) ∧ w' = W := by
  go_enter Try.func14, Try.ntmps14
  go_wp2
  go_ret2
  exact ⟨rfl, rfl⟩
theorem lbd15_nil (r : Int) (W : World) : Calls Try.prog 15 #[.pointer none, .int .i64 r] W fun e w' => e = .returned (.tuple #[.int .i64 0, .int .i64 0]) ∧ w' = W := by
  have C := hid (live42_nil r W)
  go_enter Try.func15, Try.ntmps15
  go_wp2_with (go_at_call 42; refine C.out.mono ?_; rintro e w4 ⟨rfl, hw4⟩; rw [hw4]; clear hw4)
  go_ret2
  exact ⟨rfl, rfl⟩
theorem kill16_nil (r : Int) (W : World) : Calls Try.prog 16 #[.pointer none, .int .i64 r] W fun e w' => e = .returned (.int .i64 1) ∧ w' = W := by
  have C := hid (wrong43_nil r W)
  go_enter Try.func16, Try.ntmps16
  go_wp2_with (go_at_call 43; refine C.out.mono ?_; rintro e w4 ⟨rfl, hw4⟩; rw [hw4]; clear hw4)
  go_ret
  exact ⟨rfl, rfl⟩
theorem shrink17_nil (r i : Int) (W : World) : Calls Try.prog 17 #[.pointer none, .int .i64 r, .int .i64 i] W fun e w' => e = .returned (.int .i64 1) ∧ w' = W := by
  have C := hid (wrong43_nil r W)
  go_enter Try.func17, Try.ntmps17
  go_wp2_with (go_at_call 43; refine C.out.mono ?_; rintro e w4 ⟨rfl, hw4⟩; rw [hw4]; clear hw4)
  go_ret
  exact ⟨rfl, rfl⟩
theorem swap18_nil (r i k : Int) (W : World) : Calls Try.prog 18 #[.pointer none, .int .i64 r, .int .i64 i, .int .i64 k] W fun e w' => e = .returned (.int .i64 1) ∧ w' = W := by
  have C := hid (wrong43_nil r W)
  go_enter Try.func18, Try.ntmps18
  go_wp2_with (go_at_call 43; refine C.out.mono ?_; rintro e w4 ⟨rfl, hw4⟩; rw [hw4]; clear hw4)
  go_ret
  exact ⟨rfl, rfl⟩
theorem mark19_nil (r i k : Int) (W : World) : Calls Try.prog 19 #[.pointer none, .int .i64 r, .int .i64 i, .int .i64 k] W fun e w' => e = .returned (.int .i64 1) ∧ w' = W := by
  have C := hid (wrong43_nil r W)
  go_enter Try.func19, Try.ntmps19
  go_wp2_with (go_at_call 43; refine C.out.mono ?_; rintro e w4 ⟨rfl, hw4⟩; rw [hw4]; clear hw4)
  go_ret
  exact ⟨rfl, rfl⟩
theorem lits20_nil (r : Int) (W : World) : Calls Try.prog 20 #[.pointer none, .int .i64 r] W fun e w' => e = .returned (.slice none 0 0) ∧ w' = W := by
  have C := hid (live42_nil r W)
  go_enter Try.func20, Try.ntmps20
  go_wp2_with (go_at_call 42; refine C.out.mono ?_; rintro e w4 ⟨rfl, hw4⟩; rw [hw4]; clear hw4)
  go_ret
  exact ⟨rfl, rfl⟩
theorem len21_nil (r : Int) (W : World) : Calls Try.prog 21 #[.pointer none, .int .i64 r] W fun e w' => e = .returned (.int .i64 0) ∧ w' = W := by
  have C := hid (live42_nil r W)
  go_enter Try.func21, Try.ntmps21
  go_wp2_with (go_at_call 42; refine C.out.mono ?_; rintro e w4 ⟨rfl, hw4⟩; rw [hw4]; clear hw4)
  go_ret
  exact ⟨rfl, rfl⟩
theorem lit22_nil (r i : Int) (W : World) : Calls Try.prog 22 #[.pointer none, .int .i64 r, .int .i64 i] W fun e w' => e = .returned (.int .i32 0) ∧ w' = W := by
  have C := hid (live42_nil r W)
  go_enter Try.func22, Try.ntmps22
  go_wp2_with (go_at_call 42; refine C.out.mono ?_; rintro e w4 ⟨rfl, hw4⟩; rw [hw4]; clear hw4)
  go_ret
  exact ⟨rfl, rfl⟩
theorem id23_nil (r : Int) (W : World) : Calls Try.prog 23 #[.pointer none, .int .i64 r] W fun e w' => e = .returned (.int .i64 0) ∧ w' = W := by
  have C := hid (live42_nil r W)
  go_enter Try.func23, Try.ntmps23
  go_wp2_with (go_at_call 42; refine C.out.mono ?_; rintro e w4 ⟨rfl, hw4⟩; rw [hw4]; clear hw4)
  go_ret
  exact ⟨rfl, rfl⟩
theorem red24_nil (r : Int) (W : World) : Calls Try.prog 24 #[.pointer none, .int .i64 r] W fun e w' => e = .returned (.bool false) ∧ w' = W := by
  have C := hid (live42_nil r W)
  go_enter Try.func24, Try.ntmps24
  go_wp2_with (go_at_call 42; refine C.out.mono ?_; rintro e w4 ⟨rfl, hw4⟩; rw [hw4]; clear hw4)
  go_ret
  exact ⟨rfl, rfl⟩
theorem refs25_nil (W : World) : Calls Try.prog 25 #[.pointer none] W fun e w' => e = .returned (.slice none 0 0) ∧ w' = W := by
  go_enter Try.func25, Try.ntmps25
  go_wp2
  go_ret
  exact ⟨rfl, rfl⟩
theorem collect26_nil (W : World) : Calls Try.prog 26 #[.pointer none] W fun e w' => e = .returned (.slice none 0 0) ∧ w' = W := by
  go_enter Try.func26, Try.ntmps26
  go_wp2
  go_ret
  exact ⟨rfl, rfl⟩
set_option maxHeartbeats 4000000 in
theorem law4 (kd id : Int) (a : Option Addr) (k c : Nat) (red : Bool) (r : Int) (loose : Bool) (i0 k0 : Int) (W : World) :
    Calls Try.prog 4 #[.agg #[.int .i64 kd, .int .i64 id, .slice a k c, .bool red, .int .i64 r, .bool loose, .int .i64 i0, .int .i64 k0]] W fun e w' => e = .returned (.bool true) ∧ Below W.heap.size W w' := by
  have CW := hid (works12 (W.alloc (.cells #[.int .i64 kd, .int .i64 id, .slice a k c, .bool red, .int .i64 r, .bool loose, .int .i64 i0, .int .i64 k0] 32)))
  go_enter Try.func4, Try.ntmps4
  go_wp2_with (first
    | (go_at_call 13; refine (put13_nil id a k c red i0 _).mono ?_; rintro e w4 ⟨rfl, hw4⟩; rw [hw4]; clear hw4)
    | (go_at_call 14; refine (words14_nil _).mono ?_; rintro e w4 ⟨rfl, hw4⟩; rw [hw4]; clear hw4)
    | (go_at_call 15; refine (lbd15_nil r _).mono ?_; rintro e w4 ⟨rfl, hw4⟩; rw [hw4]; clear hw4)
    | (go_at_call 16; refine (kill16_nil 0 _).mono ?_; rintro e w4 ⟨rfl, hw4⟩; rw [hw4]; clear hw4)
    | (go_at_call 17; refine (shrink17_nil 0 0 _).mono ?_; rintro e w4 ⟨rfl, hw4⟩; rw [hw4]; clear hw4)
    | (go_at_call 18; refine (swap18_nil 0 0 0 _).mono ?_; rintro e w4 ⟨rfl, hw4⟩; rw [hw4]; clear hw4)
    | (go_at_call 19; refine (mark19_nil 0 0 0 _).mono ?_; rintro e w4 ⟨rfl, hw4⟩; rw [hw4]; clear hw4)
    | (go_at_call 20; refine (lits20_nil 0 _).mono ?_; rintro e w4 ⟨rfl, hw4⟩; rw [hw4]; clear hw4)
    | (go_at_call 21; refine (len21_nil 0 _).mono ?_; rintro e w4 ⟨rfl, hw4⟩; rw [hw4]; clear hw4)
    | (go_at_call 22; refine (lit22_nil 0 0 _).mono ?_; rintro e w4 ⟨rfl, hw4⟩; rw [hw4]; clear hw4)
    | (go_at_call 23; refine (id23_nil 0 _).mono ?_; rintro e w4 ⟨rfl, hw4⟩; rw [hw4]; clear hw4)
    | (go_at_call 24; refine (red24_nil 0 _).mono ?_; rintro e w4 ⟨rfl, hw4⟩; rw [hw4]; clear hw4)
    | (go_at_call 25; refine (refs25_nil _).mono ?_; rintro e w4 ⟨rfl, hw4⟩; rw [hw4]; clear hw4)
    | (go_at_call 26; refine (collect26_nil _).mono ?_; rintro e w4 ⟨rfl, hw4⟩; rw [hw4]; clear hw4)
    | (go_at_call 12; refine CW.out.mono ?_; rintro e w5 ⟨rfl, hb5⟩))
  go_ret
  exact ⟨rfl, box_below _ _ hb5⟩
end Go.Proofs.Ytblogmelmpkfhaa
