/- Two records compared. -/
import Derived.Test.YtekkbpaelojmeaaLv
namespace Go.Proofs.Ytekkbpaelojmeaa
open Go.RowKit Go.Maps
set_option linter.unusedVariables false
set_option maxRecDepth 100000

theorem nan38 (x : Int) (W : World) : Calls Try.prog 38 #[.int .i64 x] W fun e w' => e = .returned (.bool false) ∧ w' = W := by
  have hx : (x != x) = false := by simp
  go_enter Try.func38, Try.ntmps38
  go_wp2
  go_ret
  exact ⟨rfl, rfl⟩
theorem nan39 (x : Int) (W : World) : Calls Try.prog 39 #[.int .i64 x] W fun e w' => e = .returned (.bool false) ∧ w' = W := by
  have hx : (x != x) = false := by simp
  go_enter Try.func39, Try.ntmps39
  go_wp2
  go_ret
  exact ⟨rfl, rfl⟩
theorem cmp26 (x y : Int) (W : World) : Calls Try.prog 26 #[.int .i64 x, .int .i64 y] W fun e w' => e = .returned (.int .i64 (c3 x y)) ∧ w' = W := by
  have CN := hid (fun (x : Int) (W : World) => nan38 x W)
  by_cases h1 : x < y
  · have HE := hid (show c3 x y = -1 by simp [c3, h1])
    rw [HE.out]
    go_enter Try.func26, Try.ntmps26
    go_wp2_with (go_at_call 38; refine (CN.out _ _).mono ?_; rintro e w4 ⟨rfl, hw4⟩; rw [hw4]; clear hw4)
    go_ret
    exact ⟨rfl, rfl⟩
  · by_cases h2 : y < x
    · have HE := hid (show c3 x y = 1 by simp [c3, h1, h2])
      rw [HE.out]
      go_enter Try.func26, Try.ntmps26
      go_wp2_with (go_at_call 38; refine (CN.out _ _).mono ?_; rintro e w4 ⟨rfl, hw4⟩; rw [hw4]; clear hw4)
      go_ret
      exact ⟨rfl, rfl⟩
    · have HE := hid (show c3 x y = 0 by simp [c3, h1, h2])
      rw [HE.out]
      go_enter Try.func26, Try.ntmps26
      go_wp2_with (go_at_call 38; refine (CN.out _ _).mono ?_; rintro e w4 ⟨rfl, hw4⟩; rw [hw4]; clear hw4)
      go_ret
      exact ⟨rfl, rfl⟩
theorem cmp27 (x y : Int) (W : World) : Calls Try.prog 27 #[.int .i64 x, .int .i64 y] W fun e w' => e = .returned (.int .i64 (c3 x y)) ∧ w' = W := by
  have CN := hid (fun (x : Int) (W : World) => nan39 x W)
  by_cases h1 : x < y
  · have HE := hid (show c3 x y = -1 by simp [c3, h1])
    rw [HE.out]
    go_enter Try.func27, Try.ntmps27
    go_wp2_with (go_at_call 39; refine (CN.out _ _).mono ?_; rintro e w4 ⟨rfl, hw4⟩; rw [hw4]; clear hw4)
    go_ret
    exact ⟨rfl, rfl⟩
  · by_cases h2 : y < x
    · have HE := hid (show c3 x y = 1 by simp [c3, h1, h2])
      rw [HE.out]
      go_enter Try.func27, Try.ntmps27
      go_wp2_with (go_at_call 39; refine (CN.out _ _).mono ?_; rintro e w4 ⟨rfl, hw4⟩; rw [hw4]; clear hw4)
      go_ret
      exact ⟨rfl, rfl⟩
    · have HE := hid (show c3 x y = 0 by simp [c3, h1, h2])
      rw [HE.out]
      go_enter Try.func27, Try.ntmps27
      go_wp2_with (go_at_call 39; refine (CN.out _ _).mono ?_; rintro e w4 ⟨rfl, hw4⟩; rw [hw4]; clear hw4)
      go_ret
      exact ⟨rfl, rfl⟩
/-- The first of four numbers that is not 0, where all ahead are. -/
theorem or_cases (a b c d : Int) : (a ≠ 0 ∧ or4 a b c d = a) ∨ (a = 0 ∧ b ≠ 0 ∧ or4 a b c d = b) ∨ (a = 0 ∧ b = 0 ∧ c ≠ 0 ∧ or4 a b c d = c) ∨ (a = 0 ∧ b = 0 ∧ c = 0 ∧ d ≠ 0 ∧ or4 a b c d = d) ∨ (a = 0 ∧ b = 0 ∧ c = 0 ∧ d = 0 ∧ or4 a b c d = 0) := by
  unfold or4
  by_cases h1 : a = 0 <;> by_cases h2 : b = 0 <;> by_cases h3 : c = 0 <;> by_cases h4 : d = 0 <;> simp [h1, h2, h3, h4]
set_option maxHeartbeats 2000000 in
theorem or25 (g : Nat) (a b c d : Int) (w : World) (h0 : w.cell? ⟨g, 0, none⟩ = some (.int .i64 a)) (h1 : w.cell? ⟨g, 1, none⟩ = some (.int .i64 b)) (h2 : w.cell? ⟨g, 2, none⟩ = some (.int .i64 c)) (h3 : w.cell? ⟨g, 3, none⟩ = some (.int .i64 d)) :
    Calls Try.prog 25 #[.slice (some ⟨g, 0, none⟩) 4 4] w fun e w' => e = .returned (.int .i64 (or4 a b c d)) ∧ w' = w := by
  have z0 : ((0 : Int) != 0) = false := by decide
  rcases or_cases a b c d with ⟨n, e⟩ | ⟨rfl, n, e⟩ | ⟨rfl, rfl, n, e⟩ | ⟨rfl, rfl, rfl, n, e⟩ | ⟨rfl, rfl, rfl, rfl, e⟩ <;> rw [e] <;> clear e
  · have n' : (a != 0) = true := by simp [n]
    clear n
    go_enter Try.func25, Try.ntmps25
    go_wp2
    refine wp_loop_rounds 1 ?_
    rw [rounds_succ]; go_wp2
    go_ret
    exact ⟨rfl, rfl⟩
  · have n' : (b != 0) = true := by simp [n]
    clear n
    go_enter Try.func25, Try.ntmps25
    go_wp2
    refine wp_loop_rounds 2 ?_
    rw [rounds_succ]; go_wp2
    rw [rounds_succ]; go_wp2
    go_ret
    exact ⟨rfl, rfl⟩
  · have n' : (c != 0) = true := by simp [n]
    clear n
    go_enter Try.func25, Try.ntmps25
    go_wp2
    refine wp_loop_rounds 3 ?_
    rw [rounds_succ]; go_wp2
    rw [rounds_succ]; go_wp2
    rw [rounds_succ]; go_wp2
    go_ret
    exact ⟨rfl, rfl⟩
  · have n' : (d != 0) = true := by simp [n]
    clear n
    go_enter Try.func25, Try.ntmps25
    go_wp2
    refine wp_loop_rounds 4 ?_
    rw [rounds_succ]; go_wp2
    rw [rounds_succ]; go_wp2
    rw [rounds_succ]; go_wp2
    rw [rounds_succ]; go_wp2
    go_ret
    exact ⟨rfl, rfl⟩
  · go_enter Try.func25, Try.ntmps25
    go_wp2
    refine wp_loop_rounds 5 ?_
    rw [rounds_succ]; go_wp2
    rw [rounds_succ]; go_wp2
    rw [rounds_succ]; go_wp2
    rw [rounds_succ]; go_wp2
    rw [rounds_succ]; go_wp2
    go_ret
    exact ⟨rfl, rfl⟩
end Go.Proofs.Ytekkbpaelojmeaa
