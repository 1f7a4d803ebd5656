/- ReduceLimits. -/
import Derived.Test.YtekkbpaelojmeaaWrk
namespace Go.Proofs.Ytekkbpaelojmeaa
open Go.RowKit Go.Maps
set_option linter.unusedVariables false
set_option linter.unusedSimpArgs false
set_option maxRecDepth 100000

theorem lim_next {a n : Int} (h1 : 1 ≤ a) (h3 : 1 ≤ n) : a * (n + 1) * (n + 1 + 1) / 2 = a * n * (n + 1) / 2 + (n + 1) * a := by
  obtain ⟨k, rfl⟩ : ∃ k : Nat, n = k := ⟨n.toNat, by omega⟩
  have := sum_step a k h1
  push_cast at this
  omega
set_option maxHeartbeats 4000000 in
theorem law5 (a n : Int) (W : World) (ha : I64 a) (hn : I64 n) : Calls Try.prog 5 #[.int .i64 a, .int .i64 n] W fun e w' => e = .returned (.bool true) ∧ Below W.heap.size W w' := by
  have C13 := hid (fun W => works13 W)
  have C15 := hid (fun a n W => limit15 a n W)
  have C16 := hid (fun a n W => limit16 a n W)
  by_cases hA : 3000 < n ∧ n ≤ 1000000
  · obtain ⟨h1, h2⟩ := hA
    go_enter Try.func5, Try.ntmps5
    go_wp2_with fail
    go_ret
    exact ⟨rfl, Below.refl _ _⟩
  · by_cases hh : 1 ≤ a ∧ a ≤ 1000000 ∧ 1 ≤ n ∧ n ≤ 1000000
    · obtain ⟨h1, h2, h3, h4⟩ := hh
      have hn3 : n ≤ 3000 := by omega
      clear hA
      have H0 := hid (lout_ok ⟨h1, h2, h3, h4⟩)
      by_cases h8 : n ≤ 2998
      · have H1 := hid (lout_ok (a := a) (n := n + 1) ⟨h1, h2, by omega, by omega⟩)
        have H2 := hid (lout_ok (a := a) (n := n + 2) ⟨h1, h2, by omega, by omega⟩)
        have e1 := lim_next (a := a) (n := n) h1 h3
        have e2 := lim_next (a := a) (n := n + 1) h1 (by omega)
        have b0 := lim_bounds (a := a) (n := n) ⟨h1, h2, h3, h4⟩
        have b2 := lim_bounds (a := a) (n := n + 2) ⟨h1, h2, by omega, by omega⟩
        have m1 : (n + 1) * a = n * a + a := by rw [Int.add_mul, Int.one_mul]
        have m2 : (n + 1 + 1) * a = n * a + a + a := by rw [Int.add_mul, Int.add_mul, Int.one_mul]
        have m0 : 0 ≤ n * a := Int.mul_nonneg (by omega) (by omega)
        rw [show n + 1 + 1 = n + 2 by omega] at e1 e2 m2
        rw [show n + 2 + 1 = n + 1 + 1 + 1 by omega] at H2 b2
        rw [show n + 2 + 1 = n + 1 + 1 + 1 by omega] at e2
        rw [show n + 1 + 1 = n + 2 by omega] at H1
        have w1 : wrap64 (n + 1) = n + 1 := by unfold wrap64; omega
        have w2 : wrap64 (n + 2) = n + 2 := by unfold wrap64; omega
        obtain ⟨⟨b3, b4⟩, b5, b6⟩ := b0
        obtain ⟨⟨c3, c4⟩, c5, c6⟩ := b2
        generalize a * n * (n + 1) = x0 at *
        generalize a * (n + 1) * (n + 2) = x1 at *
        generalize a * (n + 2) * (n + 1 + 1 + 1) = x2 at *
        generalize (n + 1) * a = y1 at *
        generalize (n + 2) * a = y2 at *
        obtain ⟨l0, hl0⟩ : ∃ l0, x0 / 2 = l0 := ⟨_, rfl⟩
        obtain ⟨l1, hl1⟩ : ∃ l1, x1 / 2 = l1 := ⟨_, rfl⟩
        obtain ⟨l2, hl2⟩ : ∃ l2, x2 / 2 = l2 := ⟨_, rfl⟩
        rw [hl0] at H0 e1
        rw [hl1] at H1 e1 e2
        rw [hl2] at H2 e2
        have k1 : l0 < l1 := by omega
        have k2 : wrap64 (l2 - l1) = l2 - l1 := by unfold wrap64; omega
        have k3 : wrap64 (l1 - l0) = l1 - l0 := by unfold wrap64; omega
        have k4 : l1 - l0 < l2 - l1 := by omega
        clear hl0 hl1 hl2 e1 e2 m1 m2 m0 b3 b4 b5 b6 c3 c4 c5 c6
        have hne : (l0 != l0) = false := by simp
        go_enter Try.func5, Try.ntmps5
        go_wp2_with (first
          | (go_at_call 13; refine (C13.out _).mono ?_; rintro e w5 ⟨rfl, hb5⟩)
          | (go_at_call 16; refine (C16.out _ _ _).mono ?_; rintro e w4 ⟨he4, hw4⟩; rw [hw4, he4, H0.out]; clear hw4 he4)
          | (go_at_call_of 15 (Value.int IntKind.i64 a); refine (C15.out _ _ _).mono ?_; rintro e w4 ⟨he4, hw4⟩; rw [hw4, he4]; clear hw4 he4; first | rw [H0.out] | rw [H1.out] | rw [H2.out]))
        go_ret
        exact ⟨rfl, hb5⟩
      · go_enter Try.func5, Try.ntmps5
        go_wp2_with (first
          | (go_at_call 13; refine (C13.out _).mono ?_; rintro e w5 ⟨rfl, hb5⟩)
          | (go_at_call 16; refine (C16.out _ _ _).mono ?_; rintro e w4 ⟨he4, hw4⟩; rw [hw4, he4, H0.out]; clear hw4 he4)
          | (go_at_call 15; refine (C15.out _ _ _).mono ?_; rintro e w4 ⟨he4, hw4⟩; rw [hw4, he4, H0.out]; clear hw4 he4))
        go_ret
        exact ⟨rfl, hb5⟩
    · have H0 := hid (lout_no hh)
      have hA2 : n ≤ 3000 ∨ 1000000 < n := by omega
      clear hA hh
      rcases hA2 with h1 | h1
      · go_enter Try.func5, Try.ntmps5
        go_wp2_with (first
          | (go_at_call 13; refine (C13.out _).mono ?_; rintro e w5 ⟨rfl, hb5⟩)
          | (go_at_call 16; refine (C16.out _ _ _).mono ?_; rintro e w4 ⟨he4, hw4⟩; rw [hw4, he4, H0.out]; clear hw4 he4)
          | (go_at_call 15; refine (C15.out _ _ _).mono ?_; rintro e w4 ⟨he4, hw4⟩; rw [hw4, he4, H0.out]; clear hw4 he4))
        go_ret
        exact ⟨rfl, hb5⟩
      · have h2 : 3000 < n := by omega
        go_enter Try.func5, Try.ntmps5
        go_wp2_with (first
          | (go_at_call 13; refine (C13.out _).mono ?_; rintro e w5 ⟨rfl, hb5⟩)
          | (go_at_call 16; refine (C16.out _ _ _).mono ?_; rintro e w4 ⟨he4, hw4⟩; rw [hw4, he4, H0.out]; clear hw4 he4)
          | (go_at_call 15; refine (C15.out _ _ _).mono ?_; rintro e w4 ⟨he4, hw4⟩; rw [hw4, he4, H0.out]; clear hw4 he4))
        go_ret
        exact ⟨rfl, hb5⟩
end Go.Proofs.Ytekkbpaelojmeaa
