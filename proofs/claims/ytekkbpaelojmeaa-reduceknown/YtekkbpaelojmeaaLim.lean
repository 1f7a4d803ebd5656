/- Limits. -/
import Derived.Test.YtekkbpaelojmeaaLv
namespace Go.Proofs.Ytekkbpaelojmeaa
open Go.RowKit Go.Maps
set_option linter.unusedVariables false
set_option maxRecDepth 100000

def LOut (a n : Int) : Ending := .returned (.tuple #[.int .i64 (limitV a n), .int .i64 (limitE a n)])
theorem lout_no {a n : Int} (h : ¬ (1 ≤ a ∧ a ≤ 1000000 ∧ 1 ≤ n ∧ n ≤ 1000000)) : LOut a n = .returned (.tuple #[.int .i64 0, .int .i64 2]) := by
  unfold LOut limitV limitE; rw [if_neg h, if_neg h]
theorem lout_ok {a n : Int} (h : 1 ≤ a ∧ a ≤ 1000000 ∧ 1 ≤ n ∧ n ≤ 1000000) : LOut a n = .returned (.tuple #[.int .i64 (a * n * (n + 1) / 2), .int .i64 0]) := by
  unfold LOut limitV limitE; rw [if_pos h, if_pos h]
theorem lim_bounds {a n : Int} (h : 1 ≤ a ∧ a ≤ 1000000 ∧ 1 ≤ n ∧ n ≤ 1000000) : (1 ≤ a * n ∧ a * n ≤ 1000000000000) ∧ 0 ≤ a * n * (n + 1) ∧ a * n * (n + 1) ≤ 1000001000000000000 := by
  obtain ⟨h1, h2, h3, h4⟩ := h
  have e1 : a * n ≤ 1000000 * 1000000 := Int.mul_le_mul h2 h4 (by omega) (by omega)
  have e0 : 1 * 1 ≤ a * n := Int.mul_le_mul h1 h3 (by omega) (by omega)
  refine ⟨⟨by omega, by omega⟩, Int.mul_nonneg (by omega) (by omega), ?_⟩
  have e2 : a * n * (n + 1) ≤ 1000000000000 * 1000001 := Int.mul_le_mul (by omega) (by omega) (by omega) (by omega)
  omega
set_option maxHeartbeats 1000000 in
theorem limit15 (a n : Int) (W : World) : Calls Try.prog 15 #[.int .i64 a, .int .i64 n] W fun e w' => e = LOut a n ∧ w' = W := by
  by_cases hh : 1 ≤ a ∧ a ≤ 1000000 ∧ 1 ≤ n ∧ n ≤ 1000000
  · rw [lout_ok hh]
    obtain ⟨⟨b1, b2⟩, b3, b4⟩ := lim_bounds hh
    obtain ⟨h1, h2, h3, h4⟩ := hh
    have w1 : wrap64 (a * n) = a * n := by unfold wrap64; omega
    have w2 : wrap64 (n + 1) = n + 1 := by unfold wrap64; omega
    have w3 : wrap64 (a * n * (n + 1)) = a * n * (n + 1) := by unfold wrap64; omega
    have w4 : wrap64 ((a * n * (n + 1)).tdiv 2) = a * n * (n + 1) / 2 := by rw [Int.tdiv_eq_ediv_of_nonneg b3]; unfold wrap64; omega
    have w5 : (a * n * (n + 1)).tdiv 2 = a * n * (n + 1) / 2 := Int.tdiv_eq_ediv_of_nonneg b3
    go_enter Try.func15, Try.ntmps15
    go_wp2
    go_ret2
    exact ⟨rfl, rfl⟩
  · rw [lout_no hh]
    by_cases h1 : 1 ≤ a <;> by_cases h2 : a ≤ 1000000 <;> by_cases h3 : 1 ≤ n <;> by_cases h4 : n ≤ 1000000 <;> first | (exfalso; exact hh ⟨h1, h2, h3, h4⟩) | skip
    all_goals
      clear hh
      go_enter Try.func15, Try.ntmps15
      go_wp2
      go_ret2
      exact ⟨rfl, rfl⟩
/-- The sum of the first k steps. -/
theorem sum_step (a : Int) (k : Nat) (h : 1 ≤ a) : a * (k : Int) * ((k : Int) + 1) / 2 + ((k : Int) + 1) * a = a * ((k + 1 : Nat) : Int) * (((k + 1 : Nat) : Int) + 1) / 2 := by
  have e : a * ((k + 1 : Nat) : Int) * (((k + 1 : Nat) : Int) + 1) = a * (k : Int) * ((k : Int) + 1) + 2 * (((k : Int) + 1) * a) := by
    push_cast
    simp only [Int.mul_add, Int.add_mul, Int.mul_one, Int.one_mul]
    rw [Int.mul_comm (k : Int) a]
    omega
  rw [e]
  generalize ((k : Int) + 1) * a = y
  generalize a * (k : Int) * ((k : Int) + 1) = x
  omega
set_option maxHeartbeats 2000000 in
theorem limit16 (a n : Int) (W : World) : Calls Try.prog 16 #[.int .i64 a, .int .i64 n] W fun e w' => e = LOut a n ∧ w' = W := by
  by_cases hh : 1 ≤ a ∧ a ≤ 1000000 ∧ 1 ≤ n ∧ n ≤ 1000000
  · rw [lout_ok hh]
    obtain ⟨h1, h2, h3, h4⟩ := hh
    obtain ⟨m, rfl⟩ : ∃ m : Nat, n = m := ⟨n.toNat, by omega⟩
    have HS := hid (fun k => sum_step a k h1)
    have HB := hid (fun (k : Nat) (hk : k < m) => show wrap64 (((k : Int) + 1) * a) = ((k : Int) + 1) * a ∧ wrap64 (a * (k : Int) * ((k : Int) + 1) / 2 + ((k : Int) + 1) * a) = a * (k : Int) * ((k : Int) + 1) / 2 + ((k : Int) + 1) * a from by
      have q1 : ((k : Int) + 1) * a ≤ 1000000 * 1000000 := Int.mul_le_mul (by omega) h2 (by omega) (by omega)
      have q0 : 0 ≤ ((k : Int) + 1) * a := Int.mul_nonneg (by omega) (by omega)
      have r0 : a * (k : Int) * ((k : Int) + 1) / 2 ≤ 1000001000000000000 ∧ 0 ≤ a * (k : Int) * ((k : Int) + 1) / 2 := by
        rcases Nat.eq_zero_or_pos k with rfl | hp
        · simp
        · have := lim_bounds (a := a) (n := (k : Int)) ⟨h1, h2, by omega, by omega⟩
          omega
      constructor <;> (unfold wrap64; omega))
    go_enter Try.func16, Try.ntmps16
    go_wp2
    go_loopw [6, 7] (fun sv iv wr => ∃ k : Nat, k ≤ m ∧ sv = .int .i64 (a * (k : Int) * ((k : Int) + 1) / 2) ∧ iv = .int .i64 ((k : Int) + 1) ∧ wr = W) (fun _ iv _ => m + 1 - (intOf iv).toNat)
    case atStart => exact ⟨0, Nat.zero_le _, by simp, by simp, rfl⟩
    case round =>
      obtain ⟨k, hk, rfl, rfl, rfl⟩ := hrel
      have s1 := HS.out k
      by_cases hlt : k < m
      · obtain ⟨b1, b2⟩ := HB.out k hlt
        have hlt' : (k : Int) + 1 ≤ m := by omega
        have w1 : wrap64 ((k : Int) + 1 + 1) = ((k + 1 : Nat) : Int) + 1 := by unfold wrap64; omega
        generalize a * (k : Int) * ((k : Int) + 1) / 2 = x at *
        generalize hz : a * ((k + 1 : Nat) : Int) * (((k + 1 : Nat) : Int) + 1) / 2 = z at *
        have HX := hid s1
        have HZ := hid hz
        clear s1 hz
        go_wp2
        go_roundw
        case rel => exact ⟨k + 1, by omega, by rw [HZ.out, ← HX.out, b2], by simp, trivial⟩
        case measure => simp [intOf]; omega
      · have hkm : k = m := by omega
        subst hkm
        have hge : ¬ (k : Int) + 1 ≤ k := by omega
        clear s1
        generalize hq : a * (k : Int) * ((k : Int) + 1) / 2 = x at *
        have HQ := hid hq
        clear hq
        go_wp2
        go_ret2
        exact ⟨by rw [HQ.out]; rfl, rfl⟩
  · rw [lout_no hh]
    by_cases h1 : 1 ≤ a <;> by_cases h2 : a ≤ 1000000 <;> by_cases h3 : 1 ≤ n <;> by_cases h4 : n ≤ 1000000 <;> first | (exfalso; exact hh ⟨h1, h2, h3, h4⟩) | skip
    all_goals
      clear hh
      go_enter Try.func16, Try.ntmps16
      go_wp2
      go_ret2
      exact ⟨rfl, rfl⟩
end Go.Proofs.Ytekkbpaelojmeaa
