/- Sixteen variables: plain facts for the closed statement. -/
import Derived.Test.YtccncojidkdddaaGrow
namespace Tru
theorem bit15 (k : Nat) (h : k < 65536) : k.testBit 15 = decide (32768 ≤ k) := by
  rw [Nat.testBit_eq_decide_div_mod_eq]
  rw [Bool.eq_iff_iff, decide_eq_true_eq, decide_eq_true_eq]
  omega
theorem tr16 (k : Nat) : Cnf.tr 16 (model 16 k) = k.testBit 15 := by
  unfold Cnf.tr
  rw [show Cnf.vr 16 = 16 by decide, model_len, show ((16 : Int) - 1).toNat = 15 from rfl, model_get 16 k 15 (by decide)]
  simp
theorem sat_k1 (k : Nat) (h : k < 65536) : sat [[16]] 16 k = decide (32768 ≤ k) := by
  unfold sat Cnf.holds Cnf.val
  simp only [List.all_cons, List.all_nil, List.any_cons, List.any_nil, Bool.and_true, Bool.or_false]
  rw [tr16, bit15 k h]
theorem count_from (cs : List (List Int)) (u N M : Nat) (hs : ∀ k, k < M → sat cs u k = decide (N ≤ k)) (j : Nat) (h : j ≤ M) : count cs u j = j - N := by
  induction j with
  | zero => rw [count, Nat.zero_sub]
  | succ j ih =>
    rw [count, ih (by omega), hs j (by omega)]
    by_cases hj : N ≤ j
    · rw [decide_eq_true hj, if_pos rfl]; omega
    · rw [decide_eq_false hj, if_neg (by decide)]; omega
theorem count_k1 (j : Nat) (h : j ≤ 65536) : count [[16]] 16 j = j - 32768 := count_from _ _ _ _ sat_k1 j h
theorem taken_k1 : taken 16 [[16]] = 0 := by decide
theorem taken_k2 : taken 16 [[16], [-1, 15]] = 0 := by decide
theorem know_count : countV 16 [[16]] = 32768 := by
  unfold countV
  rw [if_pos taken_k1, show ((16 : Int)).toNat = 16 from rfl, count_k1 _ (by decide)]
theorem sat_k2 (k : Nat) (h : k < 32768) : sat [[16], [-1, 15]] 16 k = false := by
  have := sat_k1 k (by omega)
  rw [decide_eq_false (by omega)] at this
  unfold sat Cnf.holds at this ⊢
  simp only [List.all_cons, List.all_nil, Bool.and_true] at this ⊢
  rw [this]; rfl
theorem sat_k3 : sat [[16], [-1, 15]] 16 32768 = true := by decide
theorem know_find {bs : List Bool} {ok : Bool} {er : Int} (h : FW 16 [[16], [-1, 15]] bs ok er) : bs = model 16 32768 ∧ ok = true ∧ er = 0 :=
  h.unique (.found 16 32768 rfl taken_k2 (by decide) sat_k3 sat_k2)
theorem model_k : (model 16 32768).length = 16 ∧ (model 16 32768).getD 15 false = true ∧ (model 16 32768).getD 0 false = false := by decide
end Tru
