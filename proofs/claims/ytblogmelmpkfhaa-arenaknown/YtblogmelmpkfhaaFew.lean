/- few: at most 50 calls, of 600 literals. -/
import Derived.Test.YtblogmelmpkfhaaRowz
namespace Arn
def litSum : List Stp → Nat
  | [] => 0
  | s :: l => s.lits.length + litSum l
theorem litSum_snoc (l : List Stp) (j : Nat) (h : j < l.length) : litSum (l.take (j + 1)) = litSum (l.take j) + l[j].lits.length := by
  induction l generalizing j with
  | nil => simp at h
  | cons s l ih =>
    cases j with
    | zero => simp [litSum]
    | succ j =>
      simp only [List.take_succ_cons, litSum, List.getElem_cons_succ]
      rw [ih j (by simpa using h)]
      omega
end Arn
namespace Go.Proofs.Ytblogmelmpkfhaa
open Go.RowKit Go.Maps
set_option linter.unusedVariables false

/-- What few answers, read off the loop: true only of at most 50 calls of at most 600 literals. -/
def FewOut (ss : List Arn.Stp) (W : World) (e : Ending) (w' : World) : Prop := ∃ b : Bool, e = .returned (.bool b) ∧ (b = true → ss.length ≤ 50 ∧ Arn.litSum ss ≤ 600) ∧ Below W.heap.size W w'
set_option maxRecDepth 100000 in
set_option maxHeartbeats 2000000 in
theorem few7 {W : World} {a : Option Addr} {n cap : Nat} {ss : List Arn.Stp} (hn : ss.length = n) (hN : n ≤ 2199023255552) (h : Stps W a ss) :
    Calls Try.prog 7 #[.slice a n cap] W fun e w' => FewOut ss W e w' := by
  have HN := hid hn
  rcases h with h0 | ⟨b, off, rfl, hb, hc⟩
  · subst h0
    obtain rfl : 0 = n := hn
    go_enter Try.func7, Try.ntmps7
    go_wp2_with (fail)
    go_loopw [3, 4] (fun nv iv wx => nv = .int .i64 0 ∧ iv = .int .i64 0 ∧ wx = W) (fun _ _ _ => 0)
    case atStart => exact ⟨rfl, rfl, rfl⟩
    case round =>
      obtain ⟨rfl, rfl, hwx⟩ := hrel
      rw [hwx]
      clear hwx
      go_wp2
      go_ret
      exact ⟨true, rfl, fun _ => ⟨by simp, by simp [Arn.litSum]⟩, Below.refl _ _⟩
  · have HC := hid hc
    clear hc hn
    go_enter Try.func7, Try.ntmps7
    go_wp2_with (fail)
    go_loopw [3, 4] (fun nv iv wx => ∃ (j m : Nat), j ≤ n ∧ j ≤ 51 ∧ nv = .int .i64 m ∧ iv = .int .i64 j ∧ m ≤ j * 35184372088832 ∧ Hid (Arn.litSum (ss.take j) = m) ∧ wx = W) (fun _ iv _ => n - (intOf iv).toNat)
    case atStart => exact ⟨0, 0, Nat.zero_le _, Nat.zero_le _, rfl, rfl, Nat.zero_le _, hid (by simp [Arn.litSum]), rfl⟩
    case round =>
      obtain ⟨j, m, hj, hj50, rfl, rfl, hm, HM, hwx⟩ := hrel
      rw [hwx]
      clear hwx
      by_cases hjn : j < n
      · by_cases hj5 : j ≤ 50
        · obtain ⟨a', cap', hok, hcell⟩ := HC.out j (by rw [HN.out]; exact hjn)
          have c2 := hcell 2 _ rfl
          have hS := hid (Arn.litSum_snoc ss j (by rw [HN.out]; exact hjn))
          have hlen := hok.len
          rw [HM.out] at hS
          clear hok hcell
          generalize (ss[j]'_).lits.length = L at *
          have hjn' : (j : Int) < n := by omega
          have hj5' : (j : Int) ≤ 50 := by omega
          go_wp2
          exact ⟨⟨j + 1, m + L, by omega, by omega, by go_num, by go_num, by omega, hS, trivial⟩, by simp only [intOf]; omega⟩
        · have hjn' : (j : Int) < n := by omega
          have hj5' : ¬ (j : Int) ≤ 50 := by omega
          have hn5 : ¬ (n : Int) ≤ 50 := by omega
          go_wp2
          go_ret
          exact ⟨false, rfl, fun h => (by cases h), Below.refl _ _⟩
      · have hjn' : ¬ (j : Int) < n := by omega
        obtain rfl : j = n := by omega
        have HM' := hid (show Arn.litSum ss = m by rw [← HM.out, List.take_of_length_le (by rw [HN.out]; exact Nat.le_refl _)])
        by_cases h50 : j ≤ 50
        · by_cases h600 : m ≤ 600
          · have h50' : (j : Int) ≤ 50 := by omega
            have h600' : (m : Int) ≤ 600 := by omega
            go_wp2
            go_ret
            exact ⟨true, rfl, fun _ => ⟨by rw [HN.out]; exact h50, by rw [HM'.out]; exact h600⟩, Below.refl _ _⟩
          · have h50' : (j : Int) ≤ 50 := by omega
            have h600' : ¬ (m : Int) ≤ 600 := by omega
            go_wp2
            go_ret
            exact ⟨false, rfl, fun h => (by cases h), Below.refl _ _⟩
        · have h50' : ¬ (j : Int) ≤ 50 := by omega
          go_wp2
          go_ret
          exact ⟨false, rfl, fun h => (by cases h), Below.refl _ _⟩
end Go.Proofs.Ytblogmelmpkfhaa
