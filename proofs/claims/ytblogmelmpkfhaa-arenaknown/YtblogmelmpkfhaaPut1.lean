/- Put. -/
import Derived.Test.YtblogmelmpkfhaaPut0
namespace Arn
theorem any_take (xs : List Int) (k : Nat) (h : k < xs.length) (h1 : (0 : Int) ∉ xs.take k) (h2 : xs.getD k 0 ≠ 0) : (0 : Int) ∉ xs.take (k + 1) := by
  rw [List.take_succ_eq_append_getElem h, List.mem_append, List.mem_singleton]
  rintro (h3 | h3)
  · exact h1 h3
  · exact h2 (by simp [List.getD, List.getElem?_eq_getElem h, ← h3])
theorem take_snoc (xs : List Int) (k : Nat) (h : k < xs.length) : xs.take (k + 1) = xs.take k ++ [xs.getD k 0] := by
  rw [List.take_succ_eq_append_getElem h]; simp [List.getD, List.getElem?_eq_getElem h]
end Arn
namespace Go.Proofs.Ytblogmelmpkfhaa
open Go.RowKit Go.Maps
set_option linter.unusedVariables false

def IdxOut (xs : List Int) (e : Ending) : Prop := ∃ i : Int, e = .returned (.int .i64 i) ∧ (0 ≤ i ↔ (0 : Int) ∈ xs)
theorem ret_int {a b : Int} (h : a = b) : Ending.returned (.int .i64 a) = .returned (.int .i64 b) := by rw [h]
set_option maxRecDepth 100000 in
set_option maxHeartbeats 1000000 in
theorem index51 (a : Option Addr) (n cap : Nat) (xs : List Int) (w : World) (hn : xs.length = n) (hN : n ≤ 35184372088832) (h : Lits w a xs) :
    Calls Try.prog 51 #[.slice a n cap, .int .i32 0] w fun e w' => IdxOut xs e ∧ w' = w := by
  have HN := hid hn
  have HX := hid h
  have hsh : n = 0 ∨ ∃ b off, a = some ⟨b, off, none⟩ := by rw [← hn]; exact h.shape
  have HSH := hid hsh
  clear hn h hsh
  rcases HSH.out with h0 | ⟨b, off, rfl⟩
  · subst h0
    have HXS := hid (show xs = [] from List.eq_nil_of_length_eq_zero HN.out)
    go_enter Try.func51, Try.ntmps51
    go_wp2
    go_loop [8] (fun i => i = .int .i64 0) (fun _ => 0)
    case atStart => rfl
    case round =>
      obtain rfl := hrel
      go_wp2
      go_ret
      exact ⟨⟨-1, rfl, by rw [HXS.out]; simp⟩, rfl⟩
  · go_enter Try.func51, Try.ntmps51
    go_wp2
    go_loop [8] (fun i => ∃ k : Nat, k ≤ n ∧ i = .int .i64 k ∧ Hid ((0 : Int) ∉ xs.take k)) (fun i => n - (intOf i).toNat)
    case atStart => exact ⟨0, Nat.zero_le _, rfl, hid (by simp)⟩
    case round =>
      obtain ⟨k, hk, rfl, HT⟩ := hrel
      by_cases hlt : k < n
      · have hlt' : (k : Int) < n := by omega
        obtain ⟨b', off', e, _, hc, _⟩ := HX.out.at (j := k) (by rw [HN.out]; exact hlt)
        cases e
        by_cases hz : xs.getD k 0 = 0
        · rw [hz] at hc
          have HM := hid (show (0 : Int) ∈ xs by rw [← hz]; exact Arn.getD_mem xs k (by rw [HN.out]; exact hlt))
          clear hz
          go_wp2
          go_ret
          exact ⟨⟨k, rfl, ⟨fun _ => HM.out, fun _ => by omega⟩⟩, rfl⟩
        · have HT' := hid (Arn.any_take xs k (by rw [HN.out]; exact hlt) HT.out hz)
          have hz' : ((0 : Int) == xs.getD k 0) = false := by simp; exact fun e => hz e.symm
          have hz2 : ¬ (0 : Int) = xs.getD k 0 := fun e => hz e.symm
          generalize xs.getD k 0 = xv at *
          go_wp2
          go_round
          case rel => exact ⟨k + 1, by omega, by go_num, HT'⟩
          case measure => simp [intOf]; omega
      · have hge : ¬ (k : Int) < n := by omega
        obtain rfl : k = n := by omega
        have HT' := HT.out
        rw [List.take_of_length_le (by rw [HN.out]; exact Nat.le_refl _)] at HT'
        have HT2 := hid HT'
        clear HT'
        go_wp2
        go_ret
        exact ⟨⟨-1, rfl, ⟨fun h => by omega, fun h => absurd h HT2.out⟩⟩, rfl⟩
theorem contains39 (a : Option Addr) (n cap : Nat) (xs : List Int) (w : World) (hn : xs.length = n) (hN : n ≤ 35184372088832) (h : Lits w a xs) :
    Calls Try.prog 39 #[.slice a n cap, .int .i32 0] w fun e w' => e = .returned (.bool (decide ((0 : Int) ∈ xs))) ∧ w' = w := by
  have HC := hid (index51 a n cap xs w hn hN h)
  clear hn h
  go_enter Try.func39, Try.ntmps39
  go_wp2_with (go_at_call 51; refine HC.out.mono ?_; rintro e w3 ⟨⟨i, rfl, hi⟩, hw⟩; rw [hw]; clear hw; have HI := hid hi; clear hi)
  go_ret
  exact ⟨ret_bool (by simp [HI.out]), rfl⟩
end Go.Proofs.Ytblogmelmpkfhaa
