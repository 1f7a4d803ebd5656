/- slices.Index, slices.Contains, of a literal in a clause. -/
import Derived.Test.YthpebfojkpnojaaHas
namespace Bas
theorem any_take (v : Int) (xs : List Int) (k : Nat) (h : k < xs.length) (h1 : v ∉ xs.take k) (h2 : xs.getD k 0 ≠ v) : v ∉ xs.take (k + 1) := by
  rw [List.take_succ_eq_append_getElem h, List.mem_append, List.mem_singleton]
  rintro (h3 | h3)
  · exact h1 h3
  · exact h2 (by simp [List.getD, List.getElem?_eq_getElem h, ← h3])
end Bas
namespace Go.Proofs.Ythpebfojkpnojaa
open Go.RowKit Go.Maps
set_option linter.unusedVariables false

def IdxOut (v : Int) (xs : List Int) (e : Ending) : Prop := ∃ i : Int, e = .returned (.int .i64 i) ∧ (0 ≤ i ↔ v ∈ xs)
set_option maxRecDepth 100000 in
set_option maxHeartbeats 1000000 in
theorem index62 (v : Int) (a : Option Addr) (n cap : Nat) (xs : List Int) (w : World) (hn : xs.length = n) (hN : n ≤ 35184372088832) (h : Lits w a xs) :
    Calls Try.prog 62 #[.slice a n cap, .int .i32 v] w fun e w' => IdxOut v xs e ∧ w' = w := by
  have HN := hid hn
  have HX := hid h
  have hsh : n = 0 ∨ ∃ b off, a = some ⟨b, off, none⟩ := by rw [← hn]; exact h.shape
  have HSH := hid hsh
  clear hn h hsh
  rcases HSH.out with h0 | ⟨b, off, rfl⟩
  · subst h0
    have HXS := hid (show xs = [] from List.eq_nil_of_length_eq_zero HN.out)
    go_enter Try.func62, Try.ntmps62
    go_wp2
    go_loop [8] (fun i => i = .int .i64 0) (fun _ => 0)
    case atStart => rfl
    case round =>
      obtain rfl := hrel
      go_wp2
      go_ret
      exact ⟨⟨-1, rfl, by rw [HXS.out]; simp⟩, rfl⟩
  · go_enter Try.func62, Try.ntmps62
    go_wp2
    go_loop [8] (fun i => ∃ k : Nat, k ≤ n ∧ i = .int .i64 k ∧ Hid (v ∉ xs.take k)) (fun i => n - (intOf i).toNat)
    case atStart => exact ⟨0, Nat.zero_le _, rfl, hid (by simp)⟩
    case round =>
      obtain ⟨k, hk, rfl, HT⟩ := hrel
      by_cases hlt : k < n
      · have hlt' : (k : Int) < n := by omega
        obtain ⟨b', off', e, _, hc, _⟩ := Row.at HX.out (j := k) (by rw [HN.out]; exact hlt)
        cases e
        by_cases hz : xs.getD k 0 = v
        · rw [hz] at hc
          have HM := hid (show v ∈ xs by rw [← hz]; exact getD_mem xs k (by rw [HN.out]; exact hlt))
          have hvv : (v == v) = true := by simp
          clear hz
          go_wp2
          go_ret
          exact ⟨⟨k, rfl, ⟨fun _ => HM.out, fun _ => by omega⟩⟩, rfl⟩
        · have HT' := hid (Bas.any_take v xs k (by rw [HN.out]; exact hlt) HT.out hz)
          have hz' : (v == xs.getD k 0) = false := by simp; exact fun e => hz e.symm
          have hz2 : ¬ v = xs.getD k 0 := fun e => hz e.symm
          generalize xs.getD k 0 = xv at *
          go_wp2
          go_round
          case rel => exact ⟨k + 1, by omega, by go_num, HT'⟩
          case measure => simp [intOf]; omega
      · have hge : ¬ (k : Int) < n := by omega
        obtain rfl : k = n := by omega
        have HT' := HT.out
        rw [List.take_of_length_le (by rw [HN.out]; exact Nat.le_refl _)] at HT'
        have HT2 := hid HT'
        clear HT'
        go_wp2
        go_ret
        exact ⟨⟨-1, rfl, ⟨fun h => by omega, fun h => absurd h HT2.out⟩⟩, rfl⟩
theorem contains54 (v : Int) (a : Option Addr) (n cap : Nat) (xs : List Int) (w : World) (hn : xs.length = n) (hN : n ≤ 35184372088832) (h : Lits w a xs) :
    Calls Try.prog 54 #[.slice a n cap, .int .i32 v] w fun e w' => e = .returned (.bool (decide (v ∈ xs))) ∧ w' = w := by
  have HC := hid (index62 v a n cap xs w hn hN h)
  clear hn h
  go_enter Try.func54, Try.ntmps54
  go_wp2_with (go_at_call 62; refine HC.out.mono ?_; rintro e w3 ⟨⟨i, rfl, hi⟩, hw⟩; rw [hw]; clear hw; have HI := hid hi; clear hi)
  go_ret
  exact ⟨by congr 2; simp [HI.out], rfl⟩
end Go.Proofs.Ythpebfojkpnojaa
