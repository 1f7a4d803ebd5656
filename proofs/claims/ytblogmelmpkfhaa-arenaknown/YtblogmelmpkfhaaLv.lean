/- Small calls of the arena: what lives, what is wrong. -/
import Derived.Test.YtblogmelmpkfhaaArm
import Derived.Laws.BitsLemmas
namespace Arn
def small (n : Int) : Bool := decide (0 ≤ n) && decide (n ≤ 65535)
end Arn
namespace Go.Proofs.Ytblogmelmpkfhaa
open Go.RowKit Go.Maps
set_option linter.unusedVariables false

theorem ret_bool {a b : Bool} (h : a = b) : Ending.returned (.bool a) = .returned (.bool b) := by rw [h]
theorem small38 (l : Int) (w : World) : Calls Try.prog 38 #[.int .i64 l] w fun e w' => e = .returned (.bool (Arn.small l)) ∧ w' = w := by
  by_cases h : 0 ≤ l <;> by_cases h2 : l ≤ 65535
  all_goals
    go_enter Try.func38, Try.ntmps38
    go_wp2
    go_ret
    exact ⟨ret_bool (by simp [Arn.small]; omega), rfl⟩
theorem small49 (l : Int) (w : World) : Calls Try.prog 49 #[.int .i64 l] w fun e w' => e = .returned (.bool (Arn.small l)) ∧ w' = w := by
  by_cases h : 0 ≤ l <;> by_cases h2 : l ≤ 65535
  all_goals
    go_enter Try.func49, Try.ntmps49
    go_wp2
    go_ret
    exact ⟨ret_bool (by simp [Arn.small]; omega), rfl⟩
theorem ret_u32 {a b : Int} (h : a = b) : Ending.returned (.int .u32 a) = .returned (.int .u32 b) := by rw [h]
theorem headOf40 (k : Nat) (red : Bool) (w : World) (hk : k ≤ 268435456) : Calls Try.prog 40 #[.int .i64 k, .bool red] w fun e w' => e = .returned (.int .u32 (4 * k + if red then 2 else 0)) ∧ w' = w := by
  cases red
  all_goals
    go_enter Try.func40, Try.ntmps40
    go_wp2
    go_ret
    exact ⟨ret_u32 (by first | (simp; omega) | omega), rfl⟩
theorem usageOf41 (a b : Int) (w : World) (ha : 0 ≤ a) (ha2 : a ≤ 65535) (hb : 0 ≤ b) (hb2 : b ≤ 65535) : Calls Try.prog 41 #[.int .i64 a, .int .i64 b] w fun e w' => e = .returned (.int .u32 (a * 65536 + b)) ∧ w' = w := by
  go_enter Try.func41, Try.ntmps41
  go_wp2
  go_ret
  exact ⟨rfl, rfl⟩
theorem wraps_u32 (n : Int) (h₀ : 0 ≤ n) (h₁ : n < 2 ^ 32) : IntKind.u32.wrap n = n := by rw [IntKind.wrap_u32]; omega
theorem and_one (x : Int) (h0 : 0 ≤ x) (h1 : x < 4294967296) : bits .and .u32 x 1 = x % 2 := bits_mask .u32 32 (by decide) wraps_u32 1 (by decide) x h0 (by omega)
theorem and_most (x : Int) (h0 : 0 ≤ x) (h1 : x < 4294967296) : bits .and .u32 x 65535 = x % 65536 := bits_mask .u32 32 (by decide) wraps_u32 16 (by decide) x h0 (by omega)
theorem and_two (x : Int) (h0 : 0 ≤ x) (h1 : x < 4294967296) : bits .and .u32 x 2 = 2 * (x / 2 % 2) := by
  obtain ⟨a, rfl⟩ := Int.eq_ofNat_of_zero_le h0
  rw [show (2 : Int) = ((2 : Nat) : Int) from rfl, (bits_nat .u32 32 (by decide) wraps_u32 a 2 (by omega) (by omega)).1]
  have : a &&& 2 = 2 * (a / 2 % 2) := by
    apply Nat.eq_of_testBit_eq
    intro i
    rw [Nat.testBit_and, show 2 = 2 ^ 1 from rfl, Nat.testBit_two_pow, Nat.mul_comm (2 ^ 1), ← Nat.shiftLeft_eq, Nat.testBit_shiftLeft]
    by_cases e : 1 = i
    · subst e
      have h := Nat.testBit_div_two a 0
      rw [Nat.testBit_zero] at h
      simp [← h]
    · by_cases h1 : i ≥ 1
      · have hz : (a / 2 ^ 1 % 2 ^ 1).testBit (i - 1) = false := by rw [Nat.testBit_mod_two_pow]; simp; omega
        simp [e, hz]
      · simp [e, h1]
  rw [this]
  omega
set_option maxRecDepth 100000 in
set_option maxHeartbeats 1000000 in
theorem live42 {n ab lim bm : Nat} {v : Value} {M : List Arn.It} {W : World} (h : Ar n ab lim v bm M W) (r : Int) (hr : I64 r) :
    Calls Try.prog 42 #[.pointer (some ⟨ab, 0, none⟩), .int .i64 r] W fun e w' => e = .returned (.bool (Arn.find M r).isSome) ∧ Below W.heap.size W w' := by
  have hlk := h.map.look hr
  have c1 := row_cell h.blk 1
  have c2 := row_cell h.blk 2
  have hr1 := hr.1
  have hr2 := hr.2
  cases hx : Arn.at? M r with
  | none =>
    have hf : (Arn.find M r).isSome = false := by simp [Arn.find, hx]
    rw [hf]
    rw [hx] at hlk
    simp only [Option.map_none, Option.getD_none, Option.isSome_none] at hlk
    clear hf hx h hr
    go_enter Try.func42, Try.ntmps42
    go_wp2
    go_ret
    exact ⟨rfl, below_box _ _⟩
  | some x =>
    rw [hx] at hlk
    simp only [Option.map_some, Option.getD_some, Option.isSome_some] at hlk
    obtain ⟨g, c, k, rfl, rfl, hk, hg, ⟨cur, hgb⟩, hc, hcm, hcell⟩ := h.row hx
    obtain ⟨_, _, hok⟩ := Arn.at_lt h.ok hx
    have hfits := hok.fits
    have h0 := hcell 0 (by omega)
    have hh1 : 0 ≤ x.head := by unfold Arn.It.head; split <;> split <;> omega
    have hh2 : x.head ≤ 1073741827 := by have := h.fit; have := h.lim; unfold Arn.It.head; split <;> split <;> omega
    rw [show x.cells.getD 0 0 = x.head from rfl, Nat.add_zero] at h0
    have hkN : (k : Int) < (Arn.size M : Nat) := by omega
    have hN : Arn.size M ≤ 268435456 := Nat.le_trans h.fit h.lim
    have hb := below_box W (.cells #[] 87)
    have d1 := row_cell (h.below hb).blk 1
    have d0 := (hb.cell (p := ⟨g, k, none⟩) (lt_of_blk hgb)).trans h0
    clear c1 h0 hb
    have HF := hid (show (Arn.find M k).isSome = (x.head % 2 == 0) by
      have : x.head % 2 = if x.dead then 1 else 0 := by unfold Arn.It.head; split <;> split <;> omega
      rw [this]
      cases hd : x.dead <;> simp [Arn.find, hx, hd])
    rw [HF.out]
    have hand := and_one x.head hh1 (by omega)
    generalize x.head % 2 = d at *
    generalize x.head = hd at *
    generalize Arn.size M = N at *
    clear hx h hr hcell hfits hok
    go_enter Try.func42, Try.ntmps42
    go_wp2
    go_ret
    exact ⟨rfl, below_box _ _⟩
theorem wrong43 {n ab lim bm : Nat} {v : Value} {M : List Arn.It} {W : World} (h : Ar n ab lim v bm M W) (r : Int) (hr : I64 r) :
    Calls Try.prog 43 #[.pointer (some ⟨ab, 0, none⟩), .int .i64 r] W fun e w' => e = .returned (.int .i64 (if (Arn.find M r).isSome then 0 else 91)) ∧ Below W.heap.size W w' := by
  have HL := hid (live42 h r hr)
  generalize (Arn.find M r).isSome = b at *
  clear h hr
  cases b
  all_goals
    go_enter Try.func43, Try.ntmps43
    go_wp2_with (go_at_call 42; refine HL.out.mono ?_; rintro e w3 ⟨rfl, hw3⟩)
    go_ret
    exact ⟨rfl, hw3⟩
/-- The words of the clause at r. -/
theorem clause44 {n ab lim bm g c k : Nat} {M : List Arn.It} {W : World} {x : Arn.It} (h : Ar n ab lim (.slice (some ⟨g, 0, none⟩) (Arn.size M) c) bm M W) (hx : Arn.at? M k = some x) :
    Calls Try.prog 44 #[.pointer (some ⟨ab, 0, none⟩), .int .i64 k] W fun e w' => e = .returned (.slice (some ⟨g, k, none⟩) (4 + x.lits.length) (c - k)) ∧ w' = W := by
  have c1 := row_cell h.blk 1
  obtain ⟨g', c', k', e1, e2, hk, hg, ⟨cur, hgb⟩, hc, hcm, hcell⟩ := h.row hx
  cases e1
  obtain rfl : k = k' := by omega
  obtain ⟨_, _, hok⟩ := Arn.at_lt h.ok hx
  have hfits := hok.fits
  have h0 := hcell 0 (by omega)
  have hh1 : 0 ≤ x.head := by unfold Arn.It.head; split <;> split <;> omega
  have hh2 : x.head ≤ 1073741827 := by have := h.fit; have := h.lim; unfold Arn.It.head; split <;> split <;> omega
  have hq : x.head / 4 = x.lits.length := by unfold Arn.It.head; split <;> split <;> omega
  have hq' : Int.tdiv x.head 4 = x.lits.length := by rw [Int.tdiv_eq_ediv_of_nonneg hh1]; exact hq
  rw [show x.cells.getD 0 0 = x.head from rfl, Nat.add_zero] at h0
  have hkN : (k : Int) < (Arn.size M : Nat) := by omega
  have hN : Arn.size M ≤ 268435456 := Nat.le_trans h.fit h.lim
  generalize x.head = hd at *
  generalize x.lits.length = L at *
  generalize Arn.size M = N at *
  clear hx h hcell hok hg hgb e2
  go_enter Try.func44, Try.ntmps44
  go_wp2
  go_ret
  exact ⟨by simp, rfl⟩
/-- Where the words of the literals begin. -/
def lo (c k : Nat) : Nat := if c - k = 4 then k else k + 4
theorem lits45 {n ab lim bm g c k : Nat} {M : List Arn.It} {W : World} {x : Arn.It} (h : Ar n ab lim (.slice (some ⟨g, 0, none⟩) (Arn.size M) c) bm M W) (hx : Arn.at? M k = some x) :
    Calls Try.prog 45 #[.pointer (some ⟨ab, 0, none⟩), .int .i64 k] W fun e w' => e = .returned (.slice (some ⟨g, lo c k, none⟩) x.lits.length (c - k - 4)) ∧ w' = W := by
  have HC := hid (clause44 h hx)
  obtain ⟨g', c', k', e1, e2, hk, hg, ⟨cur, hgb⟩, hc, hcm, hcell⟩ := h.row hx
  obtain ⟨_, _, hok⟩ := Arn.at_lt h.ok hx
  have hfits := hok.fits
  have hN : Arn.size M ≤ 268435456 := Nat.le_trans h.fit h.lim
  cases e1
  obtain rfl : k = k' := by omega
  have hcc : 4 + x.lits.length ≤ c - k := by omega
  have hcm' : c - k ≤ 9223372036854775807 := by unfold maxLen at hcm; omega
  generalize x.lits.length = L at *
  unfold lo
  generalize c - k = cc at *
  clear hx h hcell hok hg hgb e2 hk hc hcm
  go_enter Try.func45, Try.ntmps45
  go_wp2_with (go_at_call 44; refine HC.out.mono ?_; rintro e w3 ⟨rfl, hw3⟩; rw [hw3]; clear hw3)
  all_goals
    go_ret
    exact ⟨rfl, rfl⟩
theorem place46 (a : Option Addr) (L c : Nat) (i : Int) (w : World) (hL : L ≤ 268435456) : Calls Try.prog 46 #[.slice a L c, .int .i64 i] w fun e w' => e = .returned (.bool (decide (0 ≤ i) && decide (i < L))) ∧ w' = w := by
  by_cases h : 0 ≤ i <;> by_cases h2 : i < L
  all_goals
    go_enter Try.func46, Try.ntmps46
    go_wp2
    go_ret
    exact ⟨ret_bool (by simp; try omega), rfl⟩
end Go.Proofs.Ytblogmelmpkfhaa
