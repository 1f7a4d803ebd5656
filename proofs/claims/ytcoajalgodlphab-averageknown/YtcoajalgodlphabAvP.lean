/- Averages, the row of Luby and bells, plainly. -/
import Derived.Lib.BitFns
namespace Go.Proofs.Ytcoajalgodlphab.Av
set_option linter.unusedVariables false

theorem log2_two (n : Nat) (h : 2 ≤ n) : Nat.log2 n = Nat.log2 (n / 2) + 1 := by
  rw [Nat.log2_def, if_pos h]
theorem log2_one (n : Nat) (h : n < 2) : Nat.log2 n = 0 := by
  rw [Nat.log2_def, if_neg (by omega)]
theorem bit_log : ∀ (f x : Nat), 0 < x → x < 2 ^ f → Go.Lib.bitLenAux f x = Nat.log2 x + 1
  | 0, x, h0, h1 => by simp at h1; omega
  | f + 1, x, h0, h1 => by
    unfold Go.Lib.bitLenAux
    rw [if_neg (by omega)]
    by_cases h : x < 2
    · obtain rfl : x = 1 := by omega
      rw [log2_one 1 (by omega)]
      cases f <;> simp [Go.Lib.bitLenAux]
    · rw [bit_log f (x / 2) (by omega) (by rw [Nat.pow_succ] at h1; omega), log2_two x (by omega)]
      omega
theorem bitLen_log {x : Nat} (h0 : 0 < x) (h1 : x < 2 ^ 64) : Go.Lib.bitLen x = Nat.log2 x + 1 := bit_log 64 x h0 h1
theorem pw_le {i : Nat} (h : 1 ≤ i) : 2 ^ Nat.log2 i ≤ i := Nat.log2_self_le (by omega)
theorem pw_lt (i : Nat) : i < 2 ^ (Nat.log2 i + 1) := Nat.lt_log2_self
theorem log_lt {i k : Nat} (h : 1 ≤ i) (hk : i < 2 ^ k) : Nat.log2 i < k := (Nat.log2_lt (by omega)).2 hk
theorem pw_pos (k : Nat) : 0 < 2 ^ k := Nat.two_pow_pos k

/-- The row's number, with fuel. -/
def lbyF : Nat → Nat → Nat
  | 0, _ => 1
  | f + 1, i => if i + 1 = 2 ^ (Nat.log2 i + 1) then 2 ^ Nat.log2 i else lbyF f (i - 2 ^ Nat.log2 i + 1)
def lby (i : Nat) : Nat := lbyF i i
theorem less {i : Nat} (h : 1 ≤ i) (hn : i + 1 ≠ 2 ^ (Nat.log2 i + 1)) : 1 ≤ i - 2 ^ Nat.log2 i + 1 ∧ i - 2 ^ Nat.log2 i + 1 < i ∧ 2 ≤ 2 ^ Nat.log2 i := by
  have h1 := pw_le h
  have h2 := pw_lt i
  rw [Nat.pow_succ] at h2 hn
  have h3 := pw_pos (Nat.log2 i)
  omega
theorem lbyF_any : ∀ (f g i : Nat), 1 ≤ i → i ≤ f → i ≤ g → lbyF f i = lbyF g i
  | 0, _, i, h, h1, _ => by omega
  | _, 0, i, h, _, h2 => by omega
  | f + 1, g + 1, i, h, h1, h2 => by
    unfold lbyF
    by_cases hn : i + 1 = 2 ^ (Nat.log2 i + 1)
    · rw [if_pos hn, if_pos hn]
    · rw [if_neg hn, if_neg hn]
      obtain ⟨a, b, _⟩ := less h hn
      exact lbyF_any f g _ a (by omega) (by omega)
theorem lby_top {i : Nat} (h : 1 ≤ i) (hn : i + 1 = 2 ^ (Nat.log2 i + 1)) : lby i = 2 ^ Nat.log2 i := by
  unfold lby
  obtain ⟨j, rfl⟩ : ∃ j, i = j + 1 := ⟨i - 1, by omega⟩
  rw [lbyF, if_pos hn]
theorem lby_less {i : Nat} (h : 1 ≤ i) (hn : i + 1 ≠ 2 ^ (Nat.log2 i + 1)) : lby i = lby (i - 2 ^ Nat.log2 i + 1) := by
  obtain ⟨a, b, _⟩ := less h hn
  unfold lby
  obtain ⟨j, rfl⟩ : ∃ j, i = j + 1 := ⟨i - 1, by omega⟩
  rw [lbyF, if_neg hn]
  exact lbyF_any _ _ _ a (by omega) (Nat.le_refl _)
/-- Each is a power of two, not above its place. -/
theorem lby_pow (i : Nat) (h : 1 ≤ i) : ∃ k, lby i = 2 ^ k ∧ 2 ^ k ≤ i := by
  induction i using Nat.strongRecOn with
  | ind i ih =>
    by_cases hn : i + 1 = 2 ^ (Nat.log2 i + 1)
    · exact ⟨_, lby_top h hn, pw_le h⟩
    · obtain ⟨a, b, _⟩ := less h hn
      obtain ⟨k, e, hk⟩ := ih _ b a
      exact ⟨k, by rw [lby_less h hn, e], by omega⟩
theorem lby_bd {i : Nat} (h : 1 ≤ i) : 1 ≤ lby i ∧ lby i ≤ i := by
  obtain ⟨k, e, hk⟩ := lby_pow i h
  rw [e]
  exact ⟨pw_pos k, hk⟩
/-- The sum of the first n. -/
def sm : Nat → Nat
  | 0 => 0
  | n + 1 => sm n + lby (n + 1)
theorem sm_le : ∀ n, sm n ≤ n * n
  | 0 => by simp [sm]
  | n + 1 => by
    have h1 := sm_le n
    have h2 := (lby_bd (i := n + 1) (by omega)).2
    rw [sm]
    have : (n + 1) * (n + 1) = n * n + n + n + 1 := by rw [Nat.add_mul, Nat.mul_add]; omega
    omega
set_option maxRecDepth 100000 in
theorem ones (k : Nat) (h1 : 1 ≤ k) (h2 : k < 1002) (h : k &&& (k + 1) = 0) : k ∈ [1, 3, 7, 15, 31, 63, 127, 255, 511] := by
  have key : ∀ k : Fin 1002, 1 ≤ k.1 → k.1 &&& (k.1 + 1) = 0 → k.1 ∈ [1, 3, 7, 15, 31, 63, 127, 255, 511] := by decide +kernel
  exact key ⟨k, h2⟩ h1 h
set_option maxRecDepth 100000 in
theorem sm_ones (k : Nat) (h1 : 1 ≤ k) (h2 : k < 1002) (h : k &&& (k + 1) = 0) : sm k = (Nat.log2 k + 1) * 2 ^ Nat.log2 k := by
  have key : ∀ k ∈ [1, 3, 7, 15, 31, 63, 127, 255, 511], sm k = (Nat.log2 k + 1) * 2 ^ Nat.log2 k := by decide +kernel
  exact key k (ones k h1 h2 h)

/-- An average's value when the k-th number x comes in. -/
def avV (s k : Nat) (v x : Int) : Int := v + (x * 4294967296 - v) / ((2 ^ min s (Nat.log2 k) : Nat) : Int)
theorem ediv_mid (d : Int) (p : Nat) (hp : 0 < p) : (0 ≤ d → 0 ≤ d / (p : Int) ∧ d / (p : Int) ≤ d) ∧ (d ≤ 0 → d ≤ d / (p : Int) ∧ d / (p : Int) ≤ 0) := by
  have hp' : (0 : Int) < p := by omega
  refine ⟨fun h => ⟨Int.ediv_nonneg h (by omega), Int.ediv_le_self _ h⟩, fun h => ?_⟩
  obtain ⟨q, hq⟩ : ∃ q, d / (p : Int) = q := ⟨_, rfl⟩
  rw [hq]
  have h1 : q * p ≤ d := by rw [← hq]; exact Int.ediv_mul_le d (by omega)
  have h2 : d < (q + 1) * p := by rw [← hq]; exact Int.lt_ediv_add_one_mul_self d hp'
  constructor
  · rcases Int.lt_or_le q d with hlt | hge
    · have : (q + 1) * p ≤ (q + 1) * 1 := Int.mul_le_mul_of_nonpos_left (by omega) (by omega)
      omega
    · exact hge
  · rcases Int.lt_or_le 0 q with hlt | hge
    · have : 1 * (p : Int) ≤ q * p := Int.mul_le_mul_of_nonneg_right (by omega) (by omega)
      omega
    · exact hge
theorem avV_mid (s k : Nat) (v x : Int) : (v ≤ x * 4294967296 → v ≤ avV s k v x ∧ avV s k v x ≤ x * 4294967296) ∧ (x * 4294967296 ≤ v → x * 4294967296 ≤ avV s k v x ∧ avV s k v x ≤ v) := by
  obtain ⟨h1, h2⟩ := ediv_mid (x * 4294967296 - v) (2 ^ min s (Nat.log2 k)) (pw_pos _)
  unfold avV
  exact ⟨fun h => by have := h1 (by omega); omega, fun h => by have := h2 (by omega); omega⟩
theorem avV_first (s : Nat) (v x : Int) : avV s 1 v x = x * 4294967296 := by
  unfold avV
  rw [log2_one 1 (by omega), Nat.min_zero]
  simp
  omega
theorem avV_same (s k : Nat) (x : Int) : avV s k (x * 4294967296) x = x * 4294967296 := by
  unfold avV
  simp
theorem avV_bd {s k : Nat} {v x : Int} (h1 : 0 ≤ v) (h2 : v ≤ 4611686018427387904) (h3 : 0 ≤ x) (h4 : x ≤ 1073741824) : 0 ≤ avV s k v x ∧ avV s k v x ≤ 4611686018427387904 := by
  obtain ⟨a, b⟩ := avV_mid s k v x
  rcases Int.le_total v (x * 4294967296) with h | h
  · have := a h; omega
  · have := b h; omega
/-- Rounding down by hand. -/
theorem down_eq (a : Int) (p : Nat) (hp : 0 < p) : (if a.tmod p < 0 then a.tdiv p - 1 else a.tdiv p) = a / (p : Int) := by
  have hp' : (0 : Int) < p := by omega
  by_cases h : 0 ≤ a
  · rw [Int.tdiv_eq_ediv_of_nonneg h, if_neg]
    rw [Int.tmod_eq_emod_of_nonneg h]
    have := Int.emod_nonneg a (b := (p : Int)) (by omega)
    omega
  · have e1 : a.tdiv p = if (p : Int) ∣ a then a / p else a / p + 1 := by
      rw [Int.tdiv_eq_ediv]
      by_cases hd : (p : Int) ∣ a
      · simp [hd]
      · rw [if_neg (by simp [hd]; omega), if_neg hd, Int.sign_eq_one_of_pos hp']
    have e2 := Int.tmod_add_mul_tdiv a p
    by_cases hd : (p : Int) ∣ a
    · rw [if_pos hd] at e1
      rw [if_neg, e1]
      rw [Int.tmod_eq_zero_of_dvd hd]; omega
    · rw [if_neg hd] at e1
      have h3 : a.tmod p ≠ 0 := fun e => hd (Int.dvd_of_tmod_eq_zero e)
      have h4 : a.tmod p ≤ 0 := by
        have h5 := Int.tmod_nonneg (a := -a) (p : Int) (by omega)
        rw [Int.neg_tmod] at h5
        omega
      rw [if_pos (by omega), e1]
      omega
/-- Held against each other in two words. -/
theorem two_words (M x y : Nat) (hM : 0 < M) : (x / M < y / M ∨ x / M = y / M ∧ x % M < y % M) ↔ x < y := by
  have hx := Nat.div_add_mod x M
  have hy := Nat.div_add_mod y M
  have lx := Nat.mod_lt x hM
  have ly := Nat.mod_lt y hM
  constructor
  · rintro (h | ⟨h, h'⟩)
    · have : M * (x / M + 1) ≤ M * (y / M) := Nat.mul_le_mul_left _ h
      rw [Nat.mul_add] at this
      omega
    · rw [h] at hx; omega
  · intro h
    rcases Nat.lt_trichotomy (x / M) (y / M) with h1 | h1 | h1
    · exact .inl h1
    · refine .inr ⟨h1, ?_⟩
      rw [h1] at hx
      omega
    · have : M * (y / M + 1) ≤ M * (x / M) := Nat.mul_le_mul_left _ h1
      rw [Nat.mul_add] at this
      omega
end Go.Proofs.Ytcoajalgodlphab.Av
