/- Clauses as two masks of bits: what the masks say is what the clauses say; plain functions over numbers. -/
import Derived.Test.YtccncojidkdddaaForm
namespace Tru
set_option linter.unusedVariables false

def bit (l : Int) : Nat := 2 ^ (Cnf.vr l - 1).toNat
def turn (p : Nat × Nat) (l : Int) : Nat × Nat := if 0 < l then (p.1, p.2 ||| bit l) else (p.1 ||| bit l, p.2)
def mask (c : List Int) : Nat × Nat := c.foldl turn (0, 0)
def mh (p : Nat × Nat) (k : Nat) : Bool := ((4294967295 ^^^ k) &&& p.1 != 0) || (k &&& p.2 != 0)
def always (p : Nat × Nat) : Bool := p.1 &&& p.2 != 0
def high (p : Nat × Nat) : Nat × Nat := (p.1 / 256 * 256, p.2 / 256 * 256)
/-- The k-th model of n variables. -/
def model (n k : Nat) : List Bool := (List.range n).map (fun i => k.testBit i)
def small (p : Nat × Nat) : Prop := p.1 < 65536 ∧ p.2 < 65536

theorem model_len (n k : Nat) : (model n k).length = n := by simp [model]
theorem model_get (n k i : Nat) (h : i < n) : (model n k).getD i false = k.testBit i := by
  simp [model, List.getD, h]

theorem and_ne (x y : Nat) : (x &&& y != 0) = true ↔ ∃ i, x.testBit i = true ∧ y.testBit i = true := by
  rw [bne_iff_ne]
  constructor
  · intro h
    obtain ⟨i, hi⟩ := Nat.exists_testBit_of_ne_zero h
    rw [Nat.testBit_and, Bool.and_eq_true] at hi
    exact ⟨i, hi⟩
  · rintro ⟨i, h1, h2⟩ h
    have := Nat.testBit_and x y i
    rw [h, h1, h2] at this
    simp at this

theorem turn_small (p : Nat × Nat) (l : Int) (hp : small p) (h1 : 1 ≤ Cnf.vr l) (h2 : Cnf.vr l ≤ 16) : small (turn p l) := by
  have hb : bit l < 2 ^ 16 := by
    unfold bit
    exact Nat.pow_lt_pow_right (by decide) (by omega)
  obtain ⟨a, b⟩ := hp
  unfold turn
  split
  · exact ⟨a, Nat.or_lt_two_pow (n := 16) b hb⟩
  · exact ⟨Nat.or_lt_two_pow (n := 16) a hb, b⟩
theorem fold_small (c : List Int) : ∀ p, small p → (∀ l ∈ c, 1 ≤ Cnf.vr l ∧ Cnf.vr l ≤ 16) → small (c.foldl turn p) := by
  induction c with
  | nil => intro p hp _; exact hp
  | cons l c ih =>
    intro p hp h
    exact ih _ (turn_small p l hp (h l (by simp)).1 (h l (by simp)).2) (fun x hx => h x (by simp [hx]))
theorem mask_small (c : List Int) (h : ∀ l ∈ c, 1 ≤ Cnf.vr l ∧ Cnf.vr l ≤ 16) : small (mask c) := fold_small c _ ⟨by decide, by decide⟩ h

theorem bit_test (l : Int) (i : Nat) : (bit l).testBit i = decide ((Cnf.vr l - 1).toNat = i) := by
  unfold bit; exact Nat.testBit_two_pow
theorem fold_test (c : List Int) : ∀ p i, ((c.foldl turn p).1.testBit i = true ↔ p.1.testBit i = true ∨ ∃ l ∈ c, ¬ 0 < l ∧ (Cnf.vr l - 1).toNat = i) ∧ ((c.foldl turn p).2.testBit i = true ↔ p.2.testBit i = true ∨ ∃ l ∈ c, 0 < l ∧ (Cnf.vr l - 1).toNat = i) := by
  induction c with
  | nil => intro p i; simp
  | cons l c ih =>
    intro p i
    rw [List.foldl_cons]
    obtain ⟨h1, h2⟩ := ih (turn p l) i
    rw [h1, h2]
    unfold turn
    by_cases h : 0 < l
    · simp only [h, if_true, Nat.testBit_or, bit_test, Bool.or_eq_true, decide_eq_true_eq, List.mem_cons, exists_eq_or_imp, not_true_eq_false, false_and, false_or, true_and, or_assoc, and_self]
    · simp only [h, if_false, Nat.testBit_or, bit_test, Bool.or_eq_true, decide_eq_true_eq, List.mem_cons, exists_eq_or_imp, not_false_eq_true, false_and, false_or, true_and, or_assoc, and_self]
theorem mask_neg (c : List Int) (i : Nat) : (mask c).1.testBit i = true ↔ ∃ l ∈ c, ¬ 0 < l ∧ (Cnf.vr l - 1).toNat = i := by
  rw [mask, (fold_test c (0, 0) i).1]; simp
theorem mask_pos (c : List Int) (i : Nat) : (mask c).2.testBit i = true ↔ ∃ l ∈ c, 0 < l ∧ (Cnf.vr l - 1).toNat = i := by
  rw [mask, (fold_test c (0, 0) i).2]; simp

theorem test_lt (x i : Nat) (hx : x < 65536) (h : x.testBit i = true) : i < 16 := by
  rcases Nat.lt_or_ge i 16 with h' | h'
  · exact h'
  · have : x.testBit i = false := Nat.testBit_lt_two_pow (Nat.lt_of_lt_of_le hx (Nat.pow_le_pow_right (n := 2) (by decide) h'))
    rw [this] at h; cases h
theorem not_test (k i : Nat) (h : i < 32) : (4294967295 ^^^ k).testBit i = !k.testBit i := by
  rw [Nat.testBit_xor, show (4294967295 : Nat) = 2 ^ 32 - 1 from rfl, Nat.testBit_two_pow_sub_one]
  simp [h]

theorem mh_iff (p : Nat × Nat) (k : Nat) (hp : small p) : mh p k = true ↔ ∃ i, i < 16 ∧ ((k.testBit i = false ∧ p.1.testBit i = true) ∨ (k.testBit i = true ∧ p.2.testBit i = true)) := by
  unfold mh
  rw [Bool.or_eq_true, and_ne, and_ne]
  constructor
  · rintro (⟨i, h1, h2⟩ | ⟨i, h1, h2⟩)
    · have hi := test_lt _ _ hp.1 h2
      rw [not_test k i (by omega)] at h1
      exact ⟨i, hi, .inl ⟨by simpa using h1, h2⟩⟩
    · exact ⟨i, test_lt _ _ hp.2 h2, .inr ⟨h1, h2⟩⟩
  · rintro ⟨i, hi, ⟨h1, h2⟩ | ⟨h1, h2⟩⟩
    · exact .inl ⟨i, by rw [not_test k i (by omega), h1]; rfl, h2⟩
    · exact .inr ⟨i, h1, h2⟩

theorem tr_iff (l : Int) (n k : Nat) (h1 : 1 ≤ Cnf.vr l) (h2 : Cnf.vr l ≤ n) : Cnf.tr l (model n k) = (k.testBit (Cnf.vr l - 1).toNat == decide (0 < l)) := by
  unfold Cnf.tr
  rw [model_len, model_get n k _ (by omega)]
  simp [h1, h2]

theorem mh_mask (c : List Int) (n k : Nat) (hn : n ≤ 16) (h : ∀ l ∈ c, 1 ≤ Cnf.vr l ∧ Cnf.vr l ≤ n) : mh (mask c) k = Cnf.val c (model n k) := by
  have hs := mask_small c (fun l hl => ⟨(h l hl).1, by have := (h l hl).2; omega⟩)
  rw [Bool.eq_iff_iff, mh_iff _ _ hs, Cnf.val, List.any_eq_true]
  constructor
  · rintro ⟨i, hi, ⟨h1, h2⟩ | ⟨h1, h2⟩⟩
    · obtain ⟨l, hl, h3, h4⟩ := (mask_neg c i).1 h2
      refine ⟨l, hl, ?_⟩
      rw [tr_iff l n k (h l hl).1 (h l hl).2, h4, h1]
      simpa using h3
    · obtain ⟨l, hl, h3, h4⟩ := (mask_pos c i).1 h2
      refine ⟨l, hl, ?_⟩
      rw [tr_iff l n k (h l hl).1 (h l hl).2, h4, h1]
      simpa using h3
  · rintro ⟨l, hl, ht⟩
    rw [tr_iff l n k (h l hl).1 (h l hl).2] at ht
    have h1 := (h l hl).1
    have h2 := (h l hl).2
    refine ⟨(Cnf.vr l - 1).toNat, by omega, ?_⟩
    by_cases hp : 0 < l
    · rw [decide_eq_true hp] at ht
      exact .inr ⟨by simpa using ht, (mask_pos c _).2 ⟨l, hl, hp, rfl⟩⟩
    · rw [decide_eq_false hp] at ht
      exact .inl ⟨by simpa using ht, (mask_neg c _).2 ⟨l, hl, hp, rfl⟩⟩

theorem always_mh (p : Nat × Nat) (k : Nat) (hp : small p) (h : always p = true) : mh p k = true := by
  obtain ⟨i, h1, h2⟩ := (and_ne _ _).1 h
  rw [mh_iff p k hp]
  cases hk : k.testBit i
  · exact ⟨i, test_lt _ _ hp.1 h1, .inl ⟨hk, h1⟩⟩
  · exact ⟨i, test_lt _ _ hp.1 h1, .inr ⟨hk, h2⟩⟩

theorem high_small (p : Nat × Nat) (hp : small p) : small (high p) := by
  obtain ⟨h1, h2⟩ := hp
  unfold high small
  simp only
  omega
theorem div_test (x i : Nat) : (x / 256 * 256).testBit i = (decide (8 ≤ i) && x.testBit i) := by
  have e : x / 256 * 256 = 2 ^ 8 * (x / 2 ^ 8) := by rw [Nat.mul_comm]
  rw [e, Nat.testBit_two_pow_mul, Nat.testBit_div_two_pow]
  by_cases h : 8 ≤ i
  · simp [h]
  · simp [h]
theorem high_mh (p : Nat × Nat) (k : Nat) (hp : small p) (h : mh (high p) (k / 256 * 256) = true) : mh p k = true := by
  rw [mh_iff _ _ (high_small p hp)] at h
  rw [mh_iff _ _ hp]
  obtain ⟨i, hi, h⟩ := h
  refine ⟨i, hi, ?_⟩
  unfold high at h
  simp only [div_test] at h
  by_cases h8 : 8 ≤ i
  · simpa [h8] using h
  · simp [h8] at h

/-- All masks of a row hold at k. -/
def allH (ms : List (Nat × Nat)) (k : Nat) : Bool := ms.all (fun p => mh p k)
def openAt (ms : List (Nat × Nat)) (b : Nat) : List (Nat × Nat) := ms.filter (fun p => !mh (high p) (b * 256))
theorem allH_open (ms : List (Nat × Nat)) (k : Nat) (hs : ∀ p ∈ ms, small p) : allH (openAt ms (k / 256)) k = allH ms k := by
  unfold allH openAt
  rw [Bool.eq_iff_iff, List.all_eq_true, List.all_eq_true]
  constructor
  · intro h p hp
    cases ht : mh (high p) (k / 256 * 256)
    · exact h p (List.mem_filter.2 ⟨hp, by rw [ht]; rfl⟩)
    · exact high_mh p k (hs p hp) ht
  · intro h p hp
    exact h p (List.mem_filter.1 hp).1

/-- The masks of a formula's clauses, but for those that are always true. -/
def masks (cs : List (List Int)) : List (Nat × Nat) := (cs.map mask).filter (fun p => !always p)
theorem masks_small (cs : List (List Int)) (n : Nat) (hn : n ≤ 16) (h : ∀ c ∈ cs, ∀ l ∈ c, 1 ≤ Cnf.vr l ∧ Cnf.vr l ≤ n) : ∀ p ∈ masks cs, small p := by
  intro p hp
  obtain ⟨h1, _⟩ := List.mem_filter.1 hp
  obtain ⟨c, hc, rfl⟩ := List.mem_map.1 h1
  exact mask_small c (fun l hl => ⟨(h c hc l hl).1, by have := (h c hc l hl).2; omega⟩)
theorem masks_holds (cs : List (List Int)) (ms : List (Nat × Nat)) (n k : Nat) (hn : n ≤ 16) (h : ∀ c ∈ cs, ∀ l ∈ c, 1 ≤ Cnf.vr l ∧ Cnf.vr l ≤ n) (hm : ∀ p, p ∈ ms ↔ p ∈ masks cs) : allH ms k = Cnf.holds cs (model n k) := by
  unfold allH Cnf.holds
  rw [Bool.eq_iff_iff, List.all_eq_true, List.all_eq_true]
  constructor
  · intro h1 c hc
    rw [← mh_mask c n k hn (h c hc)]
    cases ha : always (mask c)
    · exact h1 _ ((hm _).2 (List.mem_filter.2 ⟨List.mem_map.2 ⟨c, hc, rfl⟩, by rw [ha]; rfl⟩))
    · exact always_mh _ _ (mask_small c (fun l hl => ⟨(h c hc l hl).1, by have := (h c hc l hl).2; omega⟩)) ha
  · intro h1 p hp
    obtain ⟨h2, _⟩ := List.mem_filter.1 ((hm p).1 hp)
    obtain ⟨c, hc, rfl⟩ := List.mem_map.1 h2
    rw [mh_mask c n k hn (h c hc)]
    exact h1 c hc
end Tru
