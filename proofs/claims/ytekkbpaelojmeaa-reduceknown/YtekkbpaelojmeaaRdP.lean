/- Plain: records, tiers, the order of going, what is chosen, limits. -/
import Derived.WalkKit
import Derived.Sort.LotA
namespace Go.Proofs.Ytekkbpaelojmeaa
open Go.Sort
set_option linter.unusedVariables false

def I64 (x : Int) : Prop := -9223372036854775808 ≤ x ∧ x ≤ 9223372036854775807
/-- What a record that may go is told by. -/
structure K4 where
  id : Int
  lb : Int
  sz : Int
  us : Int
instance : Inhabited K4 := ⟨⟨0, 0, 0, 0⟩⟩
theorem K4.ext4 {x y : K4} (h1 : x.id = y.id) (h2 : x.lb = y.lb) (h3 : x.sz = y.sz) (h4 : x.us = y.us) : x = y := by
  cases x; cases y; simp_all
def enc5 (x : K4) : List Value := [.int .i64 x.id, .int .i64 x.lb, .int .i64 x.sz, .int .i64 x.us, .bool false]
/-- A record. -/
structure Rc where
  k : K4
  lk : Bool
instance : Inhabited Rc := ⟨⟨default, false⟩⟩
def rec5 (r : Rc) : List Value := [.int .i64 r.k.id, .int .i64 r.k.lb, .int .i64 r.k.sz, .int .i64 r.k.us, .bool r.lk]
structure Rc.Ok (r : Rc) : Prop where
  id : I64 r.k.id
  lb : I64 r.k.lb
  sz : I64 r.k.sz
  us : I64 r.k.us
theorem rec5_enc {r : Rc} (h : r.lk = false) : rec5 r = enc5 r.k := by unfold rec5 enc5; rw [h]

/-- The glue, between 0 and 65535. -/
def clip (g : Int) : Int := min (max g 0) 65535
theorem clip_le (g : Int) : 0 ≤ clip g ∧ clip g ≤ 65535 := by unfold clip; omega
def tier (lb g : Int) : Int := if lb ≤ clip g then 1 else if lb ≤ clip g + 4 then 2 else 3
/-- May a record go, as the program has it? -/
def mayP (r : Rc) (g : Int) : Bool := if r.lk then false else if tier r.k.lb g = 2 then decide (r.k.us < 1) else if tier r.k.lb g = 3 then decide (r.k.us < 2) else false
/-- .. as the document's words are read. -/
def mayD (r : Rc) (g : Int) : Bool := !(r.lk || decide (tier r.k.lb g = 1) || (decide (tier r.k.lb g = 2) && decide (r.k.us ≠ 0)) || (decide (tier r.k.lb g = 3) && decide (2 ≤ r.k.us)))
theorem tier_cases (lb g : Int) : tier lb g = 1 ∨ tier lb g = 2 ∨ tier lb g = 3 := by unfold tier; split <;> (try split) <;> simp
/-- They are alike where a record of tier 2 was not used below 0 times. -/
theorem may_eq {r : Rc} {g : Int} (h : tier r.k.lb g = 2 → 0 ≤ r.k.us) : mayP r g = mayD r g := by
  unfold mayP mayD
  cases r.lk
  · rcases tier_cases r.k.lb g with e | e | e
    · rw [e]; rfl
    · have := h e
      rw [e]
      simp
      omega
    · rw [e]
      simp
      rw [Bool.eq_iff_iff]
      simp
  · rfl
theorem mayP_true {r : Rc} {g : Int} (h : mayP r g = true) : r.lk = false ∧ tier r.k.lb g ≠ 1 ∧ r.k.us < 2 := by
  unfold mayP at h
  cases hl : r.lk
  · rw [hl] at h
    rcases tier_cases r.k.lb g with e | e | e
    · rw [e] at h; simp at h
    · rw [e] at h; simp at h; refine ⟨rfl, by omega, by omega⟩
    · rw [e] at h; simp at h; refine ⟨rfl, by omega, by omega⟩
  · rw [hl] at h; simp at h

/-- cmp.Compare of two numbers. -/
def c3 (a b : Int) : Int := if a < b then -1 else if b < a then 1 else 0
/-- cmp.Or of four. -/
def or4 (a b c d : Int) : Int := if a ≠ 0 then a else if b ≠ 0 then b else if c ≠ 0 then c else d
def cf (x y : K4) : Int := or4 (c3 y.lb x.lb) (c3 y.sz x.sz) (c3 x.us y.us) (c3 x.id y.id)
def ltc (x y : K4) : Bool := decide (cf x y < 0)
/-- Does a record go ahead of another? -/
def bef (x y : K4) : Bool := if x.lb ≠ y.lb then decide (y.lb < x.lb) else if x.sz ≠ y.sz then decide (y.sz < x.sz) else if x.us ≠ y.us then decide (x.us < y.us) else decide (x.id < y.id)
theorem cf_neg (x y : K4) : ltc x y = bef x y := by
  unfold ltc cf bef or4 c3
  by_cases h1 : x.lb = y.lb
  · by_cases h2 : x.sz = y.sz
    · by_cases h3 : x.us = y.us
      · simp only [h1, h2, h3, Int.lt_irrefl, if_false, ne_eq, not_true_eq_false]
        (repeat' split) <;> simp <;> omega
      · simp only [h1, h2, h3, Int.lt_irrefl, if_false, ne_eq, not_true_eq_false, not_false_eq_true, if_true]
        (repeat' split) <;> simp_all <;> omega
    · simp only [h1, h2, Int.lt_irrefl, if_false, ne_eq, not_true_eq_false, not_false_eq_true, if_true]
      (repeat' split) <;> simp_all <;> omega
  · simp only [h1, ne_eq, not_false_eq_true, if_true]
    (repeat' split) <;> simp_all <;> omega
theorem bef_iff (x y : K4) : bef x y = true ↔ y.lb < x.lb ∨ (x.lb = y.lb ∧ (y.sz < x.sz ∨ (x.sz = y.sz ∧ (x.us < y.us ∨ (x.us = y.us ∧ x.id < y.id))))) := by
  unfold bef
  by_cases h1 : x.lb = y.lb
  · by_cases h2 : x.sz = y.sz
    · by_cases h3 : x.us = y.us
      · simp [h1, h2, h3]
      · simp [h1, h2, h3]
    · simp [h1, h2]
  · simp [h1]
theorem bef_not (x y : K4) : bef x y = false ↔ ¬ (y.lb < x.lb ∨ (x.lb = y.lb ∧ (y.sz < x.sz ∨ (x.sz = y.sz ∧ (x.us < y.us ∨ (x.us = y.us ∧ x.id < y.id)))))) := by
  rw [← bef_iff]; simp
theorem swo : SWO ltc where
  irrefl := fun x => by rw [cf_neg, bef_not]; omega
  trans := fun x y z h1 h2 => by rw [cf_neg, bef_iff] at *; omega
  ntrans := fun x y z h1 h2 => by rw [cf_neg, bef_not] at *; omega
theorem tot (x y : K4) (h1 : ltc x y = false) (h2 : ltc y x = false) : x = y := by
  rw [cf_neg, bef_not] at *
  exact K4.ext4 (by omega) (by omega) (by omega) (by omega)
/-- The records that may go, in their order. -/
def ord (g : Int) (rs : List Rc) : List K4 := ((rs.filter (fun r => mayP r g)).map Rc.k).mergeSort fun x y => !ltc y x
theorem ord_len (g : Int) (rs : List Rc) : (ord g rs).length = (rs.filter (fun r => mayP r g)).length := by unfold ord; rw [List.length_mergeSort, List.length_map]
theorem ord_perm (g : Int) (rs : List Rc) : (ord g rs).Perm ((rs.filter (fun r => mayP r g)).map Rc.k) := List.mergeSort_perm _ _
/-- How many of so many go. -/
def part (n : Nat) (p : Int) : Nat := n * p.toNat / 100
theorem part_le {n : Nat} {p : Int} (h0 : 0 ≤ p) (h1 : p ≤ 100) : part n p ≤ n := by
  unfold part
  have : n * p.toNat ≤ n * 100 := Nat.mul_le_mul_left _ (by omega)
  omega
theorem part_mono {n : Nat} {p q : Int} (h : p ≤ q) : part n p ≤ part n q := by
  unfold part
  exact Nat.div_le_div_right (Nat.mul_le_mul_left _ (by omega))
/-- The ids of those that go. -/
def chosen (rs : List Rc) (g p : Int) : List Int := ((ord g rs).take (part (ord g rs).length p)).map K4.id
def limitV (a n : Int) : Int := if 1 ≤ a ∧ a ≤ 1000000 ∧ 1 ≤ n ∧ n ≤ 1000000 then a * n * (n + 1) / 2 else 0
def limitE (a n : Int) : Int := if 1 ≤ a ∧ a ≤ 1000000 ∧ 1 ≤ n ∧ n ≤ 1000000 then 0 else 2
end Go.Proofs.Ytekkbpaelojmeaa
