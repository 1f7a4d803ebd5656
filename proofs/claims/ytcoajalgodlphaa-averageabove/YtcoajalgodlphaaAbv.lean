/- Above: the program's, in two words, and the document's. -/
import Derived.Test.YtcoajalgodlphaaWrk
namespace Go.Proofs.Ytcoajalgodlphaa
open Go.RowKit Go.Maps Av
set_option linter.unusedVariables false
set_option linter.unusedSimpArgs false
set_option maxRecDepth 100000

theorem mul37 (x y : Nat) (hx : x < 18446744073709551616) (hy : y < 18446744073709551616) (w : World) :
    Calls Try.prog 37 #[.int .u64 (x : Int), .int .u64 (y : Int)] w fun e w' => e = .returned (.tuple #[.int .u64 ((x * y / 18446744073709551616 : Nat) : Int), .int .u64 ((x * y % 18446744073709551616 : Nat) : Int)]) ∧ w' = w :=
  Any.bits_Mul64 Try.mul64L x y hx hy w
/-- A product of two words. -/
def prod (p : Nat) : Value := .agg #[.int .u64 ((p / 18446744073709551616 : Nat) : Int), .int .u64 ((p % 18446744073709551616 : Nat) : Int)]
theorem times30 (x y : Nat) (hx : x ≤ 4611686018427387904) (hy : y ≤ 10000) (w : World) :
    Calls Try.prog 30 #[.int .i64 (x : Int), .int .i64 (y : Int)] w fun e w' => e = .returned (prod (x * y)) ∧ Below w.heap.size w w' := by
  have C := hid (fun (W : World) => mul37 x y (by omega) (by omega) W)
  have w1 : IntKind.u64.wrap (x : Int) = x := by rw [IntKind.wrap_u64]; omega
  have w2 : IntKind.u64.wrap (y : Int) = y := by rw [IntKind.wrap_u64]; omega
  unfold prod
  generalize x * y / 18446744073709551616 = h at *
  generalize x * y % 18446744073709551616 = l at *
  clear hx hy
  go_enter Try.func30, Try.ntmps30
  go_wp2_with (go_at_call 37; refine (C.out _).mono ?_; rintro e w7 ⟨rfl, hw7⟩; rw [hw7]; clear hw7)
  refine bodyPost_ret (results_cell_row rfl _ _ w.heap.size 63 _ (0, 0) _ rfl (heap_alloc_new _ _) Try.underlying63 rfl (by kernel_rfl)) rfl ?_
  exact ⟨rfl, below_box _ _⟩
theorem above31 (p q : Nat) (w : World) :
    Calls Try.prog 31 #[prod p, prod q] w fun e w' => e = .returned (.bool (decide (q < p))) ∧ Below w.heap.size w w' := by
  have ht := two_words 18446744073709551616 q p (by omega)
  unfold prod
  generalize p / 18446744073709551616 = h1 at *
  generalize p % 18446744073709551616 = l1 at *
  generalize q / 18446744073709551616 = h2 at *
  generalize q % 18446744073709551616 = l2 at *
  have HT : Hid (decide (q < p) = (decide (h2 < h1) || (decide (h2 = h1) && decide (l2 < l1)))) := hid (by
    rw [← Bool.decide_and, ← Bool.decide_or]
    exact decide_eq_decide.2 ht.symm)
  rw [HT.out]
  clear ht HT
  rcases Nat.lt_trichotomy h2 h1 with hh | hh | hh
  · rw [show (decide (h2 < h1) || (decide (h2 = h1) && decide (l2 < l1))) = true by simp [hh]]
    go_enter Try.func31, Try.ntmps31
    go_wp2
    go_ret
    exact ⟨rfl, (below_box _ _).trans ((below_box _ _).mono (by simp))⟩
  · subst hh
    rw [show (decide (h2 < h2) || (decide (h2 = h2) && decide (l2 < l1))) = decide (l2 < l1) by simp]
    go_enter Try.func31, Try.ntmps31
    go_wp2
    go_ret
    exact ⟨by simp, (below_box _ _).trans ((below_box _ _).mono (by simp))⟩
  · rw [show (decide (h2 < h1) || (decide (h2 = h1) && decide (l2 < l1))) = false by simp; omega]
    have h3 : ¬ h2 < h1 := by omega
    have h4 : ((h1 : Int) == h2) = false := by simp; omega
    go_enter Try.func31, Try.ntmps31
    go_wp2
    go_ret
    exact ⟨rfl, (below_box _ _).trans ((below_box _ _).mono (by simp))⟩
/-- Is the one above the other? -/
def abvB (v v2 m : Int) : Bool := decide (0 ≤ m ∧ m ≤ 10000 ∧ v2 * m < v * 100)
theorem abvB_off {v v2 m : Int} (h : m < 0 ∨ 10000 < m) : abvB v v2 m = false := by unfold abvB; simp; omega
theorem above17_off {m : Int} {a b : Value} (W : World) (ha : ∃ x, a = .pointer x) (hb : ∃ x, b = .pointer x) (h : m < 0 ∨ 10000 < m) :
    Calls Try.prog 17 #[a, b, .int .i64 m] W fun e w' => e = .returned (.bool false) ∧ w' = W := by
  obtain ⟨xa, rfl⟩ := ha
  obtain ⟨xb, rfl⟩ := hb
  by_cases h1 : m < 0
  · cases xa <;> cases xb <;>
      (go_enter Try.func17, Try.ntmps17
       go_wp2
       go_ret
       exact ⟨rfl, rfl⟩)
  · have h2 : 10000 < m := by omega
    cases xa <;> cases xb <;>
      (go_enter Try.func17, Try.ntmps17
       go_wp2
       go_ret
       exact ⟨rfl, rfl⟩)
theorem above17_nil {m : Int} {a b : Option Addr} (W : World) (h : a = none ∨ b = none) :
    Calls Try.prog 17 #[.pointer a, .pointer b, .int .i64 m] W fun e w' => e = .returned (.bool false) ∧ w' = W := by
  rcases h with rfl | rfl
  · go_enter Try.func17, Try.ntmps17
    go_wp2
    go_ret
    exact ⟨rfl, rfl⟩
  · cases a <;>
      (go_enter Try.func17, Try.ntmps17
       go_wp2
       go_ret
       exact ⟨rfl, rfl⟩)
set_option maxHeartbeats 4000000 in
theorem above17_on {b b2 s s2 k k2 : Nat} {x y m : Nat} {W : World} (H : Am 57 b s (x : Int) k W) (H2 : Am 57 b2 s2 (y : Int) k2 W) (hx : x ≤ 4611686018427387904) (hy : y ≤ 4611686018427387904) (hm : m ≤ 10000) :
    Calls Try.prog 17 #[.pointer (some ⟨b, 0, none⟩), .pointer (some ⟨b2, 0, none⟩), .int .i64 (m : Int)] W fun e w' => e = .returned (.bool (decide (y * m < x * 100))) ∧ Below W.heap.size W w' := by
  have CA := hid (fun (w : World) => times30 x 100 hx (by omega) w)
  have CB := hid (fun (w : World) => times30 y m hy hm w)
  have CC := hid (fun (w : World) => above31 (x * 100) (y * m) w)
  have HX := hid (fun (X : World) (hX : Below W.heap.size W X) => show X.cell? ⟨b, 1, none⟩ = some (.int .i64 (x : Int)) ∧ X.cell? ⟨b2, 1, none⟩ = some (.int .i64 (y : Int)) ∧ Below W.heap.size W X from
    ⟨row_cell (H.below hX).blk 1, row_cell (H2.below hX).blk 1, hX⟩)
  have hz : W.heap.size = W.heap.size := rfl
  generalize prod (x * 100) = p1 at *
  generalize prod (y * m) = p2 at *
  generalize decide (y * m < x * 100) = r at *
  have h1 : ¬ (m : Int) < 0 := by omega
  have h2 : ¬ (10000 : Int) < m := by omega
  obtain ⟨xI, hxI⟩ : ∃ xI : Int, (x : Int) = xI := ⟨_, rfl⟩
  obtain ⟨yI, hyI⟩ : ∃ yI : Int, (y : Int) = yI := ⟨_, rfl⟩
  obtain ⟨mI, hmI⟩ : ∃ mI : Int, (m : Int) = mI := ⟨_, rfl⟩
  rw [hxI] at CA HX
  rw [hyI] at CB HX
  rw [hmI] at CB h1 h2 ⊢
  clear H H2 hx hy hm hxI hyI hmI hz
  go_enter Try.func17, Try.ntmps17
  go_wp2_with (fail)
  clear h1 h2
  go_region_held3 (fun X => X.cell? ⟨b, 1, none⟩ = some (.int .i64 xI) ∧ X.cell? ⟨b2, 1, none⟩ = some (.int .i64 yI) ∧ Below W.heap.size W X)
    (first | exact HX.out _ (Below.refl _ _).drew | exact HX.out _ HB1 | exact HX.out _ HB2 | exact HX.out _ HB3)
    (first
      | (go_at_call 30; refine (CA.out _).mono ?_; rintro e w4 ⟨rfl, hw4⟩; have HB1 := (show Below W.heap.size W w4 from (Below.refl _ _).drew.trans (hw4.mono (by simp))); clear hw4 CA)
      | (go_at_call 30; refine (CB.out _).mono ?_; rintro e w5 ⟨rfl, hw5⟩; have HB2 := (show Below W.heap.size W w5 from HB1.trans (hw5.mono HB1.size)); clear hw5 CB)
      | (go_at_call 31; refine (CC.out _).mono ?_; rintro e w6 ⟨rfl, hw6⟩; have HB3 := (show Below W.heap.size W w6 from HB2.trans (hw6.mono HB2.size)); clear hw6 CC))
  all_goals
    go_wp2
    go_ret
    exact ⟨rfl, HB3⟩
theorem word_parts (x m M : Nat) (hM : 0 < M) : x * m / M = x / M * m + x % M * m / M ∧ x * m % M = x % M * m % M := by
  have h := Nat.div_add_mod x M
  have e : x * m = M * (x / M * m) + x % M * m := by
    conv => lhs; rw [← h]
    rw [Nat.add_mul, Nat.mul_assoc]
  constructor
  · rw [e, Nat.mul_add_div hM]
  · rw [e, Nat.mul_add_mod]
theorem above18_off {v v2 m : Int} (W : World) (h : m < 0 ∨ 10000 < m) :
    Calls Try.prog 18 #[.int .i64 v, .int .i64 v2, .int .i64 m] W fun e w' => e = .returned (.bool false) ∧ w' = W := by
  by_cases h1 : m < 0
  · go_enter Try.func18, Try.ntmps18
    go_wp2
    go_ret
    exact ⟨rfl, rfl⟩
  · have h2 : 10000 < m := by omega
    go_enter Try.func18, Try.ntmps18
    go_wp2
    go_ret
    exact ⟨rfl, rfl⟩
theorem nat_le_mul {a b c d : Nat} (h1 : a ≤ c) (h2 : b ≤ d) : a * b ≤ c * d := Nat.mul_le_mul h1 h2
set_option maxHeartbeats 4000000 in
theorem above18_on {x y m : Nat} (W : World) (hx : x ≤ 4611686018427387904) (hy : y ≤ 4611686018427387904) (hm : m ≤ 10000) :
    Calls Try.prog 18 #[.int .i64 (x : Int), .int .i64 (y : Int), .int .i64 (m : Int)] W fun e w' => e = .returned (.bool (decide (y * m < x * 100))) ∧ w' = W := by
  have ht := two_words 4294967296 (y * m) (x * 100) (by omega)
  rw [(word_parts x 100 4294967296 (by omega)).1, (word_parts x 100 4294967296 (by omega)).2, (word_parts y m 4294967296 (by omega)).1, (word_parts y m 4294967296 (by omega)).2] at ht
  obtain ⟨x1, hx1⟩ : ∃ z, x / 4294967296 = z := ⟨_, rfl⟩
  obtain ⟨x0, hx0⟩ : ∃ z, x % 4294967296 = z := ⟨_, rfl⟩
  obtain ⟨y1, hy1⟩ : ∃ z, y / 4294967296 = z := ⟨_, rfl⟩
  obtain ⟨y0, hy0⟩ : ∃ z, y % 4294967296 = z := ⟨_, rfl⟩
  rw [hx1, hx0, hy1, hy0] at ht
  have b1 : y1 * m ≤ 1073741824 * 10000 := nat_le_mul (by omega) hm
  have b2 : y0 * m ≤ 4294967295 * 10000 := nat_le_mul (by omega) hm
  have p1 : (y1 : Int) * (m : Int) = ((y1 * m : Nat) : Int) := (Int.natCast_mul _ _).symm
  have p2 : (y0 : Int) * (m : Int) = ((y0 * m : Nat) : Int) := (Int.natCast_mul _ _).symm
  generalize hc : y1 * m = c at *
  generalize hd : y0 * m = d at *
  obtain ⟨r, hr⟩ : ∃ r, decide (y * m < x * 100) = r := ⟨_, rfl⟩
  rw [hr]
  obtain ⟨X, hX⟩ : ∃ X : Int, (x : Int) = X := ⟨_, rfl⟩
  obtain ⟨Y, hY⟩ : ∃ Y : Int, (y : Int) = Y := ⟨_, rfl⟩
  obtain ⟨M, hM⟩ : ∃ M : Int, (m : Int) = M := ⟨_, rfl⟩
  obtain ⟨X1, hX1⟩ : ∃ z : Int, (x1 : Int) = z := ⟨_, rfl⟩
  obtain ⟨X0, hX0⟩ : ∃ z : Int, (x0 : Int) = z := ⟨_, rfl⟩
  obtain ⟨Y1, hY1⟩ : ∃ z : Int, (y1 : Int) = z := ⟨_, rfl⟩
  obtain ⟨Y0, hY0⟩ : ∃ z : Int, (y0 : Int) = z := ⟨_, rfl⟩
  obtain ⟨A, hA⟩ : ∃ z : Int, X1 * 100 = z := ⟨_, rfl⟩
  obtain ⟨B, hB⟩ : ∃ z : Int, X0 * 100 = z := ⟨_, rfl⟩
  obtain ⟨C, hC⟩ : ∃ z : Int, (c : Int) = z := ⟨_, rfl⟩
  obtain ⟨D, hD⟩ : ∃ z : Int, (d : Int) = z := ⟨_, rfl⟩
  obtain ⟨B1, hB1⟩ : ∃ z : Int, B / 4294967296 = z := ⟨_, rfl⟩
  obtain ⟨D1, hD1⟩ : ∃ z : Int, D / 4294967296 = z := ⟨_, rfl⟩
  obtain ⟨B0, hB0⟩ : ∃ z : Int, B % 4294967296 = z := ⟨_, rfl⟩
  obtain ⟨D0, hD0⟩ : ∃ z : Int, D % 4294967296 = z := ⟨_, rfl⟩
  obtain ⟨A2, hA2⟩ : ∃ z : Int, A + B1 = z := ⟨_, rfl⟩
  obtain ⟨C2, hC2⟩ : ∃ z : Int, C + D1 = z := ⟨_, rfl⟩
  rw [hY1, hM, hC] at p1
  rw [hY0, hM, hD] at p2
  have q1 : X / 4294967296 = X1 := by omega
  have q2 : X % 4294967296 = X0 := by omega
  have q3 : Y / 4294967296 = Y1 := by omega
  have q4 : Y % 4294967296 = Y0 := by omega
  have n1 : 0 ≤ X := by omega
  have n2 : 0 ≤ Y := by omega
  have n3 : 0 ≤ B := by omega
  have n4 : 0 ≤ D := by omega
  have wA : wrap64 A = A := by unfold wrap64; omega
  have wB : wrap64 B = B := by unfold wrap64; omega
  have wC : wrap64 C = C := by unfold wrap64; omega
  have wD : wrap64 D = D := by unfold wrap64; omega
  have wX1 : wrap64 X1 = X1 := by unfold wrap64; omega
  have wY1 : wrap64 Y1 = Y1 := by unfold wrap64; omega
  have wB1 : wrap64 B1 = B1 := by unfold wrap64; omega
  have wD1 : wrap64 D1 = D1 := by unfold wrap64; omega
  have wA2 : wrap64 A2 = A2 := by unfold wrap64; omega
  have wC2 : wrap64 C2 = C2 := by unfold wrap64; omega
  have t1 : X.tdiv 4294967296 = X1 := by rw [Int.tdiv_eq_ediv_of_nonneg n1]; exact q1
  have t2 : Y.tdiv 4294967296 = Y1 := by rw [Int.tdiv_eq_ediv_of_nonneg n2]; exact q3
  have t3 : B.tdiv 4294967296 = B1 := by rw [Int.tdiv_eq_ediv_of_nonneg n3]; exact hB1
  have t4 : D.tdiv 4294967296 = D1 := by rw [Int.tdiv_eq_ediv_of_nonneg n4]; exact hD1
  have m1 : ¬ M < 0 := by omega
  have m2 : ¬ 10000 < M := by omega
  have key : (C2 < A2 ∨ C2 = A2 ∧ D0 < B0) ↔ y * m < x * 100 := by
    rw [← ht]
    constructor
    · rintro (h | ⟨h, h'⟩)
      · left; omega
      · right; omega
    · rintro (h | ⟨h, h'⟩)
      · left; omega
      · right; omega
  rw [hX, hY, hM]
  have HR : Hid (r = (decide (C2 < A2) || (decide (C2 = A2) && decide (D0 < B0)))) := hid (by
    rw [← hr, ← Bool.decide_and, ← Bool.decide_or]
    exact decide_eq_decide.2 key.symm)
  clear key ht hr hX hY hM hX1 hX0 hY1 hY0 hC hD hc hd b1 b2 hx hy hm hx1 hx0 hy1 hy0
  rcases Int.lt_trichotomy C2 A2 with hh | hh | hh
  · have HR2 := hid (show r = true by rw [HR.out]; simp [hh])
    clear HR
    go_enter Try.func18, Try.ntmps18
    go_wp2
    go_ret
    exact ⟨by rw [HR2.out]; rfl, rfl⟩
  · subst hh
    have HR2 := hid (show r = decide (D0 < B0) by rw [HR.out]; simp)
    clear HR
    go_enter Try.func18, Try.ntmps18
    go_wp2
    go_ret
    exact ⟨by rw [HR2.out]; simp, rfl⟩
  · have HR2 := hid (show r = false by rw [HR.out]; simp; omega)
    have h3 : ¬ C2 < A2 := by omega
    have h4 : (A2 == C2) = false := by simp; omega
    clear HR hh
    go_enter Try.func18, Try.ntmps18
    go_wp2
    go_ret
    exact ⟨by rw [HR2.out]; rfl, rfl⟩
end Go.Proofs.Ytcoajalgodlphaa
