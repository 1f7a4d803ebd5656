/- Above: the program's, in two words, and the document's. -/
import Derived.Test.YtcoajalgodlphabWrk
namespace Go.Proofs.Ytcoajalgodlphab
open Go.RowKit Go.Maps Av
set_option linter.unusedVariables false
set_option linter.unusedSimpArgs false
set_option maxRecDepth 100000

theorem mul37 (x y : Nat) (hx : x < 18446744073709551616) (hy : y < 18446744073709551616) (w : World) :
    Calls Try.prog 22 #[.int .u64 (x : Int), .int .u64 (y : Int)] w fun e w' => e = .returned (.tuple #[.int .u64 ((x * y / 18446744073709551616 : Nat) : Int), .int .u64 ((x * y % 18446744073709551616 : Nat) : Int)]) ∧ w' = w :=
  Any.bits_Mul64 Try.mul64L x y hx hy w
/-- A product of two words. -/
def prod (p : Nat) : Value := .agg #[.int .u64 ((p / 18446744073709551616 : Nat) : Int), .int .u64 ((p % 18446744073709551616 : Nat) : Int)]
theorem times30 (x y : Nat) (hx : x ≤ 4611686018427387904) (hy : y ≤ 10000) (w : World) :
    Calls Try.prog 17 #[.int .i64 (x : Int), .int .i64 (y : Int)] w fun e w' => e = .returned (prod (x * y)) ∧ Below w.heap.size w w' := by
  have C := hid (fun (W : World) => mul37 x y (by omega) (by omega) W)
  have w1 : IntKind.u64.wrap (x : Int) = x := by rw [IntKind.wrap_u64]; omega
  have w2 : IntKind.u64.wrap (y : Int) = y := by rw [IntKind.wrap_u64]; omega
  unfold prod
  generalize x * y / 18446744073709551616 = h at *
  generalize x * y % 18446744073709551616 = l at *
  clear hx hy
  go_enter Try.func17, Try.ntmps17
  go_wp2_with (go_at_call 22; refine (C.out _).mono ?_; rintro e w7 ⟨rfl, hw7⟩; rw [hw7]; clear hw7)
  refine bodyPost_ret (results_cell_row rfl _ _ w.heap.size 45 _ (0, 0) _ rfl (heap_alloc_new _ _) Try.underlying45 rfl (by kernel_rfl)) rfl ?_
  exact ⟨rfl, below_box _ _⟩
theorem above31 (p q : Nat) (w : World) :
    Calls Try.prog 18 #[prod p, prod q] w fun e w' => e = .returned (.bool (decide (q < p))) ∧ Below w.heap.size w w' := by
  have ht := two_words 18446744073709551616 q p (by omega)
  unfold prod
  generalize p / 18446744073709551616 = h1 at *
  generalize p % 18446744073709551616 = l1 at *
  generalize q / 18446744073709551616 = h2 at *
  generalize q % 18446744073709551616 = l2 at *
  have HT : Hid (decide (q < p) = (decide (h2 < h1) || (decide (h2 = h1) && decide (l2 < l1)))) := hid (by
    rw [← Bool.decide_and, ← Bool.decide_or]
    exact decide_eq_decide.2 ht.symm)
  rw [HT.out]
  clear ht HT
  rcases Nat.lt_trichotomy h2 h1 with hh | hh | hh
  · rw [show (decide (h2 < h1) || (decide (h2 = h1) && decide (l2 < l1))) = true by simp [hh]]
    go_enter Try.func18, Try.ntmps18
    go_wp2
    go_ret
    exact ⟨rfl, (below_box _ _).trans ((below_box _ _).mono (by simp))⟩
  · subst hh
    rw [show (decide (h2 < h2) || (decide (h2 = h2) && decide (l2 < l1))) = decide (l2 < l1) by simp]
    go_enter Try.func18, Try.ntmps18
    go_wp2
    go_ret
    exact ⟨by simp, (below_box _ _).trans ((below_box _ _).mono (by simp))⟩
  · rw [show (decide (h2 < h1) || (decide (h2 = h1) && decide (l2 < l1))) = false by simp; omega]
    have h3 : ¬ h2 < h1 := by omega
    have h4 : ((h1 : Int) == h2) = false := by simp; omega
    go_enter Try.func18, Try.ntmps18
    go_wp2
    go_ret
    exact ⟨rfl, (below_box _ _).trans ((below_box _ _).mono (by simp))⟩
/-- Is the one above the other? -/
def abvB (v v2 m : Int) : Bool := decide (0 ≤ m ∧ m ≤ 10000 ∧ v2 * m < v * 100)
theorem abvB_off {v v2 m : Int} (h : m < 0 ∨ 10000 < m) : abvB v v2 m = false := by unfold abvB; simp; omega
theorem above17_off {m : Int} {a b : Value} (W : World) (ha : ∃ x, a = .pointer x) (hb : ∃ x, b = .pointer x) (h : m < 0 ∨ 10000 < m) :
    Calls Try.prog 9 #[a, b, .int .i64 m] W fun e w' => e = .returned (.bool false) ∧ w' = W := by
  obtain ⟨xa, rfl⟩ := ha
  obtain ⟨xb, rfl⟩ := hb
  by_cases h1 : m < 0
  · cases xa <;> cases xb <;>
      (go_enter Try.func9, Try.ntmps9
       go_wp2
       go_ret
       exact ⟨rfl, rfl⟩)
  · have h2 : 10000 < m := by omega
    cases xa <;> cases xb <;>
      (go_enter Try.func9, Try.ntmps9
       go_wp2
       go_ret
       exact ⟨rfl, rfl⟩)
theorem above17_nil {m : Int} {a b : Option Addr} (W : World) (h : a = none ∨ b = none) :
    Calls Try.prog 9 #[.pointer a, .pointer b, .int .i64 m] W fun e w' => e = .returned (.bool false) ∧ w' = W := by
  rcases h with rfl | rfl
  · go_enter Try.func9, Try.ntmps9
    go_wp2
    go_ret
    exact ⟨rfl, rfl⟩
  · cases a <;>
      (go_enter Try.func9, Try.ntmps9
       go_wp2
       go_ret
       exact ⟨rfl, rfl⟩)
set_option maxHeartbeats 4000000 in
theorem above17_on {b b2 s s2 k k2 : Nat} {x y m : Nat} {W : World} (H : Am 39 b s (x : Int) k W) (H2 : Am 39 b2 s2 (y : Int) k2 W) (hx : x ≤ 4611686018427387904) (hy : y ≤ 4611686018427387904) (hm : m ≤ 10000) :
    Calls Try.prog 9 #[.pointer (some ⟨b, 0, none⟩), .pointer (some ⟨b2, 0, none⟩), .int .i64 (m : Int)] W fun e w' => e = .returned (.bool (decide (y * m < x * 100))) ∧ Below W.heap.size W w' := by
  have CA := hid (fun (w : World) => times30 x 100 hx (by omega) w)
  have CB := hid (fun (w : World) => times30 y m hy hm w)
  have CC := hid (fun (w : World) => above31 (x * 100) (y * m) w)
  have HX := hid (fun (X : World) (hX : Below W.heap.size W X) => show X.cell? ⟨b, 1, none⟩ = some (.int .i64 (x : Int)) ∧ X.cell? ⟨b2, 1, none⟩ = some (.int .i64 (y : Int)) ∧ Below W.heap.size W X from
    ⟨row_cell (H.below hX).blk 1, row_cell (H2.below hX).blk 1, hX⟩)
  have hz : W.heap.size = W.heap.size := rfl
  generalize prod (x * 100) = p1 at *
  generalize prod (y * m) = p2 at *
  generalize decide (y * m < x * 100) = r at *
  have h1 : ¬ (m : Int) < 0 := by omega
  have h2 : ¬ (10000 : Int) < m := by omega
  obtain ⟨xI, hxI⟩ : ∃ xI : Int, (x : Int) = xI := ⟨_, rfl⟩
  obtain ⟨yI, hyI⟩ : ∃ yI : Int, (y : Int) = yI := ⟨_, rfl⟩
  obtain ⟨mI, hmI⟩ : ∃ mI : Int, (m : Int) = mI := ⟨_, rfl⟩
  rw [hxI] at CA HX
  rw [hyI] at CB HX
  rw [hmI] at CB h1 h2 ⊢
  clear H H2 hx hy hm hxI hyI hmI hz
  go_enter Try.func9, Try.ntmps9
  go_wp2_with (fail)
  clear h1 h2
  go_region_held3 (fun X => X.cell? ⟨b, 1, none⟩ = some (.int .i64 xI) ∧ X.cell? ⟨b2, 1, none⟩ = some (.int .i64 yI) ∧ Below W.heap.size W X)
    (first | exact HX.out _ (Below.refl _ _).drew | exact HX.out _ HB1 | exact HX.out _ HB2 | exact HX.out _ HB3)
    (first
      | (go_at_call 17; refine (CA.out _).mono ?_; rintro e w4 ⟨rfl, hw4⟩; have HB1 := (show Below W.heap.size W w4 from (Below.refl _ _).drew.trans (hw4.mono (by simp))); clear hw4 CA)
      | (go_at_call 17; refine (CB.out _).mono ?_; rintro e w5 ⟨rfl, hw5⟩; have HB2 := (show Below W.heap.size W w5 from HB1.trans (hw5.mono HB1.size)); clear hw5 CB)
      | (go_at_call 18; refine (CC.out _).mono ?_; rintro e w6 ⟨rfl, hw6⟩; have HB3 := (show Below W.heap.size W w6 from HB2.trans (hw6.mono HB2.size)); clear hw6 CC))
  all_goals
    go_wp2
    go_ret
    exact ⟨rfl, HB3⟩
theorem abv_nat {x y m : Nat} (h : m ≤ 10000) : decide (y * m < x * 100) = abvB (x : Int) (y : Int) (m : Int) := by
  unfold abvB
  refine decide_eq_decide.2 ⟨fun hh => ⟨by omega, by omega, ?_⟩, fun hh => ?_⟩
  · rw [← Int.natCast_mul, show ((x : Int) * 100) = ((x * 100 : Nat) : Int) by omega]; omega
  · have := hh.2.2
    rw [← Int.natCast_mul, show ((x : Int) * 100) = ((x * 100 : Nat) : Int) by omega] at this
    omega
theorem above17 {b b2 s s2 k k2 : Nat} {v v2 m : Int} {W : World} (H : Am 39 b s v k W) (H2 : Am 39 b2 s2 v2 k2 W) (O : Ok s v k) (O2 : Ok s2 v2 k2) :
    Calls Try.prog 9 #[.pointer (some ⟨b, 0, none⟩), .pointer (some ⟨b2, 0, none⟩), .int .i64 m] W fun e w' => e = .returned (.bool (abvB v v2 m)) ∧ Below W.heap.size W w' := by
  by_cases h : m < 0 ∨ 10000 < m
  · rw [abvB_off h]
    refine (above17_off W ⟨_, rfl⟩ ⟨_, rfl⟩ h).mono ?_
    rintro e w' ⟨rfl, rfl⟩
    exact ⟨rfl, Below.refl _ _⟩
  · obtain ⟨x, rfl⟩ : ∃ x : Nat, v = x := ⟨v.toNat, by have := O.v0; omega⟩
    obtain ⟨y, rfl⟩ : ∃ y : Nat, v2 = y := ⟨v2.toNat, by have := O2.v0; omega⟩
    obtain ⟨z, rfl⟩ : ∃ z : Nat, m = z := ⟨m.toNat, by omega⟩
    rw [← abv_nat (by omega)]
    exact above17_on H H2 (by have := O.v62; omega) (by have := O2.v62; omega) (by omega)
end Go.Proofs.Ytcoajalgodlphab
