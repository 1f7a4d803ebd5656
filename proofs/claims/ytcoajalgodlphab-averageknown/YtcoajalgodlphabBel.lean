/- Bells, the program's and the document's. -/
import Derived.Test.YtcoajalgodlphabNum
namespace Go.Proofs.Ytcoajalgodlphab
open Go.RowKit Go.Maps Av
set_option linter.unusedVariables false
set_option linter.unusedSimpArgs false
set_option maxRecDepth 100000

/-- A bell in memory (72: the program's: period, round, left; 54: the document's: period, count, round). -/
structure Bl (t b : Nat) (p x y : Nat) (W : World) : Prop where
  blk : W.heap[b]? = some (.cells #[.int .i64 (p : Int), .int .i64 (x : Int), .int .i64 (y : Int)] t (0, 0))
theorem Bl.below {t b p x y : Nat} {W W' : World} (H : Bl t b p x y W) (h : Below W.heap.size W W') : Bl t b p x y W' :=
  ⟨(h.block b (lt_of_blk H.blk)).trans H.blk⟩
theorem Bl.keep {t b p x y : Nat} {W W' : World} {c : Nat} (H : Bl t b p x y W) (h : Fq (fun g => g ≠ c) W W') (hc : b ≠ c) : Bl t b p x y W' :=
  ⟨h.block _ _ H.blk hc⟩
theorem Bl.set1 {t b p x y : Nat} {W : World} (H : Bl t b p x y W) (z : Nat) : Bl t b p z y (W.setCell ⟨b, 1, none⟩ (.int .i64 (z : Int))) ∧ Fq (fun g => g ≠ b) W (W.setCell ⟨b, 1, none⟩ (.int .i64 (z : Int))) :=
  ⟨⟨by rw [heap_set_row H.blk]; rfl⟩, Fq.set W _ (fun h => h rfl)⟩
theorem Bl.set2 {t b p x y : Nat} {W : World} (H : Bl t b p x y W) (z : Nat) : Bl t b p x z (W.setCell ⟨b, 2, none⟩ (.int .i64 (z : Int))) ∧ Fq (fun g => g ≠ b) W (W.setCell ⟨b, 2, none⟩ (.int .i64 (z : Int))) :=
  ⟨⟨by rw [heap_set_row H.blk]; rfl⟩, Fq.set W _ (fun h => h rfl)⟩
theorem bell_bd {p r : Nat} (hp : p ≤ 2147483647) (h1 : 1 ≤ r) (hr : r ≤ 10000) : p * lby r ≤ 21474836470000 := by
  have := Nat.mul_le_mul hp (Nat.le_trans (lby_bd h1).2 hr)
  omega
set_option maxHeartbeats 4000000 in
theorem begin35 {b p r l : Nat} {W : World} (H : Bl 49 b p r l W) (hp : p ≤ 2147483647) (hr : r < 10000) :
    Calls Try.prog 19 #[.pointer (some ⟨b, 0, none⟩)] W fun e w' => e = .returned (.tuple #[]) ∧ Bl 49 b p (r + 1) (p * lby (r + 1)) w' ∧ Fq (fun g => g ≠ b) W w' := by
  have hbd := bell_bd hp (show 1 ≤ r + 1 by omega) (by omega)
  have hpm : (p : Int) * ((lby (r + 1) : Nat) : Int) = ((p * lby (r + 1) : Nat) : Int) := (Int.natCast_mul _ _).symm
  have c1 := row_cell H.blk 1
  have f1 := row_frozen H.blk 1
  obtain ⟨H1, F1⟩ := H.set1 (r + 1)
  have d0 := row_cell H1.blk 0
  have d1 := row_cell H1.blk 1
  have d2 := row_cell H1.blk 2
  have g2 := row_frozen H1.blk 2
  have C := hid (fun (w : World) => number32 (r + 1) w (by omega) (by omega))
  obtain ⟨L, hL⟩ : ∃ L, lby (r + 1) = L := ⟨_, rfl⟩
  rw [hL] at C hbd hpm ⊢
  obtain ⟨q, hq⟩ : ∃ q, p * L = q := ⟨_, rfl⟩
  rw [hq] at hbd hpm ⊢
  have HS := hid (fun (j : Nat) => And.intro ((H1.below (Drawn.below ⟨j, rfl⟩)).set2 q).1 (F1.trans ((Fq.of_below (Drawn.below ⟨j, rfl⟩)).trans ((H1.below (Drawn.below ⟨j, rfl⟩)).set2 q).2)))
  obtain ⟨rI, hrI⟩ : ∃ rI : Int, (r : Int) = rI := ⟨_, rfl⟩
  have hr1 : ((r + 1 : Nat) : Int) = rI + 1 := by omega
  rw [hr1] at d0 d1 d2 g2 C HS
  rw [hrI] at c1
  obtain ⟨W1, hW1⟩ : ∃ W1, W.setCell ⟨b, 1, none⟩ (.int .i64 (rI + 1)) = W1 := ⟨_, rfl⟩
  rw [hW1] at d0 d1 d2 g2 HS
  have n0 : 0 ≤ rI := by omega
  have n1 : rI < 10000 := by omega
  have wq : IntKind.i64.wrap (q : Int) = q := by rw [IntKind.wrap_i64]; omega
  clear H H1 F1 hp hr hbd hL hq hrI hr1
  go_enter Try.func19, Try.ntmps19
  go_wp2_with (fail)
  go_region_with (go_at_call 16; refine (C.out _).mono ?_; rintro e w4 ⟨rfl, hw4⟩; rw [hw4]; clear hw4)
  all_goals
    go_wp2
    go_end0
    exact ⟨rfl, HS.out _⟩
theorem bnew22_no (p : Int) (W : World) (h : p < 1 ∨ 2147483647 < p) :
    Calls Try.prog 10 #[.int .i64 p] W fun e w' => e = .returned (.tuple #[.pointer none, .int .i64 2]) ∧ w' = W := by
  by_cases h1 : p < 1
  · clear h
    go_enter Try.func10, Try.ntmps10
    go_wp2
    go_ret2
    exact ⟨rfl, rfl⟩
  · have h2 : 2147483647 < p := by omega
    clear h
    go_enter Try.func10, Try.ntmps10
    go_wp2
    go_ret2
    exact ⟨rfl, rfl⟩
theorem bnew22_ok (p : Nat) (W : World) (h : 1 ≤ p) (h2 : p ≤ 2147483647) :
    Calls Try.prog 10 #[.int .i64 (p : Int)] W fun e w' => e = .returned (.tuple #[.pointer (some ⟨W.heap.size, 0, none⟩), .int .i64 0]) ∧ Bl 49 W.heap.size p 1 p w' ∧ Below W.heap.size W w' := by
  have H0 : Bl 49 W.heap.size p 0 0 (W.alloc (.cells #[.int .i64 (p : Int), .int .i64 0, .int .i64 0] 49)) := ⟨heap_alloc_new W _⟩
  have C := hid (begin35 H0 h2 (by omega))
  rw [show p * lby (0 + 1) = p by rw [show lby (0 + 1) = 1 from by decide]; omega, show 0 + 1 = 1 from rfl] at C
  obtain ⟨z, hz⟩ : ∃ z : Int, (p : Int) = z := ⟨_, rfl⟩
  rw [hz] at C ⊢
  have h1' : ¬ z < 1 := by omega
  have h2' : ¬ 2147483647 < z := by omega
  clear h h2 H0 hz
  go_enter Try.func10, Try.ntmps10
  go_wp2_with (go_at_call 19; refine C.out.mono ?_; rintro e w4 ⟨rfl, a4, f4⟩)
  go_ret2
  exact ⟨rfl, a4, (below_box _ _).trans (f4.below (by simp) (fun g hg e => by omega))⟩
theorem round26 {b p r l : Nat} {W : World} (H : Bl 49 b p r l W) :
    Calls Try.prog 13 #[.pointer (some ⟨b, 0, none⟩)] W fun e w' => e = .returned (.int .i64 (r : Int)) ∧ w' = W := by
  have c1 := row_cell H.blk 1
  clear H
  go_enter Try.func13, Try.ntmps13
  go_wp2
  go_ret
  exact ⟨rfl, rfl⟩
theorem tick24_no {b p r l : Nat} {W : World} (H : Bl 49 b p r l W) (hl : 1 < l) (hl2 : l ≤ 21474836470000) :
    Calls Try.prog 11 #[.pointer (some ⟨b, 0, none⟩)] W fun e w' => e = .returned (.bool false) ∧ Bl 49 b p r (l - 1) w' ∧ Fq (fun g => g ≠ b) W w' := by
  have c2 := row_cell H.blk 2
  have f2 := row_frozen H.blk 2
  have HS := hid (H.set2 (l - 1))
  have d2 := row_cell HS.out.1.blk 2
  obtain ⟨z, hz⟩ : ∃ z : Int, (l : Int) = z := ⟨_, rfl⟩
  have hz1 : ((l - 1 : Nat) : Int) = z - 1 := by omega
  rw [hz1] at HS d2
  rw [hz] at c2
  have wz : wrap64 (z - 1) = z - 1 := by unfold wrap64; omega
  have hne : (z - 1 != 0) = true := by simp; omega
  obtain ⟨y, hy⟩ : ∃ y, z - 1 = y := ⟨_, rfl⟩
  rw [hy] at HS d2 wz hne
  clear H hl hl2 hz hz1
  go_enter Try.func11, Try.ntmps11
  go_wp2
  go_ret
  exact ⟨rfl, HS.out⟩
theorem tick24_yes {b p r : Nat} {W : World} (H : Bl 49 b p r 1 W) (hp : p ≤ 2147483647) (hr : r < 10000) :
    Calls Try.prog 11 #[.pointer (some ⟨b, 0, none⟩)] W fun e w' => e = .returned (.bool true) ∧ Bl 49 b p (r + 1) (p * lby (r + 1)) w' ∧ Fq (fun g => g ≠ b) W w' := by
  have c2 := row_cell H.blk 2
  have f2 := row_frozen H.blk 2
  obtain ⟨H1, F1⟩ := H.set2 0
  have d2 := row_cell H1.blk 2
  have C := hid (begin35 H1 hp hr)
  have HF := hid F1
  clear H H1 F1 hp hr
  go_enter Try.func11, Try.ntmps11
  go_wp2_with (go_at_call 19; refine C.out.mono ?_; rintro e w4 ⟨rfl, a4, f4⟩)
  go_ret
  exact ⟨rfl, a4, HF.out.trans f4⟩
end Go.Proofs.Ytcoajalgodlphab
