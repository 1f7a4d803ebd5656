/- Sorting in place: a pivot chosen. -/
import Derived.Test.YtjbnkkjihcoojaaBrk
namespace Go.Proofs.Ytjbnkkjihcoojaa
open Go.RowKit Go.Maps
set_option linter.unusedVariables false
set_option maxRecDepth 100000

/-- The row, and a counter in a box beside it. -/
structure Sx (B : World) (blk cap : Nat) (sv : Value) (n : Nat) (sc : List Int) (ds : List Nat) (g s : Nat) (W : World) : Prop where
  so : So B blk cap sv n sc ds W
  cell : W.cell? ⟨g, 0, none⟩ = some (.int .i64 (s : Nat))
  fz : W.frozen? ⟨g, 0, none⟩ = false
  g1 : B.heap.size ≤ g
  g2 : g ≠ blk
  g3 : sv.ownBlock ≠ some g
theorem Sx.drawn {B : World} {blk cap : Nat} {sv : Value} {n : Nat} {sc : List Int} {ds : List Nat} {g s : Nat} {W W' : World} (h : Sx B blk cap sv n sc ds g s W) (hd : Drawn W W') : Sx B blk cap sv n sc ds g s W' := by
  obtain ⟨q, rfl⟩ := hd
  exact ⟨h.so.below (Drawn.below ⟨q, rfl⟩), h.cell, h.fz, h.g1, h.g2, h.g3⟩
theorem Sx.bump {B : World} {blk cap : Nat} {sv : Value} {n : Nat} {sc : List Int} {ds : List Nat} {g s : Nat} {W : World} (h : Sx B blk cap sv n sc ds g s W) (s' : Nat) (v : Value) (hv : v = .int .i64 (s' : Nat)) : Sx B blk cap sv n sc ds g s' (W.setCell ⟨g, 0, none⟩ v) := by
  subst hv
  exact ⟨h.so.box h.g1 h.g2 h.g3 _, World.cell?_setCell_same _ _ _ h.cell, (World.frozen?_setCell _ _ _ _).trans h.fz, h.g1, h.g2, h.g3⟩
def OrdTwo (B : World) (blk cap : Nat) (sv : Value) (n : Nat) (sc : List Int) (ds : List Nat) (g s x y : Nat) (e : Ending) (w' : World) : Prop :=
  ∃ u v s' : Nat, ((u = x ∧ v = y) ∨ (u = y ∧ v = x)) ∧ s' ≤ s + 1 ∧ e = .returned (.tuple #[.int .i64 (u : Nat), .int .i64 (v : Nat)]) ∧ Sx B blk cap sv n sc ds g s' w'
set_option maxHeartbeats 2000000 in
theorem order78 {B : World} {blk cap : Nat} {sv : Value} {n : Nat} {sc : List Int} {ds : List Nat} {g s : Nat} {W : World} (h : Sx B blk cap sv n sc ds g s W) (hn : n ≤ 1048576) {x y m : Nat} (hm : ds.length = m) (hml : m ≤ 1048576) (hx : x < m) (hy : y < m) (hs : s ≤ 100) :
    Calls Try.prog 78 #[.slice (some ⟨blk, 0, none⟩) m cap, .int .i64 x, .int .i64 y, .pointer (some ⟨g, 0, none⟩), cmpv sv] W fun e w' => OrdTwo B blk cap sv n sc ds g s x y e w' := by
  obtain ⟨c1, _, l1⟩ := h.so.cells (k := x) (by omega)
  obtain ⟨c2, _, l2⟩ := h.so.cells (k := y) (by omega)
  have C := hid (h.so.cmp hn (i := y) (j := x) (by omega) (by omega))
  have HH := hid h
  have cs := h.cell
  have fs := h.fz
  have hx' : (x : Int) < m := by omega
  have hy' : (y : Int) < m := by omega
  generalize Hpp.cf sc (ds.getD y 0) (ds.getD x 0) = r at *
  generalize ds.getD y 0 = zy at *
  generalize ds.getD x 0 = zx at *
  clear h hm
  by_cases hr : r < 0
  · have hcb : decide (r < 0) = true := decide_eq_true hr
    clear hr
    go_enter Try.func78, Try.ntmps78
    go_wp2_with (fail)
    go_quiet ((go_at_call 46; exact Calls.quiet_of (C.out _ ⟨_, rfl⟩)))
    go_wp2
    go_ret2
    exact ⟨y, x, s + 1, .inr ⟨rfl, rfl⟩, Nat.le_refl _, rfl, (HH.out.drawn ⟨nq, rfl⟩).bump (s + 1) _ (by go_num)⟩
  · have hcb : decide (r < 0) = false := decide_eq_false hr
    clear hr
    go_enter Try.func78, Try.ntmps78
    go_wp2_with (fail)
    go_quiet ((go_at_call 46; exact Calls.quiet_of (C.out _ ⟨_, rfl⟩)))
    go_wp2
    go_ret2
    exact ⟨x, y, s, .inl ⟨rfl, rfl⟩, by omega, rfl, HH.out.drawn ⟨nq, rfl⟩⟩
def MedOut (B : World) (blk cap : Nat) (sv : Value) (n : Nat) (sc : List Int) (ds : List Nat) (g s x y z : Nat) (e : Ending) (w' : World) : Prop :=
  ∃ r s' : Nat, (r = x ∨ r = y ∨ r = z) ∧ s' ≤ s + 3 ∧ e = .returned (.int .i64 (r : Nat)) ∧ Sx B blk cap sv n sc ds g s' w'
set_option maxHeartbeats 2000000 in
theorem median77 {B : World} {blk cap : Nat} {sv : Value} {n : Nat} {sc : List Int} {ds : List Nat} {g s : Nat} {W : World} (h : Sx B blk cap sv n sc ds g s W) (hn : n ≤ 1048576) {x y z m : Nat} (hm : ds.length = m) (hml : m ≤ 1048576) (hx : x < m) (hy : y < m) (hz : z < m) (hs : s ≤ 90) :
    Calls Try.prog 77 #[.slice (some ⟨blk, 0, none⟩) m cap, .int .i64 x, .int .i64 y, .int .i64 z, .pointer (some ⟨g, 0, none⟩), cmpv sv] W fun e w' => MedOut B blk cap sv n sc ds g s x y z e w' := by
  have C1 := hid (order78 h hn hm hml hx hy (by omega))
  clear h
  go_enter Try.func77, Try.ntmps77
  go_wp2_with (fail)
  go_at_call 78
  refine C1.out.mono ?_
  rintro e w1 ⟨a1, b1, s1, hab, hs1, rfl, h1⟩
  have ha1 : a1 < m := by omega
  have hb1 : b1 < m := by omega
  have C2 := hid (order78 h1 hn hm hml hb1 hz (by omega))
  have HAB := hid hab
  clear C1 h1 hab
  go_wp2_with (fail)
  go_at_call 78
  refine C2.out.mono ?_
  rintro e w2 ⟨b2, c2, s2, hbc, hs2, rfl, h2⟩
  have hb2 : b2 < m := by omega
  have C3 := hid (order78 h2 hn hm hml ha1 hb2 (by omega))
  have HBC := hid hbc
  clear C2 h2 hbc
  go_wp2_with (fail)
  go_at_call 78
  refine C3.out.mono ?_
  rintro e w3 ⟨a3, b3, s3, hab3, hs3, rfl, h3⟩
  have HO := hid (show MedOut B blk cap sv n sc ds g s x y z (.returned (.int .i64 (b3 : Nat))) w3 from ⟨b3, s3, by have := HAB.out; have := HBC.out; omega, by omega, rfl, h3⟩)
  clear C3 h3 hab3
  go_wp2
  go_ret
  exact HO.out
set_option maxHeartbeats 2000000 in
theorem medadj76 {B : World} {blk cap : Nat} {sv : Value} {n : Nat} {sc : List Int} {ds : List Nat} {g s : Nat} {W : World} (h : Sx B blk cap sv n sc ds g s W) (hn : n ≤ 1048576) {x m : Nat} (hm : ds.length = m) (hml : m ≤ 1048576) (hx0 : 1 ≤ x) (hx : x + 1 < m) (hs : s ≤ 90) :
    Calls Try.prog 76 #[.slice (some ⟨blk, 0, none⟩) m cap, .int .i64 x, .pointer (some ⟨g, 0, none⟩), cmpv sv] W fun e w' => MedOut B blk cap sv n sc ds g s (x - 1) x (x + 1) e w' := by
  obtain ⟨x0, hx1⟩ : ∃ x0 : Nat, (x : Int) - 1 = (x0 : Int) := ⟨x - 1, by omega⟩
  obtain ⟨x2, hx2⟩ : ∃ x0 : Nat, (x : Int) + 1 = (x0 : Int) := ⟨x + 1, by omega⟩
  have C1 := hid (median77 h hn hm hml (x := x0) (y := x) (z := x2) (by omega) (by omega) (by omega) hs)
  rw [show x - 1 = x0 by omega, show x + 1 = x2 by omega]
  clear h
  go_enter Try.func76, Try.ntmps76
  go_wp2_with (fail)
  go_at_call 77
  refine C1.out.mono ?_
  rintro e w1 ⟨r, s1, hr, hs1, rfl, h1⟩
  have HO := hid (show MedOut B blk cap sv n sc ds g s x0 x x2 (.returned (.int .i64 (r : Nat))) w1 from ⟨r, s1, hr, hs1, rfl, h1⟩)
  clear C1 h1 hr
  go_wp2
  go_ret
  exact HO.out
/-- A pivot, and a hint. -/
def PivOut (B : World) (blk cap : Nat) (sv : Value) (n : Nat) (sc : List Int) (ds : List Nat) (a b : Nat) (e : Ending) (w' : World) : Prop :=
  ∃ p t : Nat, (a ≤ p ∧ p < b) ∧ t ≤ 2 ∧ e = .returned (.tuple #[.int .i64 (p : Nat), .int .i64 (t : Nat)]) ∧ So B blk cap sv n sc ds w'
set_option maxHeartbeats 4000000 in
theorem pivot64 {B : World} {blk cap : Nat} {sv : Value} {n : Nat} {sc : List Int} {ds : List Nat} {W : World} (h : So B blk cap sv n sc ds W) (hn : n ≤ 1048576) {a b m : Nat} (hm : ds.length = m) (hml : m ≤ 1048576) (ha : a + 12 < b) (hb : b ≤ m) :
    Calls Try.prog 64 #[.slice (some ⟨blk, 0, none⟩) m cap, .int .i64 a, .int .i64 b, cmpv sv] W fun e w' => PivOut B blk cap sv n sc ds a b e w' := by
  have HM := hid hm
  obtain ⟨t, ht⟩ : ∃ t : Nat, (b : Int) - a = (t : Int) := ⟨b - a, by omega⟩
  have ht8 : (8 : Int) ≤ t := by omega
  obtain ⟨q, hq⟩ : ∃ q : Nat, (t : Int) / 4 = (q : Int) := ⟨t / 4, by omega⟩
  obtain ⟨q2, hq2⟩ : ∃ q' : Nat, (q : Int) * 2 = (q' : Int) := ⟨q * 2, by omega⟩
  obtain ⟨q3, hq3⟩ : ∃ q' : Nat, (q : Int) * 3 = (q' : Int) := ⟨q * 3, by omega⟩
  obtain ⟨i, hi⟩ : ∃ p : Nat, (a : Int) + q = (p : Int) := ⟨a + q, by omega⟩
  obtain ⟨j, hj⟩ : ∃ p : Nat, (a : Int) + q2 = (p : Int) := ⟨a + q2, by omega⟩
  obtain ⟨k, hk⟩ : ∃ p : Nat, (a : Int) + q3 = (p : Int) := ⟨a + q3, by omega⟩
  have hr1 : a + 3 ≤ i ∧ i + 3 ≤ j ∧ j + 3 ≤ k ∧ k + 1 < b := by omega
  have H1 := hid (show Sx B blk cap sv n sc ds W.heap.size 0 (W.alloc (.cells #[.int .i64 0] 3)) from ⟨h.below (below_box W _), by simp, by simp, h.fr.size, fun e => by
      obtain ⟨g, c, cur, e1, _, hg, _⟩ := own_some h.row (by rw [hm]; omega)
      cases e1
      have := lt_of_blk hg
      omega, fun e => by
      obtain ⟨_, cur, hg⟩ := own_blk h.scs e
      have := lt_of_blk hg
      omega⟩)
  obtain ⟨g, hg⟩ : ∃ g, W.heap.size = g := ⟨_, rfl⟩
  rw [hg] at H1
  obtain ⟨W1, hW1⟩ : ∃ W1, W.alloc (.cells #[.int .i64 0] 3) = W1 := ⟨_, rfl⟩
  rw [hW1] at H1
  clear h hm
  by_cases h50 : 50 ≤ t
  · have h50' : (50 : Int) ≤ t := by omega
    have C1 := hid (medadj76 H1.out hn HM.out hml (x := i) (by omega) (by omega) (by omega))
    go_enter Try.func64, Try.ntmps64
    go_wp2_with (fail)
    clear hW1 hg
    go_at_call 76
    refine C1.out.mono ?_
    rintro e w1 ⟨i', s1, hi', hs1, rfl, h1⟩
    have H2 := hid h1
    have C2 := hid (medadj76 H2.out hn HM.out hml (x := j) (by omega) (by omega) (by omega))
    clear C1 h1
    go_wp2_with (fail)
    go_at_call 76
    refine C2.out.mono ?_
    rintro e w2 ⟨j', s2, hj', hs2, rfl, h2⟩
    have H3 := hid h2
    have C3 := hid (medadj76 H3.out hn HM.out hml (x := k) (by omega) (by omega) (by omega))
    clear C2 h2
    go_wp2_with (fail)
    go_at_call 76
    refine C3.out.mono ?_
    rintro e w3 ⟨k', s3, hk', hs3, rfl, h3⟩
    have H4 := hid h3
    have C4 := hid (median77 H4.out hn HM.out hml (x := i') (y := j') (z := k') (by omega) (by omega) (by omega) (by omega))
    clear C3 h3
    go_wp2_with (fail)
    go_at_call 77
    refine C4.out.mono ?_
    rintro e w4 ⟨r, s4, hr, hs4, rfl, h4⟩
    have H5 := hid h4
    have HRR := hid (show a ≤ r ∧ r < b by omega)
    clear C4 h4
    have cS := H5.out.cell
    have HS := hid H5.out.so
    by_cases s0 : s4 = 0
    · subst s0
      go_wp2
      go_ret2
      exact ⟨r, 1, HRR.out, by omega, rfl, HS.out⟩
    · by_cases s12 : s4 = 12
      · subst s12
        go_wp2
        go_ret2
        exact ⟨r, 2, HRR.out, by omega, rfl, HS.out⟩
      · have e0 : (((s4 : Nat) : Int) == 0) = false := by simp; omega
        have e12 : (((s4 : Nat) : Int) == 12) = false := by simp; omega
        have e0' : ¬ (((s4 : Nat) : Int) = 0) := by omega
        have e12' : ¬ (((s4 : Nat) : Int) = 12) := by omega
        go_wp2
        go_ret2
        exact ⟨r, 0, HRR.out, by omega, rfl, HS.out⟩
  · have h50' : ¬ (50 : Int) ≤ t := by omega
    have C1 := hid (median77 H1.out hn HM.out hml (x := i) (y := j) (z := k) (by omega) (by omega) (by omega) (by omega))
    go_enter Try.func64, Try.ntmps64
    go_wp2_with (fail)
    clear hW1 hg
    go_at_call 77
    refine C1.out.mono ?_
    rintro e w4 ⟨r, s4, hr, hs4, rfl, h4⟩
    have H5 := hid h4
    have HRR := hid (show a ≤ r ∧ r < b by omega)
    clear C1 h4
    have cS := H5.out.cell
    have HS := hid H5.out.so
    by_cases s0 : s4 = 0
    · subst s0
      go_wp2
      go_ret2
      exact ⟨r, 1, HRR.out, by omega, rfl, HS.out⟩
    · by_cases s12 : s4 = 12
      · subst s12
        go_wp2
        go_ret2
        exact ⟨r, 2, HRR.out, by omega, rfl, HS.out⟩
      · have e0 : (((s4 : Nat) : Int) == 0) = false := by simp; omega
        have e12 : (((s4 : Nat) : Int) == 12) = false := by simp; omega
        have e0' : ¬ (((s4 : Nat) : Int) = 0) := by omega
        have e12' : ¬ (((s4 : Nat) : Int) = 12) := by omega
        go_wp2
        go_ret2
        exact ⟨r, 0, HRR.out, by omega, rfl, HS.out⟩
end Go.Proofs.Ytjbnkkjihcoojaa
