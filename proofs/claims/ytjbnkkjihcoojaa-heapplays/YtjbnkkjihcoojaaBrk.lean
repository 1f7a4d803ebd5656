/- Sorting in place: patterns broken. -/
import Derived.Test.YtjbnkkjihcoojaaRev
import Derived.Test.YtjbnkkjihcoojaaOrd
import Derived.Test.YtjbnkkjihcoojaaXor
import Derived.Lib.ItoaNum
import Derived.Laws.Bits64b
namespace Go.Proofs.Ytjbnkkjihcoojaa
open Go.RowKit Go.Maps
set_option linter.unusedVariables false
set_option maxRecDepth 100000

/-- The generator's next. -/
def NextOut (W : World) (g : Nat) (e : Ending) (w' : World) : Prop := ∃ x : Nat, x < 18446744073709551616 ∧ e = .returned (.int .u64 (x : Nat)) ∧ w' = (W.setCell ⟨g, 0, none⟩ (.int .u64 (x : Nat))).drewN 3
theorem next75 (g x : Nat) (W : World) (hx : x < 18446744073709551616) (hc : W.cell? ⟨g, 0, none⟩ = some (.int .u64 (x : Nat))) (hf : W.frozen? ⟨g, 0, none⟩ = false) :
    Calls Try.prog 75 #[.pointer (some ⟨g, 0, none⟩)] W fun e w' => NextOut W g e w' :=
  (AnyF.xorshift_Next Try.xorL g 0 x hx W hc hf).mono fun e w' ⟨he, hw⟩ => ⟨Sort.xorNextN x, Sort.xorNextN_lt x hx, he, hw⟩
theorem pow_facts (l : Nat) (h0 : 1 ≤ l) (hl : l ≤ 1048576) : Lib.bitLen l ≤ 21 ∧ l < 2 ^ Lib.bitLen l ∧ 2 ^ Lib.bitLen l ≤ 2 * l := by
  have hb := Lib.bitLenAux_bounds 64 l (by omega) (by omega)
  have hk := Lib.bitLen_le l 21 (by omega) (by omega)
  refine ⟨hk, hb.2.2, ?_⟩
  have e : Lib.bitLen l = (Lib.bitLen l - 1) + 1 := by have := hb.1; unfold Lib.bitLen; omega
  rw [e, Nat.pow_succ]
  have := hb.2.1
  unfold Lib.bitLen
  omega
/-- A power of two above a length. -/
def PowOut (W : World) (l : Nat) (e : Ending) (w' : World) : Prop := ∃ k P : Nat, P = 2 ^ k ∧ k ≤ 21 ∧ l < P ∧ P ≤ 2 * l ∧ e = .returned (.int .u64 (P : Nat)) ∧ w' = W
theorem npow74 (l : Nat) (W : World) (h0 : 1 ≤ l) (hl : l ≤ 1048576) :
    Calls Try.prog 74 #[.int .i64 l] W fun e w' => PowOut W l e w' := by
  have C := hid (len55 l W hl)
  have w1 : IntKind.u64.wrap (l : Int) = l := by rw [IntKind.wrap_u64]; omega
  obtain ⟨f1, f2, f3⟩ := pow_facts l h0 hl
  obtain ⟨P, hP⟩ : ∃ P : Nat, 2 ^ Lib.bitLen l = P := ⟨_, rfl⟩
  rw [hP] at f2 f3
  have hw : IntKind.u64.wrap ((2 : Int) ^ min (Lib.bitLen l) 64) = (P : Nat) := by
    rw [Nat.min_eq_left (by omega), show ((2 : Int) ^ Lib.bitLen l) = ((2 ^ Lib.bitLen l : Nat) : Int) by simp, hP, IntKind.wrap_u64]
    omega
  have HO := hid (show PowOut W l (.returned (.int .u64 (P : Nat))) W from ⟨Lib.bitLen l, P, hP.symm, f1, f2, f3, rfl, rfl⟩)
  clear f1 f2 f3 hP
  go_enter Try.func74, Try.ntmps74
  go_wp2_with (go_at_call 55; refine C.out.mono ?_; rintro e w4 ⟨rfl, hw4⟩; rw [hw4]; clear hw4)
  first
    | (go_ret; rw [hw]; exact HO.out)
    | (rw [hw]; go_ret; exact HO.out)
    | (go_ret; exact HO.out)
theorem So.box {B : World} {blk cap : Nat} {sv : Value} {n : Nat} {sc : List Int} {ds : List Nat} {W : World} (h : So B blk cap sv n sc ds W) {g : Nat} (hg : B.heap.size ≤ g) (hne : g ≠ blk) (hsv : sv.ownBlock ≠ some g) (v : Value) : So B blk cap sv n sc ds (W.setCell ⟨g, 0, none⟩ v) :=
  ⟨own_keep h.row (fun e => by cases e; exact hne rfl) _, own_keep h.scs hsv _, h.ne, ⟨h.fr.os, h.fr.tape, h.fr.output, by simpa [World.setCell] using h.fr.size, fun x o hx hq => (heap_other W v (fun e => by have := lt_of_blk hx; omega)).trans (h.fr.block x o hx hq)⟩, h.lt, h.nd⟩
set_option maxHeartbeats 4000000 in
theorem brk63 {B : World} {blk cap : Nat} {sv : Value} {n : Nat} {sc : List Int} {ds : List Nat} {W : World} (h : So B blk cap sv n sc ds W) (hn : n ≤ 1048576) {a b m : Nat} (hm : ds.length = m) (hml : m ≤ 1048576) (ha : a + 8 ≤ b) (hb : b ≤ m) :
    Calls Try.prog 63 #[.slice (some ⟨blk, 0, none⟩) m cap, .int .i64 a, .int .i64 b, cmpv sv] W fun e w' => e = .returned (.tuple #[]) ∧ PermOut B blk cap sv n sc ds a b w' := by
  have HH := hid h
  have HM := hid hm
  clear h hm
  obtain ⟨t, ht⟩ : ∃ t : Nat, (b : Int) - a = (t : Int) := ⟨b - a, by omega⟩
  have ht8 : (8 : Int) ≤ t := by omega
  have w1 : IntKind.u64.wrap (t : Int) = t := by rw [IntKind.wrap_u64]; omega
  have CP := hid (fun W => npow74 t W (by omega) (by omega))
  obtain ⟨q4, hq4⟩ : ∃ q : Nat, (t : Int) / 4 = (q : Int) := ⟨t / 4, by omega⟩
  obtain ⟨q2, hq2⟩ : ∃ q : Nat, (q4 : Int) * 2 = (q : Int) := ⟨q4 * 2, by omega⟩
  obtain ⟨s1, hs1⟩ : ∃ s : Nat, (a : Int) + q2 = (s : Int) := ⟨a + q2, by omega⟩
  obtain ⟨s0, hs0⟩ : ∃ s : Nat, (s1 : Int) - 1 = (s : Int) := ⟨s1 - 1, by omega⟩
  obtain ⟨s2, hs2⟩ : ∃ s : Nat, (s1 : Int) + 1 = (s : Int) := ⟨s1 + 1, by omega⟩
  have hl0 : a ≤ s0 := by omega
  have hl2 : s2 < b := by omega
  have hl3 : s2 = s0 + 2 := by omega
  have H1 := hid (show So B blk cap sv n sc ds (W.alloc (.cells #[.int .u64 (t : Nat)] 101)) ∧ (W.alloc (.cells #[.int .u64 (t : Nat)] 101)).cell? ⟨W.heap.size, 0, none⟩ = some (.int .u64 (t : Nat)) ∧ (W.alloc (.cells #[.int .u64 (t : Nat)] 101)).frozen? ⟨W.heap.size, 0, none⟩ = false from ⟨HH.out.below (below_box W _), by simp, by simp⟩)
  have HG := hid (show B.heap.size ≤ W.heap.size ∧ W.heap.size ≠ blk ∧ sv.ownBlock ≠ some W.heap.size from ⟨HH.out.fr.size, fun e => by
      obtain ⟨g, c, cur, e1, _, hg, _⟩ := own_some HH.out.row (by rw [HM.out]; omega)
      cases e1
      have := lt_of_blk hg
      omega, fun e => by
      obtain ⟨_, cur, hg⟩ := own_blk HH.out.scs e
      have := lt_of_blk hg
      omega⟩)
  obtain ⟨g, hg⟩ : ∃ g, W.heap.size = g := ⟨_, rfl⟩
  rw [hg] at H1 HG
  obtain ⟨W1, hW1⟩ : ∃ W1, W.alloc (.cells #[.int .u64 (t : Nat)] 101) = W1 := ⟨_, rfl⟩
  rw [hW1] at H1
  go_enter Try.func63, Try.ntmps63
  go_wp2_with (fail)
  clear hW1 hg
  go_at_call 74
  refine (CP.out _).mono ?_
  rintro e w2 ⟨k, P, hPk, hk21, hP1, hP2, rfl, hw2⟩
  rw [hw2]
  clear hw2 CP
  have HPK := hid (show P = 2 ^ k ∧ k ≤ 21 from ⟨hPk, hk21⟩)
  clear hPk hk21
  obtain ⟨P1, hP3⟩ : ∃ p : Nat, (P : Int) - 1 = (p : Int) := ⟨P - 1, by omega⟩
  go_wp2
  go_loopw [11] (fun xv wr => ∃ (x r : Nat) (d1 : List Nat), s0 ≤ x ∧ x ≤ s2 + 1 ∧ xv = .int .i64 (x : Nat) ∧ r < 18446744073709551616 ∧ Hid (d1.length = m ∧ So B blk cap sv n sc d1 wr ∧ Hpp.PI a b d1 ds ∧ wr.cell? ⟨g, 0, none⟩ = some (.int .u64 (r : Nat)) ∧ wr.frozen? ⟨g, 0, none⟩ = false)) (fun xv _ => b + 1 - (intOf xv).toNat)
  case atStart => exact ⟨s0, t, ds, Nat.le_refl _, by omega, rfl, by omega, hid ⟨HM.out, H1.out.1, Hpp.PI.refl _ _ _, H1.out.2.1, H1.out.2.2⟩⟩
  case round =>
    obtain ⟨x, r, d1, hx1, hx2, rfl, hr, HR⟩ := hrel
    by_cases hlt : x ≤ s2
    · have hlt' : (x : Int) ≤ s2 := by omega
      have CN := hid (next75 g r wr hr HR.out.2.2.2.1 HR.out.2.2.2.2)
      go_wp2_with (fail)
      go_at_call 75
      refine CN.out.mono ?_
      rintro e w5 ⟨y, hy, rfl, hw5⟩
      have H5 := hid (show So B blk cap sv n sc d1 w5 ∧ w5.cell? ⟨g, 0, none⟩ = some (.int .u64 (y : Nat)) ∧ w5.frozen? ⟨g, 0, none⟩ = false from by
        subst hw5
        exact ⟨(HR.out.2.1.box HG.out.1 HG.out.2.1 HG.out.2.2 _).below (Drawn.below ⟨3, rfl⟩), World.cell?_setCell_same _ _ _ HR.out.2.2.2.1, (World.frozen?_setCell _ _ _ _).trans HR.out.2.2.2.2⟩)
      clear hw5 CN
      obtain ⟨o1, ho1, ho2⟩ : ∃ o1 : Nat, bits .and .u64 (y : Int) (P1 : Int) = (o1 : Nat) ∧ o1 < P := by
        refine ⟨y &&& P1, bits_and_u64_nat y P1 hy (by omega), ?_⟩
        have : y &&& P1 ≤ P1 := Nat.and_le_right
        omega
      by_cases hot : t ≤ o1
      · have hot' : (t : Int) ≤ o1 := by omega
        obtain ⟨o2, ho3⟩ : ∃ o : Nat, (o1 : Int) - t = (o : Int) := ⟨o1 - t, by omega⟩
        obtain ⟨p, hp⟩ : ∃ p : Nat, (a : Int) + o2 = (p : Int) := ⟨a + o2, by omega⟩
        obtain ⟨c1, f1, l1⟩ := H5.out.1.cells (k := x) (by rw [HR.out.1]; omega)
        obtain ⟨c2, f2, l2⟩ := H5.out.1.cells (k := p) (by rw [HR.out.1]; omega)
        have HS := hid (fun q => (H5.out.1.below (Drawn.below ⟨q, rfl⟩)).swap (W := w5.drewN q) (i := x) (j := p) (by rw [HR.out.1]; omega) (by rw [HR.out.1]; omega))
        have HP := hid (show Hpp.PI a b (Hpp.swp d1 x p) ds from (Hpp.PI.swp (by omega) (by omega) (by rw [HR.out.1]; exact hb)).trans HR.out.2.2.1)
        have HC := hid (fun q => show (exW (w5.drewN q) blk x p (d1.getD x 0) (d1.getD p 0)).cell? ⟨g, 0, none⟩ = some (.int .u64 (y : Nat)) ∧ (exW (w5.drewN q) blk x p (d1.getD x 0) (d1.getD p 0)).frozen? ⟨g, 0, none⟩ = false from by
          unfold exW
          refine ⟨?_, ?_⟩
          · rw [World.cell?_setCell_other _ _ _ _ (by intro e'; simp only [Addr.mk.injEq] at e'; exact HG.out.2.1 e'.1.symm), World.cell?_setCell_other _ _ _ _ (by intro e'; simp only [Addr.mk.injEq] at e'; exact HG.out.2.1 e'.1.symm)]
            exact H5.out.2.1
          · rw [World.frozen?_setCell, World.frozen?_setCell]
            exact H5.out.2.2)
        have hxm : (x : Int) < m := by omega
        have hpm : (p : Int) < m := by omega
        have hwp : IntKind.i64.wrap (p : Int) = p := i64_wrap_nat' (by omega)
        generalize hzx : d1.getD x 0 = zx at *
        generalize hzp : d1.getD p 0 = zp at *
        by_cases hxp : x = p
        · subst hxp
          obtain rfl : zx = zp := by rw [← hzx, ← hzp]
          clear hzx hzp
          go_wp2_with (fail)
          go_region
          all_goals
            have HS2 := hid (HS.out 1)
            have HC2 := hid (HC.out 1)
            go_wp2
            go_roundw
            case rel => exact ⟨x + 1, y, _, by omega, by omega, by go_num, hy, hid ⟨by rw [Hpp.swp_len]; exact HR.out.1, HS2.out, HP.out, HC2.out.1, HC2.out.2⟩⟩
            case measure => simp only [intOf]; omega
        · have hxp2 : ¬ p = x := fun e => hxp e.symm
          clear hzx hzp
          go_wp2_with (fail)
          go_region
          all_goals
            have HS2 := hid (HS.out 1)
            have HC2 := hid (HC.out 1)
            go_wp2
            go_roundw
            case rel => exact ⟨x + 1, y, _, by omega, by omega, by go_num, hy, hid ⟨by rw [Hpp.swp_len]; exact HR.out.1, HS2.out, HP.out, HC2.out.1, HC2.out.2⟩⟩
            case measure => simp only [intOf]; omega
      · have hot' : ¬ (t : Int) ≤ o1 := by omega
        obtain ⟨p, hp⟩ : ∃ p : Nat, (a : Int) + o1 = (p : Int) := ⟨a + o1, by omega⟩
        obtain ⟨c1, f1, l1⟩ := H5.out.1.cells (k := x) (by rw [HR.out.1]; omega)
        obtain ⟨c2, f2, l2⟩ := H5.out.1.cells (k := p) (by rw [HR.out.1]; omega)
        have HS := hid (fun q => (H5.out.1.below (Drawn.below ⟨q, rfl⟩)).swap (W := w5.drewN q) (i := x) (j := p) (by rw [HR.out.1]; omega) (by rw [HR.out.1]; omega))
        have HP := hid (show Hpp.PI a b (Hpp.swp d1 x p) ds from (Hpp.PI.swp (by omega) (by omega) (by rw [HR.out.1]; exact hb)).trans HR.out.2.2.1)
        have HC := hid (fun q => show (exW (w5.drewN q) blk x p (d1.getD x 0) (d1.getD p 0)).cell? ⟨g, 0, none⟩ = some (.int .u64 (y : Nat)) ∧ (exW (w5.drewN q) blk x p (d1.getD x 0) (d1.getD p 0)).frozen? ⟨g, 0, none⟩ = false from by
          unfold exW
          refine ⟨?_, ?_⟩
          · rw [World.cell?_setCell_other _ _ _ _ (by intro e'; simp only [Addr.mk.injEq] at e'; exact HG.out.2.1 e'.1.symm), World.cell?_setCell_other _ _ _ _ (by intro e'; simp only [Addr.mk.injEq] at e'; exact HG.out.2.1 e'.1.symm)]
            exact H5.out.2.1
          · rw [World.frozen?_setCell, World.frozen?_setCell]
            exact H5.out.2.2)
        have hxm : (x : Int) < m := by omega
        have hpm : (p : Int) < m := by omega
        have hwp : IntKind.i64.wrap (p : Int) = p := i64_wrap_nat' (by omega)
        generalize hzx : d1.getD x 0 = zx at *
        generalize hzp : d1.getD p 0 = zp at *
        by_cases hxp : x = p
        · subst hxp
          obtain rfl : zx = zp := by rw [← hzx, ← hzp]
          clear hzx hzp
          go_wp2_with (fail)
          go_region
          all_goals
            have HS2 := hid (HS.out 1)
            have HC2 := hid (HC.out 1)
            go_wp2
            go_roundw
            case rel => exact ⟨x + 1, y, _, by omega, by omega, by go_num, hy, hid ⟨by rw [Hpp.swp_len]; exact HR.out.1, HS2.out, HP.out, HC2.out.1, HC2.out.2⟩⟩
            case measure => simp only [intOf]; omega
        · have hxp2 : ¬ p = x := fun e => hxp e.symm
          clear hzx hzp
          go_wp2_with (fail)
          go_region
          all_goals
            have HS2 := hid (HS.out 1)
            have HC2 := hid (HC.out 1)
            go_wp2
            go_roundw
            case rel => exact ⟨x + 1, y, _, by omega, by omega, by go_num, hy, hid ⟨by rw [Hpp.swp_len]; exact HR.out.1, HS2.out, HP.out, HC2.out.1, HC2.out.2⟩⟩
            case measure => simp only [intOf]; omega
    · have hge : ¬ (x : Int) ≤ s2 := by omega
      have HO := hid (show PermOut B blk cap sv n sc ds a b wr from ⟨d1, HR.out.2.1, HR.out.2.2.1⟩)
      go_wp2
      go_end0
      exact ⟨rfl, HO.out⟩
end Go.Proofs.Ytjbnkkjihcoojaa
