/- Sorting in place: the heap's sort. -/
import Derived.Test.YtjbnkkjihcoojaaSft
namespace Go.Proofs.Ytjbnkkjihcoojaa
open Go.RowKit Go.Maps
set_option linter.unusedVariables false
set_option maxRecDepth 100000

set_option maxHeartbeats 4000000 in
theorem hsort62 {B : World} {blk cap : Nat} {sv : Value} {n : Nat} {sc : List Int} {ds : List Nat} {W : World} (h : So B blk cap sv n sc ds W) (hn : n ≤ 1048576) {a b m : Nat} (hm : ds.length = m) (hml : m ≤ 1048576) (ha : a < b) (hb : b ≤ m) :
    Calls Try.prog 62 #[.slice (some ⟨blk, 0, none⟩) m cap, .int .i64 a, .int .i64 b, cmpv sv] W fun e w' => e = .returned (.tuple #[]) ∧ InsOut B blk cap sv n sc ds a b w' := by
  have HH := hid h
  have HM := hid hm
  clear h hm
  obtain ⟨t, ht⟩ : ∃ t : Nat, (b : Int) - a = (t : Int) := ⟨b - a, by omega⟩
  obtain ⟨t1, ht1⟩ : ∃ t1 : Nat, (t : Int) - 1 = (t1 : Int) := ⟨t - 1, by omega⟩
  obtain ⟨q, hq⟩ : ∃ q, t1 / 2 = q := ⟨_, rfl⟩
  have hq1 : (t1 : Int) / 2 = (q : Int) := by omega
  have HQ := hid (show q = (t - 1) / 2 by omega)
  have hqt : q ≤ t1 := by omega
  clear hq
  go_enter Try.func62, Try.ntmps62
  go_wp2
  go_loopw [11] (fun iv wr => ∃ (c : Nat) (z : Int) (d1 : List Nat), c ≤ q + 1 ∧ iv = .int .i64 z ∧ z = (c : Int) - 1 ∧ Hid (d1.length = m ∧ So B blk cap sv n sc d1 wr ∧ Hpp.PI a b d1 ds ∧ Hpp.MO sc a c t d1)) (fun iv _ => (intOf iv + 1).toNat)
  case atStart => exact ⟨q + 1, _, ds, Nat.le_refl _, rfl, by omega, hid ⟨HM.out, HH.out, Hpp.PI.refl _ _ _, by rw [HQ.out]; exact Hpp.MO.half _ _ _ _⟩⟩
  case round =>
    obtain ⟨c, z, d1, hc, rfl, hz, HR⟩ := hrel
    rcases Nat.eq_zero_or_pos c with h0 | h0
    · have hz2 : ¬ 0 ≤ z := by omega
      have HR0 := hid (show d1.length = m ∧ So B blk cap sv n sc d1 wr ∧ Hpp.PI a b d1 ds ∧ Hpp.Pd sc a t t d1 from ⟨HR.out.1, HR.out.2.1, HR.out.2.2.1, Hpp.Pd.start (h0 ▸ HR.out.2.2.2)⟩)
      obtain ⟨wo, hwo⟩ : ∃ wo, wo = wr := ⟨wr, rfl⟩
      subst hwo
      clear HR hz h0
      go_wp2
      go_loopw [12] (fun iv wr => ∃ (c : Nat) (z : Int) (d2 : List Nat), c ≤ t ∧ iv = .int .i64 z ∧ z = (c : Int) - 1 ∧ Hid (d2.length = m ∧ So B blk cap sv n sc d2 wr ∧ Hpp.PI a b d2 ds ∧ Hpp.Pd sc a t c d2)) (fun iv _ => (intOf iv + 1).toNat)
      case atStart => exact ⟨t, _, d1, Nat.le_refl _, rfl, by omega, HR0⟩
      case round =>
        obtain ⟨c, z, d2, hc, rfl, hz, HR⟩ := hrel
        rcases Nat.eq_zero_or_pos c with h0 | h0
        · have hz2 : ¬ 0 ≤ z := by omega
          have HO := hid (show InsOut B blk cap sv n sc ds a b wr from ⟨d2, HR.out.2.1, HR.out.2.2.1, by
            have := Hpp.Pd.sin (h0 ▸ HR.out.2.2.2)
            rwa [show a + t = b by omega] at this⟩)
          clear hz
          go_wp2
          go_end0
          exact ⟨rfl, HO.out⟩
        · obtain ⟨k, rfl⟩ : ∃ k, c = k + 1 := ⟨c - 1, by omega⟩
          obtain rfl : z = (k : Int) := by omega
          obtain ⟨p, hp⟩ : ∃ p : Nat, (a : Int) + k = (p : Int) := ⟨a + k, by omega⟩
          obtain ⟨c1, f1, l1⟩ := HR.out.2.1.cells (k := a) (by rw [HR.out.1]; omega)
          obtain ⟨c2, f2, l2⟩ := HR.out.2.1.cells (k := p) (by rw [HR.out.1]; omega)
          have hmd := HR.out.2.2.2.cut (by omega) (by rw [HR.out.1]; omega) HR.out.2.1.nd
          rw [show a + k = p by omega] at hmd
          have HMD := hid hmd
          clear hmd
          have HP := hid (show Hpp.PI a b (Hpp.swp d2 a p) ds from (Hpp.PI.swp (by omega) (by omega) (by rw [HR.out.1]; exact hb)).trans HR.out.2.2.1)
          have CS := hid (show ∀ q, Calls Try.prog 73 #[.slice (some ⟨blk, 0, none⟩) m cap, .int .i64 0, .int .i64 k, .int .i64 a, cmpv sv] (exW (wr.drewN q) blk a p (d2.getD a 0) (d2.getD p 0)) fun e w' => e = .returned (.tuple #[]) ∧ SftOut B blk cap sv n sc (Hpp.swp d2 a p) a 0 k w' from fun q =>
            sift73 ((HR.out.2.1.below (Drawn.below ⟨q, rfl⟩)).swap (W := wr.drewN q) (by rw [HR.out.1]; omega) (by rw [HR.out.1]; omega)) hn (lo := 0) (by rw [Hpp.swp_len]; exact HR.out.1) hml (by omega) (by omega) HMD.out.1)
          have hpm : (p : Int) < m := by omega
          have ham : (a : Int) < m := by omega
          have hwp : IntKind.i64.wrap (p : Int) = p := i64_wrap_nat' (by omega)
          have hz3 : (0 : Int) ≤ k := by omega
          have HND := hid (show (Hpp.swp d2 a p).Nodup from (Hpp.swp_perm (by rw [HR.out.1]; omega) (by rw [HR.out.1]; omega)).nodup_iff.2 HR.out.2.1.nd)
          have HL := hid (show (Hpp.swp d2 a p).length = m by rw [Hpp.swp_len]; exact HR.out.1)
          generalize Hpp.swp d2 a p = d3 at *
          generalize hx : d2.getD a 0 = x at *
          generalize hy : d2.getD p 0 = y at *
          clear hz
          -- the two places may be one
          have key : ∀ (w5 : World), (∃ q, w5 = exW (wr.drewN q) blk a p x y) → Calls Try.prog 73 #[.slice (some ⟨blk, 0, none⟩) m cap, .int .i64 0, .int .i64 k, .int .i64 a, cmpv sv] w5 fun e w' => e = .returned (.tuple #[]) ∧ SftOut B blk cap sv n sc d3 a 0 k w' := fun w5 ⟨q, hq⟩ => hq ▸ CS.out q
          have KEY := hid key
          clear key CS
          by_cases hap : a = p
          · subst hap
            obtain rfl : x = y := by rw [← hx, ← hy]
            clear hx hy
            go_wp2_with (fail)
            go_region
            all_goals
              go_wp2_with (fail)
              go_at_call 73
              refine (KEY.out _ ⟨1, rfl⟩).mono ?_
              rintro e w2 ⟨rfl, d4, k1, k2, k3⟩
              have H4 := hid (show d4.length = m ∧ So B blk cap sv n sc d4 w2 ∧ Hpp.PI a b d4 ds ∧ Hpp.Pd sc a t k d4 from ⟨by rw [k2.len]; exact HL.out, k1, (show Hpp.PI a b d4 d3 from k2.wide (Nat.le_refl _) (by omega)).trans HP.out, Hpp.Pd.next HMD.out.2.1 HMD.out.2.2 k2 HND.out (by rw [HL.out]; omega) (by omega) k3⟩)
              clear k1 k2 k3 KEY
              go_wp2
              go_roundw
              case rel => exact ⟨k, _, d4, by omega, rfl, by omega, H4⟩
              case measure => simp only [intOf]; omega
          · have hap2 : ¬ p = a := fun e => hap e.symm
            clear hx hy
            go_wp2_with (fail)
            go_region
            all_goals
              go_wp2_with (fail)
              go_at_call 73
              refine (KEY.out _ ⟨1, rfl⟩).mono ?_
              rintro e w2 ⟨rfl, d4, k1, k2, k3⟩
              have H4 := hid (show d4.length = m ∧ So B blk cap sv n sc d4 w2 ∧ Hpp.PI a b d4 ds ∧ Hpp.Pd sc a t k d4 from ⟨by rw [k2.len]; exact HL.out, k1, (show Hpp.PI a b d4 d3 from k2.wide (Nat.le_refl _) (by omega)).trans HP.out, Hpp.Pd.next HMD.out.2.1 HMD.out.2.2 k2 HND.out (by rw [HL.out]; omega) (by omega) k3⟩)
              clear k1 k2 k3 KEY
              go_wp2
              go_roundw
              case rel => exact ⟨k, _, d4, by omega, rfl, by omega, H4⟩
              case measure => simp only [intOf]; omega
    · obtain ⟨k, rfl⟩ : ∃ k, c = k + 1 := ⟨c - 1, by omega⟩
      obtain rfl : z = (k : Int) := by omega
      have C1 := hid (sift73 HR.out.2.1 hn (f := a) (lo := k) (m := t) HR.out.1 hml (by omega) (by omega) HR.out.2.2.2)
      have hz3 : (0 : Int) ≤ k := by omega
      clear hz
      go_wp2_with (go_at_call 73; refine C1.out.mono ?_; rintro e w2 ⟨rfl, d2, k1, k2, k3⟩; have H2 := hid (show d2.length = m ∧ So B blk cap sv n sc d2 w2 ∧ Hpp.PI a b d2 ds ∧ Hpp.MO sc a k t d2 from ⟨by rw [k2.len]; exact HR.out.1, k1, (show Hpp.PI a b d2 d1 from k2.wide (Nat.le_refl _) (by omega)).trans HR.out.2.2.1, k3⟩); clear k1 k2 k3)
      go_roundw
      case rel => exact ⟨k, _, d2, by omega, rfl, by omega, H2⟩
      case measure => simp only [intOf]; omega
end Go.Proofs.Ytjbnkkjihcoojaa
