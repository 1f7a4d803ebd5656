/- Sorting in place: insertion of a few. -/
import Derived.Test.YtjbnkkjihcoojaaRev
namespace Hpp
/-- What stands ahead of a comes before all from a to b. -/
def Lo (s : List Int) (a b : Nat) (ds : List Nat) : Prop := 1 ≤ a → ∀ k, a ≤ k → k < b → bef s (ds.getD (a - 1) 0) (ds.getD k 0)
theorem Lo.pi {s : List Int} {a b : Nat} {ds ds' : List Nat} (h : Lo s a b ds) (hp : PI a b ds' ds) (hd : ds.Nodup) (hb : b ≤ ds.length) : Lo s a b ds' := by
  intro h1 k hk1 hk2
  obtain ⟨j, hj, e⟩ := hp.from hd hb ⟨hk1, hk2⟩
  rw [e, hp.2 (a - 1) (by omega)]
  exact h h1 j hj.1 hj.2
theorem Sin.snoc {s : List Int} {a i : Nat} {ds : List Nat} (h : Sin s a i ds) (hi : a < i) (hb : bef s (ds.getD (i - 1) 0) (ds.getD i 0)) : Sin s a (i + 1) ds := by
  intro p q h1 h2 h3
  by_cases e : q = i
  · subst e
    by_cases e2 : p = q - 1
    · rw [e2]; exact hb
    · exact bef_trans (h p (q - 1) h1 (by omega) (by omega)) hb
  · exact h p q h1 h2 (by omega)
theorem Sin.swp_out {s : List Int} {a b i j : Nat} {ds : List Nat} (h : Sin s a b ds) (hi : b ≤ i) (hj : b ≤ j) (hil : i < ds.length) (hjl : j < ds.length) : Sin s a b (swp ds i j) := by
  intro p q h1 h2 h3
  rw [swp_get hil hjl, swp_get hil hjl, if_neg (by omega), if_neg (by omega), if_neg (by omega), if_neg (by omega)]
  exact h p q h1 h2 h3
theorem Sin.less {s : List Int} {a b b' : Nat} {ds : List Nat} (h : Sin s a b ds) (hb : b' ≤ b) : Sin s a b' ds := fun p q h1 h2 h3 => h p q h1 h2 (by omega)
end Hpp
namespace Go.Proofs.Ytjbnkkjihcoojaa
open Go.RowKit Go.Maps
set_option linter.unusedVariables false
set_option maxRecDepth 100000

def PinOut (B : World) (blk cap : Nat) (sv : Value) (n : Nat) (sc : List Int) (ds : List Nat) (a b : Nat) (e : Ending) (w' : World) : Prop := ∃ (o : Bool) (ds' : List Nat), e = .returned (.bool o) ∧ So B blk cap sv n sc ds' w' ∧ Hpp.PI a b ds' ds ∧ (o = true → Hpp.Sin sc a b ds')
set_option maxHeartbeats 8000000 in
theorem pin66 {B : World} {blk cap : Nat} {sv : Value} {n : Nat} {sc : List Int} {ds : List Nat} {W : World} (h : So B blk cap sv n sc ds W) (hn : n ≤ 1048576) {a b m : Nat} (hm : ds.length = m) (hml : m ≤ 1048576) (ha : a < b) (hb : b ≤ m) (hlo : Hpp.Lo sc a b ds) :
    Calls Try.prog 66 #[.slice (some ⟨blk, 0, none⟩) m cap, .int .i64 a, .int .i64 b, cmpv sv] W fun e w' => PinOut B blk cap sv n sc ds a b e w' := by
  have HH := hid h
  have HM := hid hm
  have HLO := hid hlo
  have HND := hid h.nd
  clear h hm hlo
  obtain ⟨a1, ha1⟩ : ∃ q : Nat, (a : Int) + 1 = (q : Int) := ⟨a + 1, by omega⟩
  go_enter Try.func66, Try.ntmps66
  go_wp2
  go_loopw [9, 10] (fun iv Jv wr => ∃ (J i : Nat) (d1 : List Nat), J ≤ 5 ∧ a + 1 ≤ i ∧ i ≤ b ∧ iv = .int .i64 (i : Nat) ∧ Jv = .int .i64 (J : Nat) ∧ Hid (d1.length = m ∧ So B blk cap sv n sc d1 wr ∧ Hpp.PI a b d1 ds ∧ Hpp.Sin sc a i d1)) (fun _ Jv _ => 5 - (intOf Jv).toNat)
  case atStart => exact ⟨0, a1, ds, by omega, by omega, by omega, rfl, rfl, hid ⟨HM.out, HH.out, Hpp.PI.refl _ _ _, Hpp.Sin.nil _ _ _ _ (by omega)⟩⟩
  case round =>
    obtain ⟨J, i, d1, hJ, hi1, hi2, rfl, rfl, HR⟩ := hrel
    by_cases hJ5 : J < 5
    · have hJ5' : (J : Int) < 5 := by omega
      obtain ⟨wo, hwo⟩ : ∃ wo, wo = wr := ⟨wr, rfl⟩
      subst hwo
      go_wp2
      go_loopw [9] (fun iv wr => ∃ (i : Nat), a + 1 ≤ i ∧ i ≤ b ∧ iv = .int .i64 (i : Nat) ∧ Hid (So B blk cap sv n sc d1 wr ∧ Hpp.Sin sc a i d1)) (fun iv _ => b - (intOf iv).toNat)
      case atStart => exact ⟨i, hi1, hi2, rfl, hid ⟨HR.out.2.1, HR.out.2.2.2⟩⟩
      case round =>
        obtain ⟨i, hi1, hi2, rfl, HR2⟩ := hrel
        by_cases hib : i < b
        · have hib' : (i : Int) < b := by omega
          obtain ⟨i0, hi0⟩ : ∃ q : Nat, (i : Int) - 1 = (q : Int) := ⟨i - 1, by omega⟩
          have HS1 := hid HR2.out.1
          obtain ⟨c1, f1, l1⟩ := HS1.out.cells (k := i) (by rw [HR.out.1]; omega)
          obtain ⟨c2, f2, l2⟩ := HS1.out.cells (k := i0) (by rw [HR.out.1]; omega)
          have C := hid (HS1.out.cmp hn (i := i) (j := i0) (by rw [HR.out.1]; omega) (by rw [HR.out.1]; omega))
          have hm1 : (i : Int) < m := by omega
          have hm0 : (i0 : Int) < m := by omega
          have hw0 : IntKind.i64.wrap (i0 : Int) = i0 := i64_wrap_nat' (by omega)
          have hne1 : ¬ i = i0 := by omega
          have hne2 : ¬ i0 = i := by omega
          by_cases hb1 : Hpp.bef sc (d1.getD i 0) (d1.getD i0 0)
          · have hcf : Hpp.cf sc (d1.getD i 0) (d1.getD i0 0) < 0 := (Hpp.cf_lt _ _ _).2 hb1
            have HX := hid (fun q => (HS1.out.below (Drawn.below ⟨q, rfl⟩)).swap (W := wr.drewN q) (i := i) (j := i0) (by rw [HR.out.1]; omega) (by rw [HR.out.1]; omega))
            have HP2 := hid (show Hpp.PI a b (Hpp.swp d1 i i0) ds from (Hpp.PI.swp (by omega) (by omega) (by rw [HR.out.1]; exact hb)).trans HR.out.2.2.1)
            have HI2 := hid (show Hpp.InsI sc a i0 i0 (Hpp.swp d1 i i0) from Hpp.InsI.start ((HR2.out.2.less (by omega)).swp_out (by omega) (by omega) (by rw [HR.out.1]; omega) (by rw [HR.out.1]; omega)))
            have HL2 := hid (show (Hpp.swp d1 i i0).length = m by rw [Hpp.swp_len]; exact HR.out.1)
            clear hb1
            generalize Hpp.swp d1 i i0 = d2 at *
            generalize Hpp.cf sc (d1.getD i 0) (d1.getD i0 0) = r at *
            generalize d1.getD i 0 = zx at *
            generalize d1.getD i0 0 = zy at *
            have hcb : decide (r < 0) = true := decide_eq_true hcf
            clear hcf
            have hieq : ((i : Int) == (b : Int)) = false := by simp; omega
            by_cases h50 : b < a + 50
            · have h50' : (b : Int) - a < 50 := by omega
              go_wp2_with (fail)
              go_quiet ((go_at_call 46; exact Calls.quiet_of (C.out _ ⟨_, rfl⟩)))
              have HF := hid (show PinOut B blk cap sv n sc ds a b (.returned (.bool false)) (wr.drewN nq) from ⟨false, d1, rfl, HS1.out.below (Drawn.below ⟨nq, rfl⟩), HR.out.2.2.1, (fun h => by cases h)⟩)
              go_wp2
              go_ret
              exact HF.out
            · have h50' : ¬ (b : Int) - a < 50 := by omega
              go_wp2_with (fail)
              go_quiet ((go_at_call 46; exact Calls.quiet_of (C.out _ ⟨_, rfl⟩)))
              go_wp2_with (fail)
              go_region
              all_goals
                have HS2 := hid (HX.out (nq + 1))
                change Hid (So B blk cap sv n sc d2 (((wr.drewN (nq + 1)).setCell ⟨blk, i, none⟩ (.int .i64 ((zy : Int) + 1))).setCell ⟨blk, i0, none⟩ (.int .i64 ((zx : Int) + 1)))) at HS2
                generalize (((wr.drewN (nq + 1)).setCell ⟨blk, i, none⟩ (.int .i64 ((zy : Int) + 1))).setCell ⟨blk, i0, none⟩ (.int .i64 ((zx : Int) + 1))) = w2 at *
                clear C c1 c2 f1 f2 HX HS1 hcb hm1 hm0 hw0 hne1 hne2
                by_cases hia : a + 2 ≤ i
                · have hia' : (2 : Int) ≤ (i : Int) - a := by omega
                  obtain ⟨wo1, hwo1⟩ : ∃ wo, wo = w2 := ⟨w2, rfl⟩
                  go_wp2
                  go_loopw [11] (fun jv wr => ∃ (j : Nat) (d3 : List Nat), a ≤ j ∧ j ≤ i0 ∧ jv = .int .i64 (j : Nat) ∧ Hid (d3.length = m ∧ So B blk cap sv n sc d3 wr ∧ Hpp.PI a b d3 ds ∧ Hpp.InsI sc a i0 j d3)) (fun jv _ => (intOf jv).toNat)
                  case atStart => exact ⟨i0, _, by omega, Nat.le_refl _, rfl, hid ⟨HL2.out, HS2.out, HP2.out, HI2.out⟩⟩
                  case round =>
                    obtain ⟨j, d3, hj1, hj2, rfl, HR3⟩ := hrel
                    rcases Nat.eq_zero_or_pos j with hj0z | hj0z
                    · have hjn : ¬ (1 : Int) ≤ j := by omega
                      have HSI := hid (show Hpp.Sin sc a i d3 from by
                        have := HR3.out.2.2.2.done (.inl (by omega))
                        rwa [show i0 + 1 = i by omega] at this)
                      have HS3 := hid HR3.out.2.1
                      have HR9 := hid (show d3.length = m ∧ So B blk cap sv n sc d3 wr ∧ Hpp.PI a b d3 ds ∧ Hpp.Sin sc a i d3 from ⟨HR3.out.1, HS3.out, HR3.out.2.2.1, HSI.out⟩)
                      by_cases hbi : i + 2 ≤ b
                      · have hbi' : (2 : Int) ≤ (b : Int) - i := by omega
                        obtain ⟨i2, hi2⟩ : ∃ q : Nat, (i : Int) + 1 = (q : Int) := ⟨i + 1, by omega⟩
                        obtain ⟨wo2, hwo2⟩ : ∃ wo, wo = wr := ⟨wr, rfl⟩
                        go_wp2
                        go_loopw [12] (fun jv wr => ∃ (j : Nat) (d4 : List Nat), i + 1 ≤ j ∧ j ≤ b ∧ jv = .int .i64 (j : Nat) ∧ Hid (d4.length = m ∧ So B blk cap sv n sc d4 wr ∧ Hpp.PI a b d4 ds ∧ Hpp.Sin sc a i d4)) (fun jv _ => b + 1 - (intOf jv).toNat)
                        case atStart => first | exact ⟨i2, d3, by omega, by omega, rfl, HR9⟩ | exact ⟨i + 1, d3, by omega, by omega, by go_num, HR9⟩
                        case round =>
                          obtain ⟨j, d4, hj1, hj2, rfl, HR4⟩ := hrel
                          by_cases hjb : j < b
                          · have hjb' : (j : Int) < b := by omega
                            obtain ⟨j0, hj0⟩ : ∃ q : Nat, (j : Int) - 1 = (q : Int) := ⟨j - 1, by omega⟩
                            have HS4 := hid HR4.out.2.1
                            obtain ⟨c1, f1, l1⟩ := HS4.out.cells (k := j) (by rw [HR4.out.1]; omega)
                            obtain ⟨c2, f2, l2⟩ := HS4.out.cells (k := j0) (by rw [HR4.out.1]; omega)
                            have C := hid (HS4.out.cmp hn (i := j) (j := j0) (by rw [HR4.out.1]; omega) (by rw [HR4.out.1]; omega))
                            have hm1 : (j : Int) < m := by omega
                            have hm0 : (j0 : Int) < m := by omega
                            have hw0 : IntKind.i64.wrap (j0 : Int) = j0 := i64_wrap_nat' (by omega)
                            have hne1 : ¬ j = j0 := by omega
                            have hne2 : ¬ j0 = j := by omega
                            by_cases hb4 : Hpp.bef sc (d4.getD j 0) (d4.getD j0 0)
                            · have hcf : Hpp.cf sc (d4.getD j 0) (d4.getD j0 0) < 0 := (Hpp.cf_lt _ _ _).2 hb4
                              have HX := hid (fun q => (HS4.out.below (Drawn.below ⟨q, rfl⟩)).swap (W := wr.drewN q) (i := j) (j := j0) (by rw [HR4.out.1]; omega) (by rw [HR4.out.1]; omega))
                              have HP4 := hid (show Hpp.PI a b (Hpp.swp d4 j j0) ds from (Hpp.PI.swp (by omega) (by omega) (by rw [HR4.out.1]; exact hb)).trans HR4.out.2.2.1)
                              have HI4 := hid (HR4.out.2.2.2.swp_out (i := j) (j := j0) (by omega) (by omega) (by rw [HR4.out.1]; omega) (by rw [HR4.out.1]; omega))
                              clear hb4
                              generalize Hpp.cf sc (d4.getD j 0) (d4.getD j0 0) = r at *
                              generalize d4.getD j 0 = zx at *
                              generalize d4.getD j0 0 = zy at *
                              have hcb : decide (r < 0) = true := decide_eq_true hcf
                              clear hcf
                              go_wp2_with (fail)
                              go_quiet ((go_at_call 46; exact Calls.quiet_of (C.out _ ⟨_, rfl⟩)))
                              go_wp2_with (fail)
                              go_region
                              all_goals
                                have HX2 := hid (HX.out (nq + 1))
                                go_wp2
                                go_roundw
                                case rel => exact ⟨j + 1, _, by omega, by omega, by go_num, hid ⟨by rw [Hpp.swp_len]; exact HR4.out.1, HX2.out, HP4.out, HI4.out⟩⟩
                                case measure => simp only [intOf]; omega
                            · have hcf : ¬ Hpp.cf sc (d4.getD j 0) (d4.getD j0 0) < 0 := fun h => hb4 ((Hpp.cf_lt _ _ _).1 h)
                              clear hb4
                              generalize Hpp.cf sc (d4.getD j 0) (d4.getD j0 0) = r at *
                              generalize d4.getD j 0 = zx at *
                              generalize d4.getD j0 0 = zy at *
                              have hcb : decide (r < 0) = false := decide_eq_false hcf
                              clear hcf
                              go_wp2_with (fail)
                              go_quiet ((go_at_call 46; exact Calls.quiet_of (C.out _ ⟨_, rfl⟩)))
                              have HF := hid (HS4.out.below (Drawn.below ⟨nq, rfl⟩))
                              go_wp2
                              go_roundw
                              case rel => exact ⟨J + 1, i, d4, by omega, by omega, by omega, rfl, by go_num, hid ⟨HR4.out.1, HF.out, HR4.out.2.2.1, HR4.out.2.2.2⟩⟩
                              case measure => simp only [intOf]; omega
                          · have hjb' : ¬ (j : Int) < b := by omega
                            go_wp2
                            go_roundw
                            case rel => exact ⟨J + 1, i, d4, by omega, by omega, by omega, rfl, by go_num, hid ⟨HR4.out.1, HR4.out.2.1, HR4.out.2.2.1, HR4.out.2.2.2⟩⟩
                            case measure => simp only [intOf]; omega
                      · have hbi' : ¬ (2 : Int) ≤ (b : Int) - i := by omega
                        go_wp2
                        go_roundw
                        case rel => exact ⟨J + 1, i, d3, by omega, by omega, by omega, rfl, by go_num, hid ⟨HR9.out.1, HR9.out.2.1, HR9.out.2.2.1, HR9.out.2.2.2⟩⟩
                        case measure => simp only [intOf]; omega
                    · have hjn : (1 : Int) ≤ j := by omega
                      obtain ⟨j0, hj0⟩ : ∃ q : Nat, (j : Int) - 1 = (q : Int) := ⟨j - 1, by omega⟩
                      have HS3 := hid HR3.out.2.1
                      obtain ⟨c1, f1, l1⟩ := HS3.out.cells (k := j) (by rw [HR3.out.1]; omega)
                      obtain ⟨c2, f2, l2⟩ := HS3.out.cells (k := j0) (by rw [HR3.out.1]; omega)
                      have C := hid (HS3.out.cmp hn (i := j) (j := j0) (by rw [HR3.out.1]; omega) (by rw [HR3.out.1]; omega))
                      have hm1 : (j : Int) < m := by omega
                      have hm0 : (j0 : Int) < m := by omega
                      have hw0 : IntKind.i64.wrap (j0 : Int) = j0 := i64_wrap_nat' (by omega)
                      have hne1 : ¬ j = j0 := by omega
                      have hne2 : ¬ j0 = j := by omega
                      by_cases hb3 : Hpp.bef sc (d3.getD j 0) (d3.getD j0 0)
                      · have hcf : Hpp.cf sc (d3.getD j 0) (d3.getD j0 0) < 0 := (Hpp.cf_lt _ _ _).2 hb3
                        have hja : a ≤ j0 := by
                          rcases Nat.lt_or_ge j0 a with hlt | hge
                          · have h1 := (HLO.out.pi HR3.out.2.2.1 HND.out (by rw [HM.out]; exact hb)) (by omega) j (by omega) (by omega)
                            rw [show a - 1 = j0 by omega] at h1
                            exact absurd h1 (Hpp.bef_asym hb3)
                          · exact hge
                        have HX := hid (fun q => (HS3.out.below (Drawn.below ⟨q, rfl⟩)).swap (W := wr.drewN q) (i := j) (j := j0) (by rw [HR3.out.1]; omega) (by rw [HR3.out.1]; omega))
                        have HP3 := hid (show Hpp.PI a b (Hpp.swp d3 j j0) ds from (Hpp.PI.swp (by omega) (by omega) (by rw [HR3.out.1]; exact hb)).trans HR3.out.2.2.1)
                        have HI3 := hid (show Hpp.InsI sc a i0 j0 (Hpp.swp d3 j j0) from by
                          have e : j = j0 + 1 := by omega
                          have h1 := HR3.out.2.2.2
                          rw [e] at h1 hb3 ⊢
                          exact h1.step hja (by omega) (by rw [HR3.out.1]; omega) hb3)
                        clear hb3
                        generalize Hpp.cf sc (d3.getD j 0) (d3.getD j0 0) = r at *
                        generalize d3.getD j 0 = zx at *
                        generalize d3.getD j0 0 = zy at *
                        have hcb : decide (r < 0) = true := decide_eq_true hcf
                        clear hcf
                        go_wp2_with (fail)
                        go_quiet ((go_at_call 46; exact Calls.quiet_of (C.out _ ⟨_, rfl⟩)))
                        go_wp2_with (fail)
                        go_region
                        all_goals
                          have HX2 := hid (HX.out (nq + 1))
                          go_wp2
                          go_roundw
                          case rel => exact ⟨j0, _, by omega, by omega, rfl, hid ⟨by rw [Hpp.swp_len]; exact HR3.out.1, HX2.out, HP3.out, HI3.out⟩⟩
                          case measure => simp only [intOf]; omega
                      · have hcf : ¬ Hpp.cf sc (d3.getD j 0) (d3.getD j0 0) < 0 := fun h => hb3 ((Hpp.cf_lt _ _ _).1 h)
                        have HSI := hid (show Hpp.Sin sc a i d3 from by
                          have := HR3.out.2.2.2.done (by
                            by_cases e : j = a
                            · exact .inl e
                            · refine .inr (Hpp.of_not (fun e2 => by have := Hpp.nd_inj HR3.out.2.1.nd (by rw [HR3.out.1]; omega) (by rw [HR3.out.1]; omega) e2; omega) (by rw [show j - 1 = j0 by omega]; exact hb3)))
                          rwa [show i0 + 1 = i by omega] at this)
                        clear hb3
                        generalize Hpp.cf sc (d3.getD j 0) (d3.getD j0 0) = r at *
                        generalize d3.getD j 0 = zx at *
                        generalize d3.getD j0 0 = zy at *
                        have hcb : decide (r < 0) = false := decide_eq_false hcf
                        clear hcf
                        go_wp2_with (fail)
                        go_quiet ((go_at_call 46; exact Calls.quiet_of (C.out _ ⟨_, rfl⟩)))
                        have HF := hid (HS3.out.below (Drawn.below ⟨nq, rfl⟩))
                        generalize wr.drewN nq = w6 at *
                        clear C c1 c2 f1 f2 HS3 hm1 hm0 hw0 hne1 hne2 hj0
                        have HR9 := hid (show d3.length = m ∧ So B blk cap sv n sc d3 w6 ∧ Hpp.PI a b d3 ds ∧ Hpp.Sin sc a i d3 from ⟨HR3.out.1, HF.out, HR3.out.2.2.1, HSI.out⟩)
                        by_cases hbi : i + 2 ≤ b
                        · have hbi' : (2 : Int) ≤ (b : Int) - i := by omega
                          obtain ⟨i2, hi2⟩ : ∃ q : Nat, (i : Int) + 1 = (q : Int) := ⟨i + 1, by omega⟩
                          obtain ⟨wo2, hwo2⟩ : ∃ wo, wo = w6 := ⟨w6, rfl⟩
                          go_wp2
                          go_loopw [12] (fun jv wr => ∃ (j : Nat) (d4 : List Nat), i + 1 ≤ j ∧ j ≤ b ∧ jv = .int .i64 (j : Nat) ∧ Hid (d4.length = m ∧ So B blk cap sv n sc d4 wr ∧ Hpp.PI a b d4 ds ∧ Hpp.Sin sc a i d4)) (fun jv _ => b + 1 - (intOf jv).toNat)
                          case atStart => first | exact ⟨i2, d3, by omega, by omega, rfl, HR9⟩ | exact ⟨i + 1, d3, by omega, by omega, by go_num, HR9⟩
                          case round =>
                            obtain ⟨j, d4, hj1, hj2, rfl, HR4⟩ := hrel
                            by_cases hjb : j < b
                            · have hjb' : (j : Int) < b := by omega
                              obtain ⟨j0, hj0⟩ : ∃ q : Nat, (j : Int) - 1 = (q : Int) := ⟨j - 1, by omega⟩
                              have HS4 := hid HR4.out.2.1
                              obtain ⟨c1, f1, l1⟩ := HS4.out.cells (k := j) (by rw [HR4.out.1]; omega)
                              obtain ⟨c2, f2, l2⟩ := HS4.out.cells (k := j0) (by rw [HR4.out.1]; omega)
                              have C := hid (HS4.out.cmp hn (i := j) (j := j0) (by rw [HR4.out.1]; omega) (by rw [HR4.out.1]; omega))
                              have hm1 : (j : Int) < m := by omega
                              have hm0 : (j0 : Int) < m := by omega
                              have hw0 : IntKind.i64.wrap (j0 : Int) = j0 := i64_wrap_nat' (by omega)
                              have hne1 : ¬ j = j0 := by omega
                              have hne2 : ¬ j0 = j := by omega
                              by_cases hb4 : Hpp.bef sc (d4.getD j 0) (d4.getD j0 0)
                              · have hcf : Hpp.cf sc (d4.getD j 0) (d4.getD j0 0) < 0 := (Hpp.cf_lt _ _ _).2 hb4
                                have HX := hid (fun q => (HS4.out.below (Drawn.below ⟨q, rfl⟩)).swap (W := wr.drewN q) (i := j) (j := j0) (by rw [HR4.out.1]; omega) (by rw [HR4.out.1]; omega))
                                have HP4 := hid (show Hpp.PI a b (Hpp.swp d4 j j0) ds from (Hpp.PI.swp (by omega) (by omega) (by rw [HR4.out.1]; exact hb)).trans HR4.out.2.2.1)
                                have HI4 := hid (HR4.out.2.2.2.swp_out (i := j) (j := j0) (by omega) (by omega) (by rw [HR4.out.1]; omega) (by rw [HR4.out.1]; omega))
                                clear hb4
                                generalize Hpp.cf sc (d4.getD j 0) (d4.getD j0 0) = r at *
                                generalize d4.getD j 0 = zx at *
                                generalize d4.getD j0 0 = zy at *
                                have hcb : decide (r < 0) = true := decide_eq_true hcf
                                clear hcf
                                go_wp2_with (fail)
                                go_quiet ((go_at_call 46; exact Calls.quiet_of (C.out _ ⟨_, rfl⟩)))
                                go_wp2_with (fail)
                                go_region
                                all_goals
                                  have HX2 := hid (HX.out (nq + 1))
                                  go_wp2
                                  go_roundw
                                  case rel => exact ⟨j + 1, _, by omega, by omega, by go_num, hid ⟨by rw [Hpp.swp_len]; exact HR4.out.1, HX2.out, HP4.out, HI4.out⟩⟩
                                  case measure => simp only [intOf]; omega
                              · have hcf : ¬ Hpp.cf sc (d4.getD j 0) (d4.getD j0 0) < 0 := fun h => hb4 ((Hpp.cf_lt _ _ _).1 h)
                                clear hb4
                                generalize Hpp.cf sc (d4.getD j 0) (d4.getD j0 0) = r at *
                                generalize d4.getD j 0 = zx at *
                                generalize d4.getD j0 0 = zy at *
                                have hcb : decide (r < 0) = false := decide_eq_false hcf
                                clear hcf
                                go_wp2_with (fail)
                                go_quiet ((go_at_call 46; exact Calls.quiet_of (C.out _ ⟨_, rfl⟩)))
                                have HF := hid (HS4.out.below (Drawn.below ⟨nq, rfl⟩))
                                go_wp2
                                go_roundw
                                case rel => exact ⟨J + 1, i, d4, by omega, by omega, by omega, rfl, by go_num, hid ⟨HR4.out.1, HF.out, HR4.out.2.2.1, HR4.out.2.2.2⟩⟩
                                case measure => simp only [intOf]; omega
                            · have hjb' : ¬ (j : Int) < b := by omega
                              go_wp2
                              go_roundw
                              case rel => exact ⟨J + 1, i, d4, by omega, by omega, by omega, rfl, by go_num, hid ⟨HR4.out.1, HR4.out.2.1, HR4.out.2.2.1, HR4.out.2.2.2⟩⟩
                              case measure => simp only [intOf]; omega
                        · have hbi' : ¬ (2 : Int) ≤ (b : Int) - i := by omega
                          go_wp2
                          go_roundw
                          case rel => exact ⟨J + 1, i, d3, by omega, by omega, by omega, rfl, by go_num, hid ⟨HR9.out.1, HR9.out.2.1, HR9.out.2.2.1, HR9.out.2.2.2⟩⟩
                          case measure => simp only [intOf]; omega
                · have hia' : ¬ (2 : Int) ≤ (i : Int) - a := by omega
                  have HSI := hid (show Hpp.Sin sc a i d2 from Hpp.Sin.nil _ _ _ _ (by omega))
                  have HR9 := hid (show d2.length = m ∧ So B blk cap sv n sc d2 w2 ∧ Hpp.PI a b d2 ds ∧ Hpp.Sin sc a i d2 from ⟨HL2.out, HS2.out, HP2.out, HSI.out⟩)
                  by_cases hbi : i + 2 ≤ b
                  · have hbi' : (2 : Int) ≤ (b : Int) - i := by omega
                    obtain ⟨i2, hi2⟩ : ∃ q : Nat, (i : Int) + 1 = (q : Int) := ⟨i + 1, by omega⟩
                    obtain ⟨wo2, hwo2⟩ : ∃ wo, wo = w2 := ⟨w2, rfl⟩
                    go_wp2
                    go_loopw [12] (fun jv wr => ∃ (j : Nat) (d4 : List Nat), i + 1 ≤ j ∧ j ≤ b ∧ jv = .int .i64 (j : Nat) ∧ Hid (d4.length = m ∧ So B blk cap sv n sc d4 wr ∧ Hpp.PI a b d4 ds ∧ Hpp.Sin sc a i d4)) (fun jv _ => b + 1 - (intOf jv).toNat)
                    case atStart => first | exact ⟨i2, d2, by omega, by omega, rfl, HR9⟩ | exact ⟨i + 1, d2, by omega, by omega, by go_num, HR9⟩
                    case round =>
                      obtain ⟨j, d4, hj1, hj2, rfl, HR4⟩ := hrel
                      by_cases hjb : j < b
                      · have hjb' : (j : Int) < b := by omega
                        obtain ⟨j0, hj0⟩ : ∃ q : Nat, (j : Int) - 1 = (q : Int) := ⟨j - 1, by omega⟩
                        have HS4 := hid HR4.out.2.1
                        obtain ⟨c1, f1, l1⟩ := HS4.out.cells (k := j) (by rw [HR4.out.1]; omega)
                        obtain ⟨c2, f2, l2⟩ := HS4.out.cells (k := j0) (by rw [HR4.out.1]; omega)
                        have C := hid (HS4.out.cmp hn (i := j) (j := j0) (by rw [HR4.out.1]; omega) (by rw [HR4.out.1]; omega))
                        have hm1 : (j : Int) < m := by omega
                        have hm0 : (j0 : Int) < m := by omega
                        have hw0 : IntKind.i64.wrap (j0 : Int) = j0 := i64_wrap_nat' (by omega)
                        have hne1 : ¬ j = j0 := by omega
                        have hne2 : ¬ j0 = j := by omega
                        by_cases hb4 : Hpp.bef sc (d4.getD j 0) (d4.getD j0 0)
                        · have hcf : Hpp.cf sc (d4.getD j 0) (d4.getD j0 0) < 0 := (Hpp.cf_lt _ _ _).2 hb4
                          have HX := hid (fun q => (HS4.out.below (Drawn.below ⟨q, rfl⟩)).swap (W := wr.drewN q) (i := j) (j := j0) (by rw [HR4.out.1]; omega) (by rw [HR4.out.1]; omega))
                          have HP4 := hid (show Hpp.PI a b (Hpp.swp d4 j j0) ds from (Hpp.PI.swp (by omega) (by omega) (by rw [HR4.out.1]; exact hb)).trans HR4.out.2.2.1)
                          have HI4 := hid (HR4.out.2.2.2.swp_out (i := j) (j := j0) (by omega) (by omega) (by rw [HR4.out.1]; omega) (by rw [HR4.out.1]; omega))
                          clear hb4
                          generalize Hpp.cf sc (d4.getD j 0) (d4.getD j0 0) = r at *
                          generalize d4.getD j 0 = zx at *
                          generalize d4.getD j0 0 = zy at *
                          have hcb : decide (r < 0) = true := decide_eq_true hcf
                          clear hcf
                          go_wp2_with (fail)
                          go_quiet ((go_at_call 46; exact Calls.quiet_of (C.out _ ⟨_, rfl⟩)))
                          go_wp2_with (fail)
                          go_region
                          all_goals
                            have HX2 := hid (HX.out (nq + 1))
                            go_wp2
                            go_roundw
                            case rel => exact ⟨j + 1, _, by omega, by omega, by go_num, hid ⟨by rw [Hpp.swp_len]; exact HR4.out.1, HX2.out, HP4.out, HI4.out⟩⟩
                            case measure => simp only [intOf]; omega
                        · have hcf : ¬ Hpp.cf sc (d4.getD j 0) (d4.getD j0 0) < 0 := fun h => hb4 ((Hpp.cf_lt _ _ _).1 h)
                          clear hb4
                          generalize Hpp.cf sc (d4.getD j 0) (d4.getD j0 0) = r at *
                          generalize d4.getD j 0 = zx at *
                          generalize d4.getD j0 0 = zy at *
                          have hcb : decide (r < 0) = false := decide_eq_false hcf
                          clear hcf
                          go_wp2_with (fail)
                          go_quiet ((go_at_call 46; exact Calls.quiet_of (C.out _ ⟨_, rfl⟩)))
                          have HF := hid (HS4.out.below (Drawn.below ⟨nq, rfl⟩))
                          go_wp2
                          go_roundw
                          case rel => exact ⟨J + 1, i, d4, by omega, by omega, by omega, rfl, by go_num, hid ⟨HR4.out.1, HF.out, HR4.out.2.2.1, HR4.out.2.2.2⟩⟩
                          case measure => simp only [intOf]; omega
                      · have hjb' : ¬ (j : Int) < b := by omega
                        go_wp2
                        go_roundw
                        case rel => exact ⟨J + 1, i, d4, by omega, by omega, by omega, rfl, by go_num, hid ⟨HR4.out.1, HR4.out.2.1, HR4.out.2.2.1, HR4.out.2.2.2⟩⟩
                        case measure => simp only [intOf]; omega
                  · have hbi' : ¬ (2 : Int) ≤ (b : Int) - i := by omega
                    go_wp2
                    go_roundw
                    case rel => exact ⟨J + 1, i, d2, by omega, by omega, by omega, rfl, by go_num, hid ⟨HR9.out.1, HR9.out.2.1, HR9.out.2.2.1, HR9.out.2.2.2⟩⟩
                    case measure => simp only [intOf]; omega
          · have hcf : ¬ Hpp.cf sc (d1.getD i 0) (d1.getD i0 0) < 0 := fun h => hb1 ((Hpp.cf_lt _ _ _).1 h)
            have HN := hid (HR2.out.2.snoc (by omega) (by rw [show i - 1 = i0 by omega]; exact Hpp.of_not (fun e2 => by have := Hpp.nd_inj HR2.out.1.nd (by rw [HR.out.1]; omega) (by rw [HR.out.1]; omega) e2; omega) hb1))
            clear hb1
            generalize Hpp.cf sc (d1.getD i 0) (d1.getD i0 0) = r at *
            generalize d1.getD i 0 = zx at *
            generalize d1.getD i0 0 = zy at *
            have hcb : decide (r < 0) = false := decide_eq_false hcf
            clear hcf
            go_wp2_with (fail)
            go_quiet ((go_at_call 46; exact Calls.quiet_of (C.out _ ⟨_, rfl⟩)))
            have HF := hid (HS1.out.below (Drawn.below ⟨nq, rfl⟩))
            go_wp2
            go_roundw
            case rel => exact ⟨i + 1, by omega, by omega, by go_num, hid ⟨HF.out, HN.out⟩⟩
            case measure => simp only [intOf]; omega
        · have hib' : ¬ (i : Int) < b := by omega
          obtain rfl : i = b := by omega
          have HF := hid (fun q => show PinOut B blk cap sv n sc ds a i (.returned (.bool true)) (wr.drewN q) from ⟨true, d1, rfl, HR2.out.1.below (Drawn.below ⟨q, rfl⟩), HR.out.2.2.1, fun _ => HR2.out.2⟩)
          have hieq : ((i : Int) == (i : Int)) = true := by simp
          clear hib
          go_wp2_with (fail)
          go_quiet (fail)
          go_wp2
          go_ret
          exact HF.out _
    · have hJ5' : ¬ (J : Int) < 5 := by omega
      have HF := hid (show PinOut B blk cap sv n sc ds a b (.returned (.bool false)) wr from ⟨false, d1, rfl, HR.out.2.1, HR.out.2.2.1, (fun h => by cases h)⟩)
      go_wp2
      go_ret
      exact HF.out
end Go.Proofs.Ytjbnkkjihcoojaa
