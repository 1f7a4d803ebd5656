/- Sorting in place: sifting down, the heap's sort. -/
import Derived.Test.YtjbnkkjihcoojaaSoQ
import Derived.Test.YtjbnkkjihcoojaaSo
namespace Go.Proofs.Ytjbnkkjihcoojaa
open Go.RowKit Go.Maps
set_option linter.unusedVariables false
set_option maxRecDepth 100000

def SftOut (B : World) (blk cap : Nat) (sv : Value) (n : Nat) (sc : List Int) (ds : List Nat) (f lo m : Nat) (w' : World) : Prop := ∃ ds', So B blk cap sv n sc ds' w' ∧ Hpp.PI f (f + m) ds' ds ∧ Hpp.MO sc f lo m ds'
set_option maxHeartbeats 4000000 in
theorem sift73 {B : World} {blk cap : Nat} {sv : Value} {n : Nat} {sc : List Int} {ds : List Nat} {W : World} (h : So B blk cap sv n sc ds W) (hn : n ≤ 1048576) {f lo m M : Nat} (hM : ds.length = M) (hml : M ≤ 1048576) (hlo : lo ≤ M) (hfm : f + m ≤ M) (hmo : Hpp.MO sc f (lo + 1) m ds) :
    Calls Try.prog 73 #[.slice (some ⟨blk, 0, none⟩) M cap, .int .i64 lo, .int .i64 m, .int .i64 f, cmpv sv] W fun e w' => e = .returned (.tuple #[]) ∧ SftOut B blk cap sv n sc ds f lo m w' := by
  have HH := hid h
  have HM := hid hM
  have HO := hid hmo
  clear h hM hmo
  go_enter Try.func73, Try.ntmps73
  go_wp2
  go_loopw [10] (fun iv wr => ∃ (i : Nat) (d1 : List Nat), lo ≤ i ∧ i ≤ M ∧ iv = .int .i64 (i : Nat) ∧ Hid (d1.length = M ∧ So B blk cap sv n sc d1 wr ∧ Hpp.PI f (f + m) d1 ds ∧ Hpp.MD sc f lo m i d1)) (fun iv _ => M - (intOf iv).toNat)
  case atStart => exact ⟨lo, ds, Nat.le_refl _, hlo, rfl, hid ⟨HM.out, HH.out, Hpp.PI.refl _ _ _, Hpp.MD.start HO.out⟩⟩
  case round =>
    obtain ⟨i, d1, hi1, hi2, rfl, HR⟩ := hrel
    obtain ⟨j1, hj1⟩ : ∃ j1 : Nat, 2 * (i : Int) + 1 = (j1 : Int) := ⟨2 * i + 1, by omega⟩
    by_cases h1 : m ≤ j1
    · have h1' : (m : Int) ≤ j1 := by omega
      have HF := hid (show SftOut B blk cap sv n sc ds f lo m wr from ⟨d1, HR.out.2.1, HR.out.2.2.1, HR.out.2.2.2.done (fun k a b c => by omega)⟩)
      clear h1
      go_wp2
      go_end0
      exact ⟨rfl, HF.out⟩
    · have h1' : ¬ (m : Int) ≤ j1 := by omega
      obtain ⟨j2, hj2⟩ : ∃ j2 : Nat, (j1 : Int) + 1 = (j2 : Int) := ⟨j1 + 1, by omega⟩
      obtain ⟨p, hp⟩ : ∃ p : Nat, (f : Int) + i = (p : Int) := ⟨f + i, by omega⟩
      obtain ⟨p1, hp1⟩ : ∃ p : Nat, (f : Int) + j1 = (p : Int) := ⟨f + j1, by omega⟩
      obtain ⟨p2, hp2⟩ : ∃ p : Nat, (f : Int) + j2 = (p : Int) := ⟨f + j2, by omega⟩
      have hq2 : (p1 : Int) + 1 = (p2 : Int) := by omega
      have hpM : (p : Int) < M := by omega
      have hwp : IntKind.i64.wrap (p : Int) = p := i64_wrap_nat' (by omega)
      have hwp1 : IntKind.i64.wrap (p1 : Int) = p1 := i64_wrap_nat' (by omega)
      have hwp2 : IntKind.i64.wrap (p2 : Int) = p2 := i64_wrap_nat' (by omega)
      have hp1M : (p1 : Int) < M := by omega
      by_cases h2 : j2 < m
      · have h2' : (j2 : Int) < m := by omega
        have hp2M : (p2 : Int) < M := by omega
        obtain ⟨c1, _, l1⟩ := HR.out.2.1.cells (k := p1) (by rw [HR.out.1]; omega)
        obtain ⟨c2, _, l2⟩ := HR.out.2.1.cells (k := p2) (by rw [HR.out.1]; omega)
        have C2 := hid (HR.out.2.1.cmp hn (i := p1) (j := p2) (by rw [HR.out.1]; omega) (by rw [HR.out.1]; omega))
        by_cases hb2 : Hpp.bef sc (d1.getD p1 0) (d1.getD p2 0)
        · have hcf2 : Hpp.cf sc (d1.getD p1 0) (d1.getD p2 0) < 0 := (Hpp.cf_lt _ _ _).2 hb2
          have HOJ := hid (show ∀ k, 1 ≤ k → k < m → (k - 1) / 2 = i → ¬ Hpp.bef sc (d1.getD p2 0) (d1.getD (f + k) 0) from fun k h1 h2 h3 => by
            have : f + k = p1 ∨ f + k = p2 := by omega
            rcases this with e | e
            · rw [e]; exact Hpp.bef_asym hb2
            · rw [e]; exact Hpp.bef_irr _ _)
          obtain ⟨x1, hx1⟩ : ∃ x1, d1.getD p1 0 = x1 := ⟨_, rfl⟩
          obtain ⟨x2, hx2⟩ : ∃ x2, d1.getD p2 0 = x2 := ⟨_, rfl⟩
          rw [hx1] at c1 C2 hcf2
          rw [hx2] at c2 C2 hcf2
          generalize Hpp.cf sc x1 x2 = r2 at *
          have hcb2 : decide (r2 < 0) = true := decide_eq_true hcf2
          clear hb2 hx1 hx2 hcf2
          go_wp2_with (fail)
          go_quiet ((go_at_call 46; exact Calls.quiet_of (C2.out _ ⟨_, rfl⟩)))
          have H2 := hid (HR.out.2.1.below (Drawn.below ⟨nq, rfl⟩))
          generalize wr.drewN nq = w2 at *
          clear C2 c1 c2
          obtain ⟨cp, fp, lp⟩ := H2.out.cells (k := p) (by rw [HR.out.1]; omega)
          obtain ⟨cj, fj, lj⟩ := H2.out.cells (k := p2) (by rw [HR.out.1]; omega)
          have C3 := hid (H2.out.cmp hn (i := p) (j := p2) (by rw [HR.out.1]; omega) (by rw [HR.out.1]; omega))
          have HS := hid (fun q => (H2.out.below (Drawn.below ⟨q, rfl⟩)).swap (W := w2.drewN q) (i := p) (j := p2) (by rw [HR.out.1]; omega) (by rw [HR.out.1]; omega))
          by_cases hb3 : Hpp.bef sc (d1.getD p 0) (d1.getD p2 0)
          · have hcf : Hpp.cf sc (d1.getD p 0) (d1.getD p2 0) < 0 := (Hpp.cf_lt _ _ _).2 hb3
            have HN := hid (show Hpp.MD sc f lo m j2 (Hpp.swp d1 p p2) from by
              have h1 := HR.out.2.2.2.step hi1 (j := j2) (by omega) (by omega) (by omega) (by rw [HR.out.1]; exact hfm) (by rw [show f + i = p by omega, show f + j2 = p2 by omega]; exact hb3) (fun k a b c => by rw [show f + j2 = p2 by omega]; exact HOJ.out k a b c)
              rwa [show f + i = p by omega, show f + j2 = p2 by omega] at h1)
            have HP := hid (show Hpp.PI f (f + m) (Hpp.swp d1 p p2) ds from (Hpp.PI.swp (by omega) (by omega) (by rw [HR.out.1]; exact hfm)).trans HR.out.2.2.1)
            generalize Hpp.cf sc (d1.getD p 0) (d1.getD p2 0) = r at *
            generalize d1.getD p 0 = x at *
            generalize d1.getD p2 0 = y at *
            have hcb : decide (r < 0) = true := decide_eq_true hcf
            clear hb3 hcf
            go_wp2_with (fail)
            go_quiet ((go_at_call 46; exact Calls.quiet_of (C3.out _ ⟨_, rfl⟩)))
            have hne1 : ¬ p = p2 := by omega
            have hne2 : ¬ p2 = p := by omega
            go_wp2_with (fail)
            go_region
            all_goals
              have HS2 := hid (HS.out (nq + 1))
              go_wp2
              go_roundw
              case rel => exact ⟨j2, _, by omega, by omega, rfl, hid ⟨by rw [Hpp.swp_len]; exact HR.out.1, HS2.out, HP.out, HN.out⟩⟩
              case measure => simp only [intOf]; omega
          · have hcf : ¬ Hpp.cf sc (d1.getD p 0) (d1.getD p2 0) < 0 := fun h => hb3 ((Hpp.cf_lt _ _ _).1 h)
            have HN := hid (show Hpp.MO sc f lo m d1 from HR.out.2.2.2.done (fun k a b c => by
              rw [show f + i = p by omega]
              exact Hpp.not_trans (HOJ.out k a b c) hb3))
            generalize Hpp.cf sc (d1.getD p 0) (d1.getD p2 0) = r at *
            generalize d1.getD p 0 = x at *
            generalize d1.getD p2 0 = y at *
            have hcb : decide (r < 0) = false := decide_eq_false hcf
            clear hb3 HS hcf
            go_wp2_with (fail)
            go_quiet ((go_at_call 46; exact Calls.quiet_of (C3.out _ ⟨_, rfl⟩)))
            have HF := hid (show SftOut B blk cap sv n sc ds f lo m (w2.drewN nq) from ⟨d1, H2.out.below (Drawn.below ⟨nq, rfl⟩), HR.out.2.2.1, HN.out⟩)
            go_wp2
            first | go_end0 | (refine bodyPost_ret (results_none rfl _ _ _) rfl ?_)
            exact ⟨rfl, HF.out⟩
        · have hcf2 : ¬ Hpp.cf sc (d1.getD p1 0) (d1.getD p2 0) < 0 := fun h => hb2 ((Hpp.cf_lt _ _ _).1 h)
          have HOJ := hid (show ∀ k, 1 ≤ k → k < m → (k - 1) / 2 = i → ¬ Hpp.bef sc (d1.getD p1 0) (d1.getD (f + k) 0) from fun k h1 h2 h3 => by
            have : f + k = p1 ∨ f + k = p2 := by omega
            rcases this with e | e
            · rw [e]; exact Hpp.bef_irr _ _
            · rw [e]; exact hb2)
          obtain ⟨x1, hx1⟩ : ∃ x1, d1.getD p1 0 = x1 := ⟨_, rfl⟩
          obtain ⟨x2, hx2⟩ : ∃ x2, d1.getD p2 0 = x2 := ⟨_, rfl⟩
          rw [hx1] at c1 C2 hcf2
          rw [hx2] at c2 C2 hcf2
          generalize Hpp.cf sc x1 x2 = r2 at *
          have hcb2 : decide (r2 < 0) = false := decide_eq_false hcf2
          clear hb2 hx1 hx2 hcf2
          go_wp2_with (fail)
          go_quiet ((go_at_call 46; exact Calls.quiet_of (C2.out _ ⟨_, rfl⟩)))
          have H2 := hid (HR.out.2.1.below (Drawn.below ⟨nq, rfl⟩))
          generalize wr.drewN nq = w2 at *
          clear C2 c1 c2
          obtain ⟨cp, fp, lp⟩ := H2.out.cells (k := p) (by rw [HR.out.1]; omega)
          obtain ⟨cj, fj, lj⟩ := H2.out.cells (k := p1) (by rw [HR.out.1]; omega)
          have C3 := hid (H2.out.cmp hn (i := p) (j := p1) (by rw [HR.out.1]; omega) (by rw [HR.out.1]; omega))
          have HS := hid (fun q => (H2.out.below (Drawn.below ⟨q, rfl⟩)).swap (W := w2.drewN q) (i := p) (j := p1) (by rw [HR.out.1]; omega) (by rw [HR.out.1]; omega))
          by_cases hb3 : Hpp.bef sc (d1.getD p 0) (d1.getD p1 0)
          · have hcf : Hpp.cf sc (d1.getD p 0) (d1.getD p1 0) < 0 := (Hpp.cf_lt _ _ _).2 hb3
            have HN := hid (show Hpp.MD sc f lo m j1 (Hpp.swp d1 p p1) from by
              have h1 := HR.out.2.2.2.step hi1 (j := j1) (by omega) (by omega) (by omega) (by rw [HR.out.1]; exact hfm) (by rw [show f + i = p by omega, show f + j1 = p1 by omega]; exact hb3) (fun k a b c => by rw [show f + j1 = p1 by omega]; exact HOJ.out k a b c)
              rwa [show f + i = p by omega, show f + j1 = p1 by omega] at h1)
            have HP := hid (show Hpp.PI f (f + m) (Hpp.swp d1 p p1) ds from (Hpp.PI.swp (by omega) (by omega) (by rw [HR.out.1]; exact hfm)).trans HR.out.2.2.1)
            generalize Hpp.cf sc (d1.getD p 0) (d1.getD p1 0) = r at *
            generalize d1.getD p 0 = x at *
            generalize d1.getD p1 0 = y at *
            have hcb : decide (r < 0) = true := decide_eq_true hcf
            clear hb3 hcf
            go_wp2_with (fail)
            go_quiet ((go_at_call 46; exact Calls.quiet_of (C3.out _ ⟨_, rfl⟩)))
            have hne1 : ¬ p = p1 := by omega
            have hne2 : ¬ p1 = p := by omega
            go_wp2_with (fail)
            go_region
            all_goals
              have HS2 := hid (HS.out (nq + 1))
              go_wp2
              go_roundw
              case rel => exact ⟨j1, _, by omega, by omega, rfl, hid ⟨by rw [Hpp.swp_len]; exact HR.out.1, HS2.out, HP.out, HN.out⟩⟩
              case measure => simp only [intOf]; omega
          · have hcf : ¬ Hpp.cf sc (d1.getD p 0) (d1.getD p1 0) < 0 := fun h => hb3 ((Hpp.cf_lt _ _ _).1 h)
            have HN := hid (show Hpp.MO sc f lo m d1 from HR.out.2.2.2.done (fun k a b c => by
              rw [show f + i = p by omega]
              exact Hpp.not_trans (HOJ.out k a b c) hb3))
            generalize Hpp.cf sc (d1.getD p 0) (d1.getD p1 0) = r at *
            generalize d1.getD p 0 = x at *
            generalize d1.getD p1 0 = y at *
            have hcb : decide (r < 0) = false := decide_eq_false hcf
            clear hb3 HS hcf
            go_wp2_with (fail)
            go_quiet ((go_at_call 46; exact Calls.quiet_of (C3.out _ ⟨_, rfl⟩)))
            have HF := hid (show SftOut B blk cap sv n sc ds f lo m (w2.drewN nq) from ⟨d1, H2.out.below (Drawn.below ⟨nq, rfl⟩), HR.out.2.2.1, HN.out⟩)
            go_wp2
            first | go_end0 | (refine bodyPost_ret (results_none rfl _ _ _) rfl ?_)
            exact ⟨rfl, HF.out⟩
      · have h2' : ¬ (j2 : Int) < m := by omega
        have HOJ := hid (show ∀ k, 1 ≤ k → k < m → (k - 1) / 2 = i → ¬ Hpp.bef sc (d1.getD p1 0) (d1.getD (f + k) 0) from fun k h1 h2 h3 => by
          rw [show f + k = p1 by omega]; exact Hpp.bef_irr _ _)
        go_wp2_with (fail)
        go_quiet (fail)
        have H2 := hid (HR.out.2.1.below (Drawn.below ⟨nq, rfl⟩))
        generalize wr.drewN nq = w2 at *
        obtain ⟨cp, fp, lp⟩ := H2.out.cells (k := p) (by rw [HR.out.1]; omega)
        obtain ⟨cj, fj, lj⟩ := H2.out.cells (k := p1) (by rw [HR.out.1]; omega)
        have C3 := hid (H2.out.cmp hn (i := p) (j := p1) (by rw [HR.out.1]; omega) (by rw [HR.out.1]; omega))
        have HS := hid (fun q => (H2.out.below (Drawn.below ⟨q, rfl⟩)).swap (W := w2.drewN q) (i := p) (j := p1) (by rw [HR.out.1]; omega) (by rw [HR.out.1]; omega))
        by_cases hb3 : Hpp.bef sc (d1.getD p 0) (d1.getD p1 0)
        · have hcf : Hpp.cf sc (d1.getD p 0) (d1.getD p1 0) < 0 := (Hpp.cf_lt _ _ _).2 hb3
          have HN := hid (show Hpp.MD sc f lo m j1 (Hpp.swp d1 p p1) from by
            have h1 := HR.out.2.2.2.step hi1 (j := j1) (by omega) (by omega) (by omega) (by rw [HR.out.1]; exact hfm) (by rw [show f + i = p by omega, show f + j1 = p1 by omega]; exact hb3) (fun k a b c => by rw [show f + j1 = p1 by omega]; exact HOJ.out k a b c)
            rwa [show f + i = p by omega, show f + j1 = p1 by omega] at h1)
          have HP := hid (show Hpp.PI f (f + m) (Hpp.swp d1 p p1) ds from (Hpp.PI.swp (by omega) (by omega) (by rw [HR.out.1]; exact hfm)).trans HR.out.2.2.1)
          generalize Hpp.cf sc (d1.getD p 0) (d1.getD p1 0) = r at *
          generalize d1.getD p 0 = x at *
          generalize d1.getD p1 0 = y at *
          have hcb : decide (r < 0) = true := decide_eq_true hcf
          clear hb3 hcf
          go_wp2_with (fail)
          go_quiet ((go_at_call 46; exact Calls.quiet_of (C3.out _ ⟨_, rfl⟩)))
          have hne1 : ¬ p = p1 := by omega
          have hne2 : ¬ p1 = p := by omega
          go_wp2_with (fail)
          go_region
          all_goals
            have HS2 := hid (HS.out (nq + 1))
            go_wp2
            go_roundw
            case rel => exact ⟨j1, _, by omega, by omega, rfl, hid ⟨by rw [Hpp.swp_len]; exact HR.out.1, HS2.out, HP.out, HN.out⟩⟩
            case measure => simp only [intOf]; omega
        · have hcf : ¬ Hpp.cf sc (d1.getD p 0) (d1.getD p1 0) < 0 := fun h => hb3 ((Hpp.cf_lt _ _ _).1 h)
          have HN := hid (show Hpp.MO sc f lo m d1 from HR.out.2.2.2.done (fun k a b c => by
            rw [show f + i = p by omega]
            exact Hpp.not_trans (HOJ.out k a b c) hb3))
          generalize Hpp.cf sc (d1.getD p 0) (d1.getD p1 0) = r at *
          generalize d1.getD p 0 = x at *
          generalize d1.getD p1 0 = y at *
          have hcb : decide (r < 0) = false := decide_eq_false hcf
          clear hb3 HS hcf
          go_wp2_with (fail)
          go_quiet ((go_at_call 46; exact Calls.quiet_of (C3.out _ ⟨_, rfl⟩)))
          have HF := hid (show SftOut B blk cap sv n sc ds f lo m (w2.drewN nq) from ⟨d1, H2.out.below (Drawn.below ⟨nq, rfl⟩), HR.out.2.2.1, HN.out⟩)
          go_wp2
          first | go_end0 | (refine bodyPost_ret (results_none rfl _ _ _) rfl ?_)
          exact ⟨rfl, HF.out⟩
-- end of sift73
end Go.Proofs.Ytjbnkkjihcoojaa
