/- Sorting in place: all together. -/
import Derived.Test.YtjbnkkjihcoojaaPar
import Derived.Test.YtjbnkkjihcoojaaPin
import Derived.Test.YtjbnkkjihcoojaaPiv
import Derived.Test.YtjbnkkjihcoojaaHst
import Derived.Test.YtjbnkkjihcoojaaOrc
import Derived.Deep.DeepCutAuto
set_option linter.unusedVariables false
namespace Hpp
/-- Parted, and the left part turned about: still parted. -/
theorem Parts.left {s : List Int} {a b p : Nat} {ds ds' : List Nat} (h : Parts s a b p ds) (hp : PI a p ds' ds) (hd : ds.Nodup) (hl : b ≤ ds.length) (hpb : p < b) : Parts s a b p ds' := by
  refine ⟨fun k h1 h2 => ?_, fun k h1 h2 => ?_⟩
  · obtain ⟨j, hj, e⟩ := hp.from hd (by omega) ⟨h1, h2⟩
    rw [e, hp.2 p (by omega)]
    exact h.1 j hj.1 hj.2
  · rw [hp.2 p (by omega), hp.2 k (by omega)]
    exact h.2 k h1 h2
theorem Parts.right {s : List Int} {a b p : Nat} {ds ds' : List Nat} (h : Parts s a b p ds) (hp : PI (p + 1) b ds' ds) (hd : ds.Nodup) (hl : b ≤ ds.length) : Parts s a b p ds' := by
  refine ⟨fun k h1 h2 => ?_, fun k h1 h2 => ?_⟩
  · rw [hp.2 p (by omega), hp.2 k (by omega)]
    exact h.1 k h1 h2
  · obtain ⟨j, hj, e⟩ := hp.from hd hl (k := k) (by omega)
    rw [e, hp.2 p (by omega)]
    exact h.2 j (by omega) hj.2
theorem Parts.lo {s : List Int} {a b p : Nat} {ds : List Nat} (h : Parts s a b p ds) : Lo s (p + 1) b ds := fun h1 k hk1 hk2 => by
  rw [Nat.add_sub_cancel]
  exact h.2 k (by omega) hk2
/-- Both parts in order: all in order. -/
theorem Parts.sin {s : List Int} {a b p : Nat} {ds : List Nat} (h : Parts s a b p ds) (h1 : Sin s a p ds) (h2 : Sin s (p + 1) b ds) : Sin s a b ds := by
  intro x y hx hxy hy
  by_cases e1 : y < p
  · exact h1 x y hx hxy e1
  · by_cases e2 : x < p
    · by_cases e3 : y = p
      · rw [e3]; exact h.1 x hx e2
      · exact bef_trans (h.1 x hx e2) (h.2 y (by omega) hy)
    · by_cases e3 : x = p
      · rw [e3]; exact h.2 y (by omega) hy
      · exact h2 x y (by omega) hxy hy
theorem Lo.left {s : List Int} {a b p : Nat} {ds : List Nat} (h : Lo s a b ds) (hp : p ≤ b) : Lo s a p ds := fun h1 k hk1 hk2 => h h1 k hk1 (by omega)
theorem Sin.pi {s : List Int} {a b c d : Nat} {ds ds' : List Nat} (h : Sin s a b ds) (hp : PI c d ds' ds) (hcd : b ≤ c ∨ d ≤ a) : Sin s a b ds' := fun p q h1 h2 h3 => by
  rw [hp.2 p (by omega), hp.2 q (by omega)]
  exact h p q h1 h2 h3
/-- In order, but for what lies between a' and b'. -/
def OutS (s : List Int) (a b a' b' : Nat) (ds : List Nat) : Prop := ∀ p q, a ≤ p → p < q → q < b → (p < a' ∨ b' ≤ q) → bef s (ds.getD p 0) (ds.getD q 0)
theorem OutS.start (s : List Int) (a b : Nat) (ds : List Nat) : OutS s a b a b ds := fun p q h1 h2 h3 h4 => by omega
theorem OutS.pi {s : List Int} {a b a' b' : Nat} {ds ds' : List Nat} (h : OutS s a b a' b' ds) (hp : PI a' b' ds' ds) (hd : ds.Nodup) (hl : b' ≤ ds.length) (ha : a ≤ a') (hb : b' ≤ b) : OutS s a b a' b' ds' := by
  intro p q h1 h2 h3 h4
  by_cases ep : a' ≤ p ∧ p < b'
  · obtain ⟨j, hj, e⟩ := hp.from hd hl ep
    rw [e, hp.2 q (by omega)]
    exact h j q (by omega) (by omega) h3 (by omega)
  · rw [hp.2 p (by omega)]
    by_cases eq : a' ≤ q ∧ q < b'
    · obtain ⟨j, hj, e⟩ := hp.from hd hl eq
      rw [e]
      exact h p j h1 (by omega) (by omega) (by omega)
    · rw [hp.2 q (by omega)]
      exact h p q h1 h2 h3 h4
theorem OutS.left {s : List Int} {a b a' b' p : Nat} {ds : List Nat} (h : OutS s a b a' b' ds) (hP : Parts s a' b' p ds) (hS : Sin s a' p ds) (hp : a' ≤ p ∧ p < b') : OutS s a b (p + 1) b' ds := by
  intro x y h1 h2 h3 h4
  by_cases e1 : x < a' ∨ b' ≤ y
  · exact h x y h1 h2 h3 e1
  · by_cases e2 : x < p
    · by_cases e3 : y < p
      · exact hS x y (by omega) h2 e3
      · by_cases e4 : y = p
        · rw [e4]; exact hP.1 x (by omega) e2
        · exact bef_trans (hP.1 x (by omega) e2) (hP.2 y (by omega) (by omega))
    · have : x = p := by omega
      rw [this]; exact hP.2 y (by omega) (by omega)
theorem OutS.right {s : List Int} {a b a' b' p : Nat} {ds : List Nat} (h : OutS s a b a' b' ds) (hP : Parts s a' b' p ds) (hS : Sin s (p + 1) b' ds) (hp : a' ≤ p ∧ p < b') : OutS s a b a' p ds := by
  intro x y h1 h2 h3 h4
  by_cases e1 : x < a' ∨ b' ≤ y
  · exact h x y h1 h2 h3 e1
  · by_cases e2 : p < x
    · exact hS x y (by omega) h2 (by omega)
    · by_cases e4 : x = p
      · rw [e4]; exact hP.2 y (by omega) (by omega)
      · by_cases e5 : y = p
        · rw [e5]; exact hP.1 x (by omega) (by omega)
        · exact bef_trans (hP.1 x (by omega) (by omega)) (hP.2 y (by omega) (by omega))
theorem OutS.fin {s : List Int} {a b a' b' : Nat} {ds : List Nat} (h : OutS s a b a' b' ds) (hS : Sin s a' b' ds) : Sin s a b ds := by
  intro p q h1 h2 h3
  by_cases e : p < a' ∨ b' ≤ q
  · exact h p q h1 h2 h3 e
  · exact hS p q (by omega) h2 (by omega)
end Hpp
namespace Go.Proofs.Ytjbnkkjihcoojaa
open Go.RowKit Go.Maps
set_option linter.unusedVariables false
set_option maxRecDepth 100000

/-- On the way: what is left to be sorted lies between a' and b'. -/
structure Sd (B : World) (blk cap : Nat) (sv : Value) (n : Nat) (sc : List Int) (ds : List Nat) (m a b a' b' : Nat) (d : List Nat) (w : World) : Prop where
  len : d.length = m
  so : So B blk cap sv n sc d w
  pi : Hpp.PI a b d ds
  out : Hpp.OutS sc a b a' b' d
  lo : Hpp.Lo sc a' b' d
theorem Sd.on {B : World} {blk cap : Nat} {sv : Value} {n : Nat} {sc : List Int} {ds : List Nat} {m a b a' b' : Nat} {d d' : List Nat} {w w' : World} (h : Sd B blk cap sv n sc ds m a b a' b' d w) (hs : So B blk cap sv n sc d' w') (hp : Hpp.PI a' b' d' d) (ha : a ≤ a') (hb : b' ≤ b) (hm : b' ≤ m) : Sd B blk cap sv n sc ds m a b a' b' d' w' :=
  ⟨hp.len.trans h.len, hs, (hp.wide ha hb).trans h.pi, h.out.pi hp h.so.nd (by rw [h.len]; exact hm) ha hb, h.lo.pi hp h.so.nd (by rw [h.len]; exact hm)⟩
theorem Sd.fin {B : World} {blk cap : Nat} {sv : Value} {n : Nat} {sc : List Int} {ds : List Nat} {m a b a' b' : Nat} {d : List Nat} {w : World} (h : Sd B blk cap sv n sc ds m a b a' b' d w) (hs : Hpp.Sin sc a' b' d) : InsOut B blk cap sv n sc ds a b w := ⟨d, h.so, h.pi, h.out.fin hs⟩
/-- What the sort leaves of a range. -/
abbrev Pd54 (k : Nat) : Prop := ∀ {B : World} {blk cap : Nat} {sv : Value} {n : Nat} {sc : List Int} {ds : List Nat} {W : World}, So B blk cap sv n sc ds W → n ≤ 1048576 → ∀ {a b m : Nat}, ds.length = m → m ≤ 1048576 → a ≤ b → b ≤ m → b - a ≤ k → Hpp.Lo sc a b ds → ∀ lim : Nat, lim ≤ 1000 →
    Calls Try.prog 54 #[.slice (some ⟨blk, 0, none⟩) m cap, .int .i64 a, .int .i64 b, .int .i64 lim, cmpv sv] W fun e w' => e = .returned (.tuple #[]) ∧ InsOut B blk cap sv n sc ds a b w'
set_option maxHeartbeats 8000000 in
theorem pdq_step (k : Nat) (ih : ∀ k', k' < k → Pd54 k') : Pd54 k := by
  intro B blk cap sv n sc ds W h hn a b m hm hml hab hb hk hlo lim hlim
  have HH := hid h
  have HM := hid hm
  have HLO := hid hlo
  have HND := hid h.nd
  clear h hm hlo
  go_enter Try.func54, Try.ntmps54
  go_wp2
  go_loopw [1, 2, 3, 10, 11] (fun av bv lv wbv wpv wr => ∃ (a' b' l : Nat) (wb wp : Bool) (d1 : List Nat), a ≤ a' ∧ a' ≤ b' ∧ b' ≤ b ∧ l ≤ 1000 ∧ av = .int .i64 (a' : Nat) ∧ bv = .int .i64 (b' : Nat) ∧ lv = .int .i64 (l : Nat) ∧ wbv = .bool wb ∧ wpv = .bool wp ∧ Hid (Sd B blk cap sv n sc ds m a b a' b' d1 wr)) (fun av bv _ _ _ _ => (intOf bv - intOf av).toNat)
  case atStart => exact ⟨a, b, lim, true, true, ds, Nat.le_refl _, hab, Nat.le_refl _, hlim, rfl, rfl, rfl, rfl, rfl, hid ⟨HM.out, HH.out, Hpp.PI.refl _ _ _, Hpp.OutS.start _ _ _ _, HLO.out⟩⟩
  case round =>
    obtain ⟨a', b', l, wb, wp, d1, ha1, hab1, hb1, hl, rfl, rfl, rfl, rfl, rfl, HR⟩ := hrel
    by_cases h12 : b' ≤ a' + 12
    · have h12' : (b' : Int) - a' ≤ 12 := by omega
      have C := hid (ins61 HR.out.so hn HR.out.len hml hab1 (by omega))
      go_wp2_with (go_at_call 61; refine C.out.mono ?_; rintro e w4 ⟨rfl, d4, k1, k2, k3⟩; have H4 := hid ((HR.out.on k1 k2 ha1 hb1 (by omega)).fin k3); clear k1 k2 k3)
      refine bodyPost_ret (results_none rfl _ _ _) rfl ?_
      exact ⟨rfl, H4.out⟩
    · obtain ⟨t, ht⟩ : ∃ t : Nat, (b' : Int) - a' = (t : Int) := ⟨b' - a', by omega⟩
      have h12' : ¬ (t : Int) ≤ 12 := by omega
      rcases Nat.eq_zero_or_pos l with hl0 | hl0
      · subst hl0
        have C := hid (hsort62 HR.out.so hn (a := a') (b := b') HR.out.len hml (by omega) (by omega))
        go_wp2_with (go_at_call 62; refine C.out.mono ?_; rintro e w4 ⟨rfl, d4, k1, k2, k3⟩; have H4 := hid ((HR.out.on k1 k2 ha1 hb1 (by omega)).fin k3); clear k1 k2 k3)
        refine bodyPost_ret (results_none rfl _ _ _) rfl ?_
        exact ⟨rfl, H4.out⟩
      · have hlz : (((l : Nat) : Int) == 0) = false := by simp; omega
        have hlz' : ¬ ((l : Nat) : Int) = 0 := by omega
        obtain ⟨l0, hl1⟩ : ∃ q : Nat, (l : Int) - 1 = (q : Int) := ⟨l - 1, by omega⟩
        go_upto_if 39 with (fail)
        go_cut [3] (fun lv w => ∃ (l' : Nat) (d2 : List Nat), l' ≤ 1000 ∧ lv = .int .i64 (l' : Nat) ∧ Hid (Sd B blk cap sv n sc ds m a b a' b' d2 w))
        case first =>
          cases wb
          · have C := hid (brk63 HR.out.so hn (a := a') (b := b') HR.out.len hml (by omega) (by omega))
            go_wp2_with (go_at_call 63; refine C.out.mono ?_; rintro e w4 ⟨rfl, d4, k1, k2⟩; have H4 := hid (HR.out.on k1 k2 ha1 hb1 (by omega)); clear k1 k2)
            go_meet
            exact ⟨l0, d4, by omega, rfl, H4⟩
          · go_wp2
            go_meet
            exact ⟨l, d1, hl, rfl, HR⟩
        case rest =>
          clear HR hl0 hlz hlz' hl1
          obtain ⟨l', d2, hl', rfl, HR⟩ := hcut
          have CP := hid (pivot64 HR.out.so hn (a := a') (b := b') HR.out.len hml (by omega) (by omega))
          go_wp2_with (fail)
          go_at_call 64
          refine CP.out.mono ?_
          rintro e w5 ⟨p, tt, hp, htt, rfl, h5⟩
          have HR5 := hid (HR.out.on h5 (Hpp.PI.refl _ _ _) ha1 hb1 (by omega))
          clear h5 CP HR
          go_upto_if 56 with (fail)
          go_cut [13, 14] (fun pv tv w => ∃ (p' t' : Nat) (d3 : List Nat), (a' ≤ p' ∧ p' < b') ∧ t' ≤ 2 ∧ pv = .int .i64 (p' : Nat) ∧ tv = .int .i64 (t' : Nat) ∧ Hid (Sd B blk cap sv n sc ds m a b a' b' d3 w))
          case first =>
            by_cases h2 : tt = 2
            · subst h2
              have CV := hid (rev65 HR5.out.so hn HR5.out.len hml (a := a') (b := b') (by omega) (by omega))
              obtain ⟨b0, hb0⟩ : ∃ z : Nat, (b' : Int) - 1 = (z : Int) := ⟨b' - 1, by omega⟩
              obtain ⟨p0, hp0⟩ : ∃ z : Nat, (p : Int) - a' = (z : Int) := ⟨p - a', by omega⟩
              obtain ⟨p9, hp9⟩ : ∃ z : Nat, (b0 : Int) - p0 = (z : Int) := ⟨b0 - p0, by omega⟩
              go_wp2_with (go_at_call 65; refine CV.out.mono ?_; rintro e w9 ⟨rfl, d9, k1, k2⟩; have HR9 := hid (HR5.out.on k1 k2 ha1 hb1 (by omega)); clear k1 k2)
              go_meet
              exact ⟨p9, 1, d9, by omega, by omega, rfl, rfl, HR9⟩
            · have e2 : (((tt : Nat) : Int) == 2) = false := by simp; omega
              have e2' : ¬ ((tt : Nat) : Int) = 2 := by omega
              go_wp2
              go_meet
              exact ⟨p, tt, d2, hp, htt, rfl, rfl, HR5⟩
          case rest =>
            clear HR5 hp htt
            obtain ⟨p, tt, d3, hp, htt, rfl, rfl, HR6⟩ := hcut
            -- the third if
            cases wb
            · skip
              by_cases ha0 : 0 < a'
              · have ha0' : (0 : Int) < a' := by omega
                obtain ⟨a0, ha2⟩ : ∃ z : Nat, (a' : Int) - 1 = (z : Int) := ⟨a' - 1, by omega⟩
                obtain ⟨c1, _, l1⟩ := HR6.out.so.cells (k := a0) (by rw [HR6.out.len]; omega)
                obtain ⟨c2, _, l2⟩ := HR6.out.so.cells (k := p) (by rw [HR6.out.len]; omega)
                have C := hid (HR6.out.so.cmp hn (i := a0) (j := p) (by rw [HR6.out.len]; omega) (by rw [HR6.out.len]; omega))
                have hcf : Hpp.cf sc (d3.getD a0 0) (d3.getD p 0) < 0 := (Hpp.cf_lt _ _ _).2 (by
                  have h1 := HR6.out.lo (by omega) p (by omega) (by omega)
                  rwa [show a' - 1 = a0 by omega] at h1)
                generalize Hpp.cf sc (d3.getD a0 0) (d3.getD p 0) = r at C hcf
                generalize d3.getD a0 0 = zx at C c1 l1
                generalize d3.getD p 0 = zy at C c2 l2
                have hcb : decide (r < 0) = true := decide_eq_true hcf
                have hm1 : (a0 : Int) < m := by omega
                have hm0 : (p : Int) < m := by omega
                have hw0 : IntKind.i64.wrap (a0 : Int) = a0 := i64_wrap_nat' (by omega)
                clear hcf
                go_wp2_with (fail)
                go_quiet ((go_at_call 46; exact Calls.quiet_of (C.out _ ⟨_, rfl⟩)))
                have HD6 := hid (HR6.out.on (HR6.out.so.below (Drawn.below ⟨nq, rfl⟩)) (Hpp.PI.refl _ _ _) ha1 hb1 (by omega))
                generalize wc.drewN nq = w6 at *
                clear C c1 c2 l1 l2 HR6
                have CR := hid (par68 HD6.out.so hn (a := a') (b := b') HD6.out.len hml (p := p) (by omega) (by omega) hp)
                go_wp2_with (fail)
                go_at_call 68
                refine CR.out.mono ?_
                rintro e w7 ⟨q, o, d3, rfl, hq, k1, k2, k3⟩
                have HR7 := hid (HD6.out.on k1 k2 ha1 hb1 (by omega))
                have HPA := hid k3
                clear k1 k2 k3 CR
                obtain ⟨ll, hll⟩ : ∃ z : Nat, (q : Int) - a' = (z : Int) := ⟨q - a', by omega⟩
                obtain ⟨rr, hrr⟩ : ∃ z : Nat, (b' : Int) - q = (z : Int) := ⟨b' - q, by omega⟩
                obtain ⟨th, hth⟩ : ∃ z : Nat, (t : Int) / 8 = (z : Int) := ⟨t / 8, by omega⟩
                obtain ⟨q1, hq1⟩ : ∃ z : Nat, (q : Int) + 1 = (z : Int) := ⟨q + 1, by omega⟩
                by_cases hlr : ll < rr
                · have hlr' : (ll : Int) < rr := by omega
                  have CL := hid (ih (q - a') (by omega) HR7.out.so hn (a := a') (b := q) HR7.out.len hml (by omega) (by omega) (Nat.le_refl _) (HR7.out.lo.left (by omega)) l' hl')
                  go_wp2_with (fail)
                  go_at_call 54
                  refine CL.out.mono ?_
                  rintro e w8 ⟨rfl, d4, j1, j2, j3⟩
                  have H8 := hid (show Sd B blk cap sv n sc ds m a b q1 b' d4 w8 from by
                    have hon := HR7.out.on j1 (j2.wide (Nat.le_refl _) (by omega)) ha1 hb1 (by omega)
                    have hpa := HPA.out.left j2 HR7.out.so.nd (by rw [HR7.out.len]; omega) (by omega)
                    obtain rfl : q1 = q + 1 := by omega
                    exact ⟨hon.len, hon.so, hon.pi, hon.out.left hpa j3 (by omega), hpa.lo⟩)
                  clear j1 j2 j3 CL
                  go_wp2
                  go_roundw
                  case rel => exact ⟨q1, b', l', _, _, d4, by omega, by omega, by omega, hl', rfl, rfl, rfl, rfl, rfl, H8⟩
                  case measure => simp only [intOf]; omega
                · have hlr' : ¬ (ll : Int) < rr := by omega
                  have CL := hid (ih (b' - q1) (by omega) HR7.out.so hn (a := q1) (b := b') HR7.out.len hml (by omega) (by omega) (Nat.le_refl _) (by have h1 := HPA.out.lo; rwa [show q + 1 = q1 by omega] at h1) l' hl')
                  go_wp2_with (fail)
                  go_at_call 54
                  refine CL.out.mono ?_
                  rintro e w8 ⟨rfl, d4, j1, j2, j3⟩
                  have H8 := hid (show Sd B blk cap sv n sc ds m a b a' q d4 w8 from by
                    obtain rfl : q1 = q + 1 := by omega
                    have hon := HR7.out.on j1 (j2.wide (by omega) (Nat.le_refl _)) ha1 hb1 (by omega)
                    have hpa := HPA.out.right j2 HR7.out.so.nd (by rw [HR7.out.len]; omega)
                    exact ⟨hon.len, hon.so, hon.pi, hon.out.right hpa j3 (by omega), hon.lo.left (by omega)⟩)
                  clear j1 j2 j3 CL
                  go_wp2
                  go_roundw
                  case rel => exact ⟨a', q, l', _, _, d4, by omega, by omega, by omega, hl', rfl, rfl, rfl, rfl, rfl, H8⟩
                  case measure => simp only [intOf]; omega
              · have ha0' : ¬ (0 : Int) < a' := by omega
                go_wp2_with (fail)
                go_quiet (fail)
                have HD6 := hid (HR6.out.on (HR6.out.so.below (Drawn.below ⟨nq, rfl⟩)) (Hpp.PI.refl _ _ _) ha1 hb1 (by omega))
                generalize wc.drewN nq = w6 at *
                clear HR6
                have CR := hid (par68 HD6.out.so hn (a := a') (b := b') HD6.out.len hml (p := p) (by omega) (by omega) hp)
                go_wp2_with (fail)
                go_at_call 68
                refine CR.out.mono ?_
                rintro e w7 ⟨q, o, d3, rfl, hq, k1, k2, k3⟩
                have HR7 := hid (HD6.out.on k1 k2 ha1 hb1 (by omega))
                have HPA := hid k3
                clear k1 k2 k3 CR
                obtain ⟨ll, hll⟩ : ∃ z : Nat, (q : Int) - a' = (z : Int) := ⟨q - a', by omega⟩
                obtain ⟨rr, hrr⟩ : ∃ z : Nat, (b' : Int) - q = (z : Int) := ⟨b' - q, by omega⟩
                obtain ⟨th, hth⟩ : ∃ z : Nat, (t : Int) / 8 = (z : Int) := ⟨t / 8, by omega⟩
                obtain ⟨q1, hq1⟩ : ∃ z : Nat, (q : Int) + 1 = (z : Int) := ⟨q + 1, by omega⟩
                by_cases hlr : ll < rr
                · have hlr' : (ll : Int) < rr := by omega
                  have CL := hid (ih (q - a') (by omega) HR7.out.so hn (a := a') (b := q) HR7.out.len hml (by omega) (by omega) (Nat.le_refl _) (HR7.out.lo.left (by omega)) l' hl')
                  go_wp2_with (fail)
                  go_at_call 54
                  refine CL.out.mono ?_
                  rintro e w8 ⟨rfl, d4, j1, j2, j3⟩
                  have H8 := hid (show Sd B blk cap sv n sc ds m a b q1 b' d4 w8 from by
                    have hon := HR7.out.on j1 (j2.wide (Nat.le_refl _) (by omega)) ha1 hb1 (by omega)
                    have hpa := HPA.out.left j2 HR7.out.so.nd (by rw [HR7.out.len]; omega) (by omega)
                    obtain rfl : q1 = q + 1 := by omega
                    exact ⟨hon.len, hon.so, hon.pi, hon.out.left hpa j3 (by omega), hpa.lo⟩)
                  clear j1 j2 j3 CL
                  go_wp2
                  go_roundw
                  case rel => exact ⟨q1, b', l', _, _, d4, by omega, by omega, by omega, hl', rfl, rfl, rfl, rfl, rfl, H8⟩
                  case measure => simp only [intOf]; omega
                · have hlr' : ¬ (ll : Int) < rr := by omega
                  have CL := hid (ih (b' - q1) (by omega) HR7.out.so hn (a := q1) (b := b') HR7.out.len hml (by omega) (by omega) (Nat.le_refl _) (by have h1 := HPA.out.lo; rwa [show q + 1 = q1 by omega] at h1) l' hl')
                  go_wp2_with (fail)
                  go_at_call 54
                  refine CL.out.mono ?_
                  rintro e w8 ⟨rfl, d4, j1, j2, j3⟩
                  have H8 := hid (show Sd B blk cap sv n sc ds m a b a' q d4 w8 from by
                    obtain rfl : q1 = q + 1 := by omega
                    have hon := HR7.out.on j1 (j2.wide (by omega) (Nat.le_refl _)) ha1 hb1 (by omega)
                    have hpa := HPA.out.right j2 HR7.out.so.nd (by rw [HR7.out.len]; omega)
                    exact ⟨hon.len, hon.so, hon.pi, hon.out.right hpa j3 (by omega), hon.lo.left (by omega)⟩)
                  clear j1 j2 j3 CL
                  go_wp2
                  go_roundw
                  case rel => exact ⟨a', q, l', _, _, d4, by omega, by omega, by omega, hl', rfl, rfl, rfl, rfl, rfl, H8⟩
                  case measure => simp only [intOf]; omega
            · cases wp
              · skip
                by_cases ha0 : 0 < a'
                · have ha0' : (0 : Int) < a' := by omega
                  obtain ⟨a0, ha2⟩ : ∃ z : Nat, (a' : Int) - 1 = (z : Int) := ⟨a' - 1, by omega⟩
                  obtain ⟨c1, _, l1⟩ := HR6.out.so.cells (k := a0) (by rw [HR6.out.len]; omega)
                  obtain ⟨c2, _, l2⟩ := HR6.out.so.cells (k := p) (by rw [HR6.out.len]; omega)
                  have C := hid (HR6.out.so.cmp hn (i := a0) (j := p) (by rw [HR6.out.len]; omega) (by rw [HR6.out.len]; omega))
                  have hcf : Hpp.cf sc (d3.getD a0 0) (d3.getD p 0) < 0 := (Hpp.cf_lt _ _ _).2 (by
                    have h1 := HR6.out.lo (by omega) p (by omega) (by omega)
                    rwa [show a' - 1 = a0 by omega] at h1)
                  generalize Hpp.cf sc (d3.getD a0 0) (d3.getD p 0) = r at C hcf
                  generalize d3.getD a0 0 = zx at C c1 l1
                  generalize d3.getD p 0 = zy at C c2 l2
                  have hcb : decide (r < 0) = true := decide_eq_true hcf
                  have hm1 : (a0 : Int) < m := by omega
                  have hm0 : (p : Int) < m := by omega
                  have hw0 : IntKind.i64.wrap (a0 : Int) = a0 := i64_wrap_nat' (by omega)
                  clear hcf
                  go_wp2_with (fail)
                  go_quiet ((go_at_call 46; exact Calls.quiet_of (C.out _ ⟨_, rfl⟩)))
                  have HD6 := hid (HR6.out.on (HR6.out.so.below (Drawn.below ⟨nq, rfl⟩)) (Hpp.PI.refl _ _ _) ha1 hb1 (by omega))
                  generalize wc.drewN nq = w6 at *
                  clear C c1 c2 l1 l2 HR6
                  have CR := hid (par68 HD6.out.so hn (a := a') (b := b') HD6.out.len hml (p := p) (by omega) (by omega) hp)
                  go_wp2_with (fail)
                  go_at_call 68
                  refine CR.out.mono ?_
                  rintro e w7 ⟨q, o, d3, rfl, hq, k1, k2, k3⟩
                  have HR7 := hid (HD6.out.on k1 k2 ha1 hb1 (by omega))
                  have HPA := hid k3
                  clear k1 k2 k3 CR
                  obtain ⟨ll, hll⟩ : ∃ z : Nat, (q : Int) - a' = (z : Int) := ⟨q - a', by omega⟩
                  obtain ⟨rr, hrr⟩ : ∃ z : Nat, (b' : Int) - q = (z : Int) := ⟨b' - q, by omega⟩
                  obtain ⟨th, hth⟩ : ∃ z : Nat, (t : Int) / 8 = (z : Int) := ⟨t / 8, by omega⟩
                  obtain ⟨q1, hq1⟩ : ∃ z : Nat, (q : Int) + 1 = (z : Int) := ⟨q + 1, by omega⟩
                  by_cases hlr : ll < rr
                  · have hlr' : (ll : Int) < rr := by omega
                    have CL := hid (ih (q - a') (by omega) HR7.out.so hn (a := a') (b := q) HR7.out.len hml (by omega) (by omega) (Nat.le_refl _) (HR7.out.lo.left (by omega)) l' hl')
                    go_wp2_with (fail)
                    go_at_call 54
                    refine CL.out.mono ?_
                    rintro e w8 ⟨rfl, d4, j1, j2, j3⟩
                    have H8 := hid (show Sd B blk cap sv n sc ds m a b q1 b' d4 w8 from by
                      have hon := HR7.out.on j1 (j2.wide (Nat.le_refl _) (by omega)) ha1 hb1 (by omega)
                      have hpa := HPA.out.left j2 HR7.out.so.nd (by rw [HR7.out.len]; omega) (by omega)
                      obtain rfl : q1 = q + 1 := by omega
                      exact ⟨hon.len, hon.so, hon.pi, hon.out.left hpa j3 (by omega), hpa.lo⟩)
                    clear j1 j2 j3 CL
                    go_wp2
                    go_roundw
                    case rel => exact ⟨q1, b', l', _, _, d4, by omega, by omega, by omega, hl', rfl, rfl, rfl, rfl, rfl, H8⟩
                    case measure => simp only [intOf]; omega
                  · have hlr' : ¬ (ll : Int) < rr := by omega
                    have CL := hid (ih (b' - q1) (by omega) HR7.out.so hn (a := q1) (b := b') HR7.out.len hml (by omega) (by omega) (Nat.le_refl _) (by have h1 := HPA.out.lo; rwa [show q + 1 = q1 by omega] at h1) l' hl')
                    go_wp2_with (fail)
                    go_at_call 54
                    refine CL.out.mono ?_
                    rintro e w8 ⟨rfl, d4, j1, j2, j3⟩
                    have H8 := hid (show Sd B blk cap sv n sc ds m a b a' q d4 w8 from by
                      obtain rfl : q1 = q + 1 := by omega
                      have hon := HR7.out.on j1 (j2.wide (by omega) (Nat.le_refl _)) ha1 hb1 (by omega)
                      have hpa := HPA.out.right j2 HR7.out.so.nd (by rw [HR7.out.len]; omega)
                      exact ⟨hon.len, hon.so, hon.pi, hon.out.right hpa j3 (by omega), hon.lo.left (by omega)⟩)
                    clear j1 j2 j3 CL
                    go_wp2
                    go_roundw
                    case rel => exact ⟨a', q, l', _, _, d4, by omega, by omega, by omega, hl', rfl, rfl, rfl, rfl, rfl, H8⟩
                    case measure => simp only [intOf]; omega
                · have ha0' : ¬ (0 : Int) < a' := by omega
                  go_wp2_with (fail)
                  go_quiet (fail)
                  have HD6 := hid (HR6.out.on (HR6.out.so.below (Drawn.below ⟨nq, rfl⟩)) (Hpp.PI.refl _ _ _) ha1 hb1 (by omega))
                  generalize wc.drewN nq = w6 at *
                  clear HR6
                  have CR := hid (par68 HD6.out.so hn (a := a') (b := b') HD6.out.len hml (p := p) (by omega) (by omega) hp)
                  go_wp2_with (fail)
                  go_at_call 68
                  refine CR.out.mono ?_
                  rintro e w7 ⟨q, o, d3, rfl, hq, k1, k2, k3⟩
                  have HR7 := hid (HD6.out.on k1 k2 ha1 hb1 (by omega))
                  have HPA := hid k3
                  clear k1 k2 k3 CR
                  obtain ⟨ll, hll⟩ : ∃ z : Nat, (q : Int) - a' = (z : Int) := ⟨q - a', by omega⟩
                  obtain ⟨rr, hrr⟩ : ∃ z : Nat, (b' : Int) - q = (z : Int) := ⟨b' - q, by omega⟩
                  obtain ⟨th, hth⟩ : ∃ z : Nat, (t : Int) / 8 = (z : Int) := ⟨t / 8, by omega⟩
                  obtain ⟨q1, hq1⟩ : ∃ z : Nat, (q : Int) + 1 = (z : Int) := ⟨q + 1, by omega⟩
                  by_cases hlr : ll < rr
                  · have hlr' : (ll : Int) < rr := by omega
                    have CL := hid (ih (q - a') (by omega) HR7.out.so hn (a := a') (b := q) HR7.out.len hml (by omega) (by omega) (Nat.le_refl _) (HR7.out.lo.left (by omega)) l' hl')
                    go_wp2_with (fail)
                    go_at_call 54
                    refine CL.out.mono ?_
                    rintro e w8 ⟨rfl, d4, j1, j2, j3⟩
                    have H8 := hid (show Sd B blk cap sv n sc ds m a b q1 b' d4 w8 from by
                      have hon := HR7.out.on j1 (j2.wide (Nat.le_refl _) (by omega)) ha1 hb1 (by omega)
                      have hpa := HPA.out.left j2 HR7.out.so.nd (by rw [HR7.out.len]; omega) (by omega)
                      obtain rfl : q1 = q + 1 := by omega
                      exact ⟨hon.len, hon.so, hon.pi, hon.out.left hpa j3 (by omega), hpa.lo⟩)
                    clear j1 j2 j3 CL
                    go_wp2
                    go_roundw
                    case rel => exact ⟨q1, b', l', _, _, d4, by omega, by omega, by omega, hl', rfl, rfl, rfl, rfl, rfl, H8⟩
                    case measure => simp only [intOf]; omega
                  · have hlr' : ¬ (ll : Int) < rr := by omega
                    have CL := hid (ih (b' - q1) (by omega) HR7.out.so hn (a := q1) (b := b') HR7.out.len hml (by omega) (by omega) (Nat.le_refl _) (by have h1 := HPA.out.lo; rwa [show q + 1 = q1 by omega] at h1) l' hl')
                    go_wp2_with (fail)
                    go_at_call 54
                    refine CL.out.mono ?_
                    rintro e w8 ⟨rfl, d4, j1, j2, j3⟩
                    have H8 := hid (show Sd B blk cap sv n sc ds m a b a' q d4 w8 from by
                      obtain rfl : q1 = q + 1 := by omega
                      have hon := HR7.out.on j1 (j2.wide (by omega) (Nat.le_refl _)) ha1 hb1 (by omega)
                      have hpa := HPA.out.right j2 HR7.out.so.nd (by rw [HR7.out.len]; omega)
                      exact ⟨hon.len, hon.so, hon.pi, hon.out.right hpa j3 (by omega), hon.lo.left (by omega)⟩)
                    clear j1 j2 j3 CL
                    go_wp2
                    go_roundw
                    case rel => exact ⟨a', q, l', _, _, d4, by omega, by omega, by omega, hl', rfl, rfl, rfl, rfl, rfl, H8⟩
                    case measure => simp only [intOf]; omega
              · by_cases h1 : tt = 1
                · subst h1
                  have CI := hid (pin66 HR6.out.so hn (a := a') (b := b') HR6.out.len hml (by omega) (by omega) HR6.out.lo)
                  go_wp2_with (fail)
                  go_at_call 66
                  refine CI.out.mono ?_
                  rintro e w6 ⟨oo, d6, rfl, k1, k2, k3⟩
                  cases oo with
                  | true =>
                    have H4 := hid ((HR6.out.on k1 k2 ha1 hb1 (by omega)).fin (k3 rfl))
                    clear k1 k2 k3 CI
                    go_wp2
                    refine bodyPost_ret (results_none rfl _ _ _) rfl ?_
                    exact ⟨rfl, H4.out⟩
                  | false =>
                    have HP6 := hid (HR6.out.on k1 k2 ha1 hb1 (by omega))
                    clear k1 k2 k3 CI HR6
                    by_cases ha0 : 0 < a'
                    · have ha0' : (0 : Int) < a' := by omega
                      obtain ⟨a0, ha2⟩ : ∃ z : Nat, (a' : Int) - 1 = (z : Int) := ⟨a' - 1, by omega⟩
                      obtain ⟨c1, _, l1⟩ := HP6.out.so.cells (k := a0) (by rw [HP6.out.len]; omega)
                      obtain ⟨c2, _, l2⟩ := HP6.out.so.cells (k := p) (by rw [HP6.out.len]; omega)
                      have C := hid (HP6.out.so.cmp hn (i := a0) (j := p) (by rw [HP6.out.len]; omega) (by rw [HP6.out.len]; omega))
                      have hcf : Hpp.cf sc (d6.getD a0 0) (d6.getD p 0) < 0 := (Hpp.cf_lt _ _ _).2 (by
                        have h1 := HP6.out.lo (by omega) p (by omega) (by omega)
                        rwa [show a' - 1 = a0 by omega] at h1)
                      generalize Hpp.cf sc (d6.getD a0 0) (d6.getD p 0) = r at C hcf
                      generalize d6.getD a0 0 = zx at C c1 l1
                      generalize d6.getD p 0 = zy at C c2 l2
                      have hcb : decide (r < 0) = true := decide_eq_true hcf
                      have hm1 : (a0 : Int) < m := by omega
                      have hm0 : (p : Int) < m := by omega
                      have hw0 : IntKind.i64.wrap (a0 : Int) = a0 := i64_wrap_nat' (by omega)
                      clear hcf
                      go_wp2_with (fail)
                      go_quiet ((go_at_call 46; exact Calls.quiet_of (C.out _ ⟨_, rfl⟩)))
                      have HD6 := hid (HP6.out.on (HP6.out.so.below (Drawn.below ⟨nq, rfl⟩)) (Hpp.PI.refl _ _ _) ha1 hb1 (by omega))
                      generalize w6.drewN nq = w6 at *
                      clear C c1 c2 l1 l2 HP6
                      have CR := hid (par68 HD6.out.so hn (a := a') (b := b') HD6.out.len hml (p := p) (by omega) (by omega) hp)
                      go_wp2_with (fail)
                      go_at_call 68
                      refine CR.out.mono ?_
                      rintro e w7 ⟨q, o, d3, rfl, hq, k1, k2, k3⟩
                      have HR7 := hid (HD6.out.on k1 k2 ha1 hb1 (by omega))
                      have HPA := hid k3
                      clear k1 k2 k3 CR
                      obtain ⟨ll, hll⟩ : ∃ z : Nat, (q : Int) - a' = (z : Int) := ⟨q - a', by omega⟩
                      obtain ⟨rr, hrr⟩ : ∃ z : Nat, (b' : Int) - q = (z : Int) := ⟨b' - q, by omega⟩
                      obtain ⟨th, hth⟩ : ∃ z : Nat, (t : Int) / 8 = (z : Int) := ⟨t / 8, by omega⟩
                      obtain ⟨q1, hq1⟩ : ∃ z : Nat, (q : Int) + 1 = (z : Int) := ⟨q + 1, by omega⟩
                      by_cases hlr : ll < rr
                      · have hlr' : (ll : Int) < rr := by omega
                        have CL := hid (ih (q - a') (by omega) HR7.out.so hn (a := a') (b := q) HR7.out.len hml (by omega) (by omega) (Nat.le_refl _) (HR7.out.lo.left (by omega)) l' hl')
                        go_wp2_with (fail)
                        go_at_call 54
                        refine CL.out.mono ?_
                        rintro e w8 ⟨rfl, d4, j1, j2, j3⟩
                        have H8 := hid (show Sd B blk cap sv n sc ds m a b q1 b' d4 w8 from by
                          have hon := HR7.out.on j1 (j2.wide (Nat.le_refl _) (by omega)) ha1 hb1 (by omega)
                          have hpa := HPA.out.left j2 HR7.out.so.nd (by rw [HR7.out.len]; omega) (by omega)
                          obtain rfl : q1 = q + 1 := by omega
                          exact ⟨hon.len, hon.so, hon.pi, hon.out.left hpa j3 (by omega), hpa.lo⟩)
                        clear j1 j2 j3 CL
                        go_wp2
                        go_roundw
                        case rel => exact ⟨q1, b', l', _, _, d4, by omega, by omega, by omega, hl', rfl, rfl, rfl, rfl, rfl, H8⟩
                        case measure => simp only [intOf]; omega
                      · have hlr' : ¬ (ll : Int) < rr := by omega
                        have CL := hid (ih (b' - q1) (by omega) HR7.out.so hn (a := q1) (b := b') HR7.out.len hml (by omega) (by omega) (Nat.le_refl _) (by have h1 := HPA.out.lo; rwa [show q + 1 = q1 by omega] at h1) l' hl')
                        go_wp2_with (fail)
                        go_at_call 54
                        refine CL.out.mono ?_
                        rintro e w8 ⟨rfl, d4, j1, j2, j3⟩
                        have H8 := hid (show Sd B blk cap sv n sc ds m a b a' q d4 w8 from by
                          obtain rfl : q1 = q + 1 := by omega
                          have hon := HR7.out.on j1 (j2.wide (by omega) (Nat.le_refl _)) ha1 hb1 (by omega)
                          have hpa := HPA.out.right j2 HR7.out.so.nd (by rw [HR7.out.len]; omega)
                          exact ⟨hon.len, hon.so, hon.pi, hon.out.right hpa j3 (by omega), hon.lo.left (by omega)⟩)
                        clear j1 j2 j3 CL
                        go_wp2
                        go_roundw
                        case rel => exact ⟨a', q, l', _, _, d4, by omega, by omega, by omega, hl', rfl, rfl, rfl, rfl, rfl, H8⟩
                        case measure => simp only [intOf]; omega
                    · have ha0' : ¬ (0 : Int) < a' := by omega
                      go_wp2_with (fail)
                      go_quiet (fail)
                      have HD6 := hid (HP6.out.on (HP6.out.so.below (Drawn.below ⟨nq, rfl⟩)) (Hpp.PI.refl _ _ _) ha1 hb1 (by omega))
                      generalize w6.drewN nq = w6 at *
                      clear HP6
                      have CR := hid (par68 HD6.out.so hn (a := a') (b := b') HD6.out.len hml (p := p) (by omega) (by omega) hp)
                      go_wp2_with (fail)
                      go_at_call 68
                      refine CR.out.mono ?_
                      rintro e w7 ⟨q, o, d3, rfl, hq, k1, k2, k3⟩
                      have HR7 := hid (HD6.out.on k1 k2 ha1 hb1 (by omega))
                      have HPA := hid k3
                      clear k1 k2 k3 CR
                      obtain ⟨ll, hll⟩ : ∃ z : Nat, (q : Int) - a' = (z : Int) := ⟨q - a', by omega⟩
                      obtain ⟨rr, hrr⟩ : ∃ z : Nat, (b' : Int) - q = (z : Int) := ⟨b' - q, by omega⟩
                      obtain ⟨th, hth⟩ : ∃ z : Nat, (t : Int) / 8 = (z : Int) := ⟨t / 8, by omega⟩
                      obtain ⟨q1, hq1⟩ : ∃ z : Nat, (q : Int) + 1 = (z : Int) := ⟨q + 1, by omega⟩
                      by_cases hlr : ll < rr
                      · have hlr' : (ll : Int) < rr := by omega
                        have CL := hid (ih (q - a') (by omega) HR7.out.so hn (a := a') (b := q) HR7.out.len hml (by omega) (by omega) (Nat.le_refl _) (HR7.out.lo.left (by omega)) l' hl')
                        go_wp2_with (fail)
                        go_at_call 54
                        refine CL.out.mono ?_
                        rintro e w8 ⟨rfl, d4, j1, j2, j3⟩
                        have H8 := hid (show Sd B blk cap sv n sc ds m a b q1 b' d4 w8 from by
                          have hon := HR7.out.on j1 (j2.wide (Nat.le_refl _) (by omega)) ha1 hb1 (by omega)
                          have hpa := HPA.out.left j2 HR7.out.so.nd (by rw [HR7.out.len]; omega) (by omega)
                          obtain rfl : q1 = q + 1 := by omega
                          exact ⟨hon.len, hon.so, hon.pi, hon.out.left hpa j3 (by omega), hpa.lo⟩)
                        clear j1 j2 j3 CL
                        go_wp2
                        go_roundw
                        case rel => exact ⟨q1, b', l', _, _, d4, by omega, by omega, by omega, hl', rfl, rfl, rfl, rfl, rfl, H8⟩
                        case measure => simp only [intOf]; omega
                      · have hlr' : ¬ (ll : Int) < rr := by omega
                        have CL := hid (ih (b' - q1) (by omega) HR7.out.so hn (a := q1) (b := b') HR7.out.len hml (by omega) (by omega) (Nat.le_refl _) (by have h1 := HPA.out.lo; rwa [show q + 1 = q1 by omega] at h1) l' hl')
                        go_wp2_with (fail)
                        go_at_call 54
                        refine CL.out.mono ?_
                        rintro e w8 ⟨rfl, d4, j1, j2, j3⟩
                        have H8 := hid (show Sd B blk cap sv n sc ds m a b a' q d4 w8 from by
                          obtain rfl : q1 = q + 1 := by omega
                          have hon := HR7.out.on j1 (j2.wide (by omega) (Nat.le_refl _)) ha1 hb1 (by omega)
                          have hpa := HPA.out.right j2 HR7.out.so.nd (by rw [HR7.out.len]; omega)
                          exact ⟨hon.len, hon.so, hon.pi, hon.out.right hpa j3 (by omega), hon.lo.left (by omega)⟩)
                        clear j1 j2 j3 CL
                        go_wp2
                        go_roundw
                        case rel => exact ⟨a', q, l', _, _, d4, by omega, by omega, by omega, hl', rfl, rfl, rfl, rfl, rfl, H8⟩
                        case measure => simp only [intOf]; omega
                · have e1 : (((tt : Nat) : Int) == 1) = false := by simp; omega
                  have e1' : ¬ ((tt : Nat) : Int) = 1 := by omega
                  by_cases ha0 : 0 < a'
                  · have ha0' : (0 : Int) < a' := by omega
                    obtain ⟨a0, ha2⟩ : ∃ z : Nat, (a' : Int) - 1 = (z : Int) := ⟨a' - 1, by omega⟩
                    obtain ⟨c1, _, l1⟩ := HR6.out.so.cells (k := a0) (by rw [HR6.out.len]; omega)
                    obtain ⟨c2, _, l2⟩ := HR6.out.so.cells (k := p) (by rw [HR6.out.len]; omega)
                    have C := hid (HR6.out.so.cmp hn (i := a0) (j := p) (by rw [HR6.out.len]; omega) (by rw [HR6.out.len]; omega))
                    have hcf : Hpp.cf sc (d3.getD a0 0) (d3.getD p 0) < 0 := (Hpp.cf_lt _ _ _).2 (by
                      have h1 := HR6.out.lo (by omega) p (by omega) (by omega)
                      rwa [show a' - 1 = a0 by omega] at h1)
                    generalize Hpp.cf sc (d3.getD a0 0) (d3.getD p 0) = r at C hcf
                    generalize d3.getD a0 0 = zx at C c1 l1
                    generalize d3.getD p 0 = zy at C c2 l2
                    have hcb : decide (r < 0) = true := decide_eq_true hcf
                    have hm1 : (a0 : Int) < m := by omega
                    have hm0 : (p : Int) < m := by omega
                    have hw0 : IntKind.i64.wrap (a0 : Int) = a0 := i64_wrap_nat' (by omega)
                    clear hcf
                    go_wp2_with (fail)
                    go_quiet ((go_at_call 46; exact Calls.quiet_of (C.out _ ⟨_, rfl⟩)))
                    have HD6 := hid (HR6.out.on (HR6.out.so.below (Drawn.below ⟨nq, rfl⟩)) (Hpp.PI.refl _ _ _) ha1 hb1 (by omega))
                    generalize wc.drewN nq = w6 at *
                    clear C c1 c2 l1 l2 HR6
                    have CR := hid (par68 HD6.out.so hn (a := a') (b := b') HD6.out.len hml (p := p) (by omega) (by omega) hp)
                    go_wp2_with (fail)
                    go_at_call 68
                    refine CR.out.mono ?_
                    rintro e w7 ⟨q, o, d3, rfl, hq, k1, k2, k3⟩
                    have HR7 := hid (HD6.out.on k1 k2 ha1 hb1 (by omega))
                    have HPA := hid k3
                    clear k1 k2 k3 CR
                    obtain ⟨ll, hll⟩ : ∃ z : Nat, (q : Int) - a' = (z : Int) := ⟨q - a', by omega⟩
                    obtain ⟨rr, hrr⟩ : ∃ z : Nat, (b' : Int) - q = (z : Int) := ⟨b' - q, by omega⟩
                    obtain ⟨th, hth⟩ : ∃ z : Nat, (t : Int) / 8 = (z : Int) := ⟨t / 8, by omega⟩
                    obtain ⟨q1, hq1⟩ : ∃ z : Nat, (q : Int) + 1 = (z : Int) := ⟨q + 1, by omega⟩
                    by_cases hlr : ll < rr
                    · have hlr' : (ll : Int) < rr := by omega
                      have CL := hid (ih (q - a') (by omega) HR7.out.so hn (a := a') (b := q) HR7.out.len hml (by omega) (by omega) (Nat.le_refl _) (HR7.out.lo.left (by omega)) l' hl')
                      go_wp2_with (fail)
                      go_at_call 54
                      refine CL.out.mono ?_
                      rintro e w8 ⟨rfl, d4, j1, j2, j3⟩
                      have H8 := hid (show Sd B blk cap sv n sc ds m a b q1 b' d4 w8 from by
                        have hon := HR7.out.on j1 (j2.wide (Nat.le_refl _) (by omega)) ha1 hb1 (by omega)
                        have hpa := HPA.out.left j2 HR7.out.so.nd (by rw [HR7.out.len]; omega) (by omega)
                        obtain rfl : q1 = q + 1 := by omega
                        exact ⟨hon.len, hon.so, hon.pi, hon.out.left hpa j3 (by omega), hpa.lo⟩)
                      clear j1 j2 j3 CL
                      go_wp2
                      go_roundw
                      case rel => exact ⟨q1, b', l', _, _, d4, by omega, by omega, by omega, hl', rfl, rfl, rfl, rfl, rfl, H8⟩
                      case measure => simp only [intOf]; omega
                    · have hlr' : ¬ (ll : Int) < rr := by omega
                      have CL := hid (ih (b' - q1) (by omega) HR7.out.so hn (a := q1) (b := b') HR7.out.len hml (by omega) (by omega) (Nat.le_refl _) (by have h1 := HPA.out.lo; rwa [show q + 1 = q1 by omega] at h1) l' hl')
                      go_wp2_with (fail)
                      go_at_call 54
                      refine CL.out.mono ?_
                      rintro e w8 ⟨rfl, d4, j1, j2, j3⟩
                      have H8 := hid (show Sd B blk cap sv n sc ds m a b a' q d4 w8 from by
                        obtain rfl : q1 = q + 1 := by omega
                        have hon := HR7.out.on j1 (j2.wide (by omega) (Nat.le_refl _)) ha1 hb1 (by omega)
                        have hpa := HPA.out.right j2 HR7.out.so.nd (by rw [HR7.out.len]; omega)
                        exact ⟨hon.len, hon.so, hon.pi, hon.out.right hpa j3 (by omega), hon.lo.left (by omega)⟩)
                      clear j1 j2 j3 CL
                      go_wp2
                      go_roundw
                      case rel => exact ⟨a', q, l', _, _, d4, by omega, by omega, by omega, hl', rfl, rfl, rfl, rfl, rfl, H8⟩
                      case measure => simp only [intOf]; omega
                  · have ha0' : ¬ (0 : Int) < a' := by omega
                    go_wp2_with (fail)
                    go_quiet (fail)
                    have HD6 := hid (HR6.out.on (HR6.out.so.below (Drawn.below ⟨nq, rfl⟩)) (Hpp.PI.refl _ _ _) ha1 hb1 (by omega))
                    generalize wc.drewN nq = w6 at *
                    clear HR6
                    have CR := hid (par68 HD6.out.so hn (a := a') (b := b') HD6.out.len hml (p := p) (by omega) (by omega) hp)
                    go_wp2_with (fail)
                    go_at_call 68
                    refine CR.out.mono ?_
                    rintro e w7 ⟨q, o, d3, rfl, hq, k1, k2, k3⟩
                    have HR7 := hid (HD6.out.on k1 k2 ha1 hb1 (by omega))
                    have HPA := hid k3
                    clear k1 k2 k3 CR
                    obtain ⟨ll, hll⟩ : ∃ z : Nat, (q : Int) - a' = (z : Int) := ⟨q - a', by omega⟩
                    obtain ⟨rr, hrr⟩ : ∃ z : Nat, (b' : Int) - q = (z : Int) := ⟨b' - q, by omega⟩
                    obtain ⟨th, hth⟩ : ∃ z : Nat, (t : Int) / 8 = (z : Int) := ⟨t / 8, by omega⟩
                    obtain ⟨q1, hq1⟩ : ∃ z : Nat, (q : Int) + 1 = (z : Int) := ⟨q + 1, by omega⟩
                    by_cases hlr : ll < rr
                    · have hlr' : (ll : Int) < rr := by omega
                      have CL := hid (ih (q - a') (by omega) HR7.out.so hn (a := a') (b := q) HR7.out.len hml (by omega) (by omega) (Nat.le_refl _) (HR7.out.lo.left (by omega)) l' hl')
                      go_wp2_with (fail)
                      go_at_call 54
                      refine CL.out.mono ?_
                      rintro e w8 ⟨rfl, d4, j1, j2, j3⟩
                      have H8 := hid (show Sd B blk cap sv n sc ds m a b q1 b' d4 w8 from by
                        have hon := HR7.out.on j1 (j2.wide (Nat.le_refl _) (by omega)) ha1 hb1 (by omega)
                        have hpa := HPA.out.left j2 HR7.out.so.nd (by rw [HR7.out.len]; omega) (by omega)
                        obtain rfl : q1 = q + 1 := by omega
                        exact ⟨hon.len, hon.so, hon.pi, hon.out.left hpa j3 (by omega), hpa.lo⟩)
                      clear j1 j2 j3 CL
                      go_wp2
                      go_roundw
                      case rel => exact ⟨q1, b', l', _, _, d4, by omega, by omega, by omega, hl', rfl, rfl, rfl, rfl, rfl, H8⟩
                      case measure => simp only [intOf]; omega
                    · have hlr' : ¬ (ll : Int) < rr := by omega
                      have CL := hid (ih (b' - q1) (by omega) HR7.out.so hn (a := q1) (b := b') HR7.out.len hml (by omega) (by omega) (Nat.le_refl _) (by have h1 := HPA.out.lo; rwa [show q + 1 = q1 by omega] at h1) l' hl')
                      go_wp2_with (fail)
                      go_at_call 54
                      refine CL.out.mono ?_
                      rintro e w8 ⟨rfl, d4, j1, j2, j3⟩
                      have H8 := hid (show Sd B blk cap sv n sc ds m a b a' q d4 w8 from by
                        obtain rfl : q1 = q + 1 := by omega
                        have hon := HR7.out.on j1 (j2.wide (by omega) (Nat.le_refl _)) ha1 hb1 (by omega)
                        have hpa := HPA.out.right j2 HR7.out.so.nd (by rw [HR7.out.len]; omega)
                        exact ⟨hon.len, hon.so, hon.pi, hon.out.right hpa j3 (by omega), hon.lo.left (by omega)⟩)
                      clear j1 j2 j3 CL
                      go_wp2
                      go_roundw
                      case rel => exact ⟨a', q, l', _, _, d4, by omega, by omega, by omega, hl', rfl, rfl, rfl, rfl, rfl, H8⟩
                      case measure => simp only [intOf]; omega
theorem pdq54_all : ∀ k, Pd54 k := by
  intro k
  induction k using Nat.strongRecOn with
  | ind k ih => exact pdq_step k ih
set_option maxHeartbeats 1000000 in
theorem sorts_all (k : Nat) (hk : k ≤ 1048576) : Sorts k := by
  intro B blk cap sv n sc ds W h hn hm
  have CL := hid (len55 k W hk)
  have hbl : Lib.bitLen k ≤ 1000 := by have := Lib.bitLen_le k 21 (by omega) (by omega); omega
  have C := hid (pdq54_all k h hn (a := 0) (b := k) hm hk (Nat.zero_le _) (Nat.le_refl _) (by omega) (fun h1 => by omega) (Lib.bitLen k) hbl)
  have w1 : IntKind.u64.wrap (k : Int) = k := by rw [IntKind.wrap_u64]; omega
  generalize Lib.bitLen k = lm at *
  clear h
  go_enter Try.func45, Try.ntmps45
  go_wp2_with (first
    | (go_at_call 55; refine CL.out.mono ?_; rintro e w4 ⟨rfl, hw4⟩; rw [hw4]; clear hw4)
    | (go_at_call 54; refine C.out.mono ?_; rintro e w4 ⟨rfl, h4⟩; have H4 := hid h4; clear h4))
  go_end0
  exact ⟨rfl, H4.out⟩
end Go.Proofs.Ytjbnkkjihcoojaa
