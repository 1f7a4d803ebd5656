/- left: what of a clause is not false. -/
import Derived.Test.YthpebfojkpnojaaHas
import Derived.Deep.RegionHeld3
namespace Bas
/-- What a check has found true, by variables. -/
structure Tru (T ts : List Int) : Prop where
  at_ : ∀ l, 1 ≤ vr l → vr l < ts.length → (ts.getD (vr l).toNat 0 = l ↔ l ∈ T)
  free : ∀ v : Nat, v < ts.length → (ts.getD v 0 = 0 ∨ vr (ts.getD v 0) = v)
theorem leftP_step (T : List Int) (l : Int) (d : List Int) (f : Int) : leftP T (l :: d) f = if l = f ∨ -l ∈ T then leftP T d f else if f ≠ 0 then (2, f) else leftP T d l := rfl
end Bas
namespace Go.Proofs.Ythpebfojkpnojaa
open Go.RowKit Go.Maps
set_option linter.unusedVariables false
set_option linter.unusedSimpArgs false
set_option maxRecDepth 100000
set_option maxHeartbeats 4000000 in
theorem left52 {bb gt m ct : Nat} {W : World} {ts T : List Int} (x8 : W.cell? ⟨bb, 8, none⟩ = some (.slice (some ⟨gt, 0, none⟩) m ct)) (hm : ts.length = m) (hmm : m ≤ 1048577) (hts : ∀ v, v < m → W.cell? ⟨gt, v, none⟩ = some (.int .i32 (ts.getD v 0))) (hT : Bas.Tru T ts)
    (a : Option Addr) (n c : Nat) (xs : List Int) (hn : xs.length = n) (hN : n ≤ 35184372088832) (hx : Lits W a xs) (hxs : ∀ x ∈ xs, 1 ≤ Bas.vr x ∧ Bas.vr x < m) :
    Calls Try.prog 52 #[.pointer (some ⟨bb, 0, none⟩), .slice a n c] W fun e w' => e = .returned (.tuple #[.int .i64 (Bas.leftP T xs 0).1, .int .i32 (Bas.leftP T xs 0).2]) ∧ Drawn W w' := by
  have HX8 := hid x8
  have HTS := hid hts
  have HT := hid hT
  have HX := hid hx
  have HN := hid hn
  have HM := hid hm
  have HXS := hid hxs
  have sh : Hid (n = 0) ∨ ∃ b off, a = some ⟨b, off, none⟩ := by
    rcases hx.2 with h | ⟨b, off, e, _⟩
    · left; rw [h] at hn; exact hn.symm
    · exact .inr ⟨b, off, e⟩
  clear x8 hts hT hx hn hm hxs
  obtain ⟨R, hR⟩ : ∃ R, Bas.leftP T xs 0 = R := ⟨_, rfl⟩
  have HR := hid hR
  rw [hR]
  clear hR
  rcases sh with Z | ⟨b, off, rfl⟩
  all_goals
    go_enter Try.func52, Try.ntmps52
    go_wp2_with fail
    go_loopw [6, 8, 11] (fun fv _ iv wr => ∃ (k : Nat) (f : Int), k ≤ n ∧ iv = .int .i64 k ∧ fv = .int .i32 f ∧ I32 f ∧ Hid (Bas.leftP T (xs.drop k) f = R) ∧ Hid (Drawn W wr)) (fun _ _ iv _ => n - (intOf iv).toNat)
    case atStart => exact ⟨0, 0, Nat.zero_le _, rfl, rfl, ⟨by decide, by decide⟩, hid (by rw [List.drop_zero]; exact HR.out), hid (Drawn.refl _)⟩
    case round =>
      obtain ⟨k, f, hk, rfl, rfl, hf, HL, HD⟩ := hrel
      by_cases hlt : k < n
      · first
        | (exfalso; have := Z.out; omega)
        | (have hlt' : (k : Int) < n := by omega
           have hkx : k < xs.length := by rw [HN.out]; exact hlt
           obtain ⟨b2, off2, e2, _, hc, hlo, hhi⟩ := Row.at HX.out hkx
           cases e2
           obtain ⟨hv1, hv2⟩ := HXS.out _ (getD_mem xs k hkx)
           have HDR := hid (show xs.drop k = xs.getD k 0 :: xs.drop (k + 1) by rw [List.drop_eq_getElem_cons hkx]; simp [List.getD, hkx])
           have C49 := hid (fun X => var49 (xs.getD k 0) X ⟨hlo, hhi⟩)
           obtain ⟨v, hv⟩ : ∃ v : Nat, Bas.vr (xs.getD k 0) = v := ⟨(Bas.vr (xs.getD k 0)).toNat, by omega⟩
           rw [hv] at hv1 hv2 C49
           have hvm : v < m := by omega
           have hvm' : (v : Int) < m := by omega
           have ht := HTS.out v hvm
           have HA := hid (show ts.getD v 0 = -(xs.getD k 0) ↔ -(xs.getD k 0) ∈ T by
             have hvn : Bas.vr (-(xs.getD k 0)) = v := by rw [← hv]; unfold Bas.vr; split <;> split <;> omega
             have := HT.out.at_ (-(xs.getD k 0)) (by rw [hvn]; exact hv1) (by rw [hvn, HM.out]; omega)
             rw [hvn] at this
             exact this)
           rw [← HD.out.cell] at hc
           have x8 := HX8.out
           have HQX := hid (show ∀ X, Drawn W X → X.cell? ⟨bb, 8, none⟩ = some (.slice (some ⟨gt, 0, none⟩) m ct) ∧ X.cell? ⟨gt, v, none⟩ = some (.int .i32 (ts.getD v 0)) ∧ Drawn W X from fun X hX => ⟨(hX.cell _).trans x8, (hX.cell _).trans ht, hX⟩)
           have hwn : xs.getD k 0 ≠ -2147483648 := fun e => by rw [e] at hv; unfold Bas.vr at hv; simp at hv; omega
           generalize xs.getD k 0 = lv at *
           generalize ts.getD v 0 = tv at *
           clear x8 ht
           have hwr : IntKind.i32.wrap (-lv) = -lv := by rw [IntKind.wrap_i32]; omega
           have HDD := hid (show Drawn W wr.drew from HD.out.trans ⟨1, rfl⟩)
           by_cases h1 : lv = f
           · have h1b : (lv == f) = true := by simpa using h1
             have HL2 := hid (show Bas.leftP T (xs.drop (k + 1)) f = R by have := HL.out; rw [HDR.out, Bas.leftP_step, if_pos (.inl h1)] at this; exact this)
             subst h1
             go_wp2_with fail
             go_quiet (fail)
             all_goals
               go_wp2
               go_roundw
               case rel => exact ⟨k + 1, lv, by omega, by go_num, rfl, hf, HL2, hid (HD.out.drewN _)⟩
               case measure => simp [intOf]; omega
           · have h1b : (lv == f) = false := by simpa using h1
             by_cases h2 : tv = -lv
             · have h2b : (tv == -lv) = true := by simpa using h2
               have HL2 := hid (show Bas.leftP T (xs.drop (k + 1)) f = R by have := HL.out; rw [HDR.out, Bas.leftP_step, if_pos (.inr (HA.out.1 h2))] at this; exact this)
               clear h1 h2
               go_wp2_with fail
               go_region_held3 (fun X => X.cell? ⟨bb, 8, none⟩ = some (.slice (some ⟨gt, 0, none⟩) m ct) ∧ X.cell? ⟨gt, v, none⟩ = some (.int .i32 tv) ∧ Drawn W X)
                 (first | exact HQX.out _ HDD.out)
                 (first | (go_at_call 49; refine (C49.out _).mono ?_; rintro e w4 ⟨rfl, hw4⟩; rw [hw4]; clear hw4))
               all_goals
                 go_wp2
                 go_roundw
                 case rel => exact ⟨k + 1, f, by omega, by go_num, rfl, hf, HL2, HDD⟩
                 case measure => simp [intOf]; omega
             · have h2b : (tv == -lv) = false := by simpa using h2
               have HL2 := hid (show (if f ≠ 0 then ((2 : Int), f) else Bas.leftP T (xs.drop (k + 1)) lv) = R by have := HL.out; rw [HDR.out, Bas.leftP_step, if_neg (fun h3 => by rcases h3 with h3 | h3; exact h1 h3; exact h2 (HA.out.2 h3))] at this; exact this)
               clear h1 h2
               by_cases h3 : f = 0
               · have h3b : (f != 0) = false := by simpa using h3
                 have HL3 := hid (show Bas.leftP T (xs.drop (k + 1)) lv = R by have := HL2.out; rwa [if_neg (by simp [h3])] at this)
                 clear h3
                 go_wp2_with fail
                 go_region_held3 (fun X => X.cell? ⟨bb, 8, none⟩ = some (.slice (some ⟨gt, 0, none⟩) m ct) ∧ X.cell? ⟨gt, v, none⟩ = some (.int .i32 tv) ∧ Drawn W X)
                   (first | exact HQX.out _ HDD.out)
                   (first | (go_at_call 49; refine (C49.out _).mono ?_; rintro e w4 ⟨rfl, hw4⟩; rw [hw4]; clear hw4))
                 all_goals
                   go_wp2
                   go_roundw
                   case rel => exact ⟨k + 1, lv, by omega, by go_num, rfl, ⟨hlo, hhi⟩, HL3, HDD⟩
                   case measure => simp [intOf]; omega
               · have h3b : (f != 0) = true := by simpa using h3
                 have HL3 := hid (show R = (2, f) by have := HL2.out; rw [if_pos h3] at this; exact this.symm)
                 clear h3
                 go_wp2_with fail
                 go_region_held3 (fun X => X.cell? ⟨bb, 8, none⟩ = some (.slice (some ⟨gt, 0, none⟩) m ct) ∧ X.cell? ⟨gt, v, none⟩ = some (.int .i32 tv) ∧ Drawn W X)
                   (first | exact HQX.out _ HDD.out)
                   (first | (go_at_call 49; refine (C49.out _).mono ?_; rintro e w4 ⟨rfl, hw4⟩; rw [hw4]; clear hw4))
                 all_goals
                   go_wp2
                   go_ret2
                   exact ⟨by rw [HL3.out]; rfl, HDD.out⟩)
      · have hge : ¬ (k : Int) < n := by omega
        have HL2 := hid (show (if f = 0 then ((0 : Int), (0 : Int)) else (1, f)) = R by
          have := HL.out
          rw [List.drop_eq_nil_of_le (by rw [HN.out]; omega)] at this
          exact this)
        by_cases h3 : f = 0
        · have h3b : (f == 0) = true := by simpa using h3
          have HL3 := hid (show R = (0, 0) by have := HL2.out; rw [if_pos h3] at this; exact this.symm)
          clear h3
          go_wp2
          go_ret2
          exact ⟨by rw [HL3.out]; rfl, HD.out⟩
        · have h3b : (f == 0) = false := by simpa using h3
          have HL3 := hid (show R = (1, f) by have := HL2.out; rw [if_neg h3] at this; exact this.symm)
          clear h3
          go_wp2
          go_ret2
          exact ⟨by rw [HL3.out]; rfl, HD.out⟩
end Go.Proofs.Ythpebfojkpnojaa
