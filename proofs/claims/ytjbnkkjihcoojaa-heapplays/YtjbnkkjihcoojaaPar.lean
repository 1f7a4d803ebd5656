/- Sorting in place: partition. -/
import Derived.Test.YtjbnkkjihcoojaaRev
namespace Hpp
/-- On the way: what is looked at from a on comes before the pivot at a, what is behind j does not. -/
def Pt (s : List Int) (a b i j : Nat) (ds : List Nat) : Prop := (∀ k, a < k → k < i → bef s (ds.getD k 0) (ds.getD a 0)) ∧ (∀ k, j < k → k < b → ¬ bef s (ds.getD k 0) (ds.getD a 0))
theorem Pt.inc {s : List Int} {a b i j : Nat} {ds : List Nat} (h : Pt s a b i j ds) (hb : bef s (ds.getD i 0) (ds.getD a 0)) : Pt s a b (i + 1) j ds :=
  ⟨fun k h1 h2 => by
    by_cases e : k = i
    · rw [e]; exact hb
    · exact h.1 k h1 (by omega), h.2⟩
theorem Pt.dec {s : List Int} {a b i j j0 : Nat} {ds : List Nat} (h : Pt s a b i j ds) (hb : ¬ bef s (ds.getD j 0) (ds.getD a 0)) (hj : j = j0 + 1) : Pt s a b i j0 ds :=
  ⟨h.1, fun k h1 h2 => by
    by_cases e : k = j
    · rw [e]; exact hb
    · exact h.2 k (by omega) h2⟩
theorem Pt.swap {s : List Int} {a b i j : Nat} {ds : List Nat} (h : Pt s a b i j ds) (hij : i < j) (hi : a + 1 ≤ i) (hl : b ≤ ds.length) (hj : j < b) (hbj : bef s (ds.getD j 0) (ds.getD a 0)) (hbi : ¬ bef s (ds.getD i 0) (ds.getD a 0)) : Pt s a b (i + 1) (j - 1) (swp ds i j) := by
  have G := fun k => swp_get (vs := ds) (i := i) (j := j) (by omega) (by omega) k
  refine ⟨fun k h1 h2 => ?_, fun k h1 h2 => ?_⟩
  · rw [G, G, if_neg (by omega : ¬ a = j), if_neg (by omega : ¬ a = i), if_neg (by omega : ¬ k = j)]
    by_cases e : k = i
    · rw [if_pos e]; exact hbj
    · rw [if_neg e]; exact h.1 k h1 (by omega)
  · rw [G, G, if_neg (by omega : ¬ a = j), if_neg (by omega : ¬ a = i)]
    by_cases e : k = j
    · rw [if_pos e]; exact hbi
    · rw [if_neg e, if_neg (by omega)]; exact h.2 k (by omega) h2
/-- Parted at p. -/
def Parts (s : List Int) (a b p : Nat) (ds : List Nat) : Prop := (∀ k, a ≤ k → k < p → bef s (ds.getD k 0) (ds.getD p 0)) ∧ (∀ k, p < k → k < b → bef s (ds.getD p 0) (ds.getD k 0))
theorem Pt.fin {s : List Int} {a b j : Nat} {ds : List Nat} (h : Pt s a b (j + 1) j ds) (hl : b ≤ ds.length) (hj : j < b) (haj : a ≤ j) (hd : ds.Nodup) : Parts s a b j (swp ds j a) := by
  have G := fun k => swp_get (vs := ds) (i := j) (j := a) (by omega) (by omega) k
  have hpiv : (swp ds j a).getD j 0 = ds.getD a 0 := by
    rw [G]
    by_cases e : j = a
    · rw [if_pos e, e]
    · rw [if_neg e, if_pos rfl]
  refine ⟨fun k h1 h2 => ?_, fun k h1 h2 => ?_⟩
  · rw [hpiv, G]
    by_cases e : k = a
    · rw [if_pos e]; exact h.1 j (by omega) (by omega)
    · rw [if_neg e, if_neg (by omega)]; exact h.1 k (by omega) (by omega)
  · rw [hpiv, G, if_neg (by omega), if_neg (by omega)]
    exact of_not (fun e => by have := nd_inj hd (by omega) (by omega) e; omega) (h.2 k h1 h2)
end Hpp
namespace Go.Proofs.Ytjbnkkjihcoojaa
open Go.RowKit Go.Maps
set_option linter.unusedVariables false
set_option maxRecDepth 100000

def ParOut (B : World) (blk cap : Nat) (sv : Value) (n : Nat) (sc : List Int) (ds : List Nat) (a b : Nat) (e : Ending) (w' : World) : Prop :=
  ∃ (p : Nat) (o : Bool) (ds' : List Nat), e = .returned (.tuple #[.int .i64 (p : Nat), .bool o]) ∧ (a ≤ p ∧ p < b) ∧ So B blk cap sv n sc ds' w' ∧ Hpp.PI a b ds' ds ∧ Hpp.Parts sc a b p ds'
set_option maxHeartbeats 8000000 in
/-- Behind the pivot's exchange. -/
theorem par68 {B : World} {blk cap : Nat} {sv : Value} {n : Nat} {sc : List Int} {ds : List Nat} {W : World} (h : So B blk cap sv n sc ds W) (hn : n ≤ 1048576) {a b p m : Nat} (hm : ds.length = m) (hml : m ≤ 1048576) (ha : a + 1 < b) (hb : b ≤ m) (hp : a ≤ p ∧ p < b) :
    Calls Try.prog 68 #[.slice (some ⟨blk, 0, none⟩) m cap, .int .i64 a, .int .i64 b, .int .i64 p, cmpv sv] W fun e w' => ParOut B blk cap sv n sc ds a b e w' := by
  obtain ⟨hp1, hp2⟩ := hp
  obtain ⟨c1, f1, l1⟩ := h.cells (k := a) (by omega)
  obtain ⟨c2, f2, l2⟩ := h.cells (k := p) (by omega)
  have HX := hid (fun q => (h.below (Drawn.below ⟨q, rfl⟩)).swap (W := W.drewN q) (i := a) (j := p) (by omega) (by omega))
  have HL := hid (show (Hpp.swp ds a p).length = m by rw [Hpp.swp_len]; exact hm)
  have HPI := hid (show Hpp.PI a b (Hpp.swp ds a p) ds from Hpp.PI.swp (by omega) (by omega) (by omega))
  have hmx : (a : Int) < m := by omega
  have hmy : (p : Int) < m := by omega
  obtain ⟨i, hi⟩ : ∃ q : Nat, (a : Int) + 1 = (q : Int) := ⟨a + 1, by omega⟩
  obtain ⟨j, hj⟩ : ∃ q : Nat, (b : Int) - 1 = (q : Int) := ⟨b - 1, by omega⟩
  have HP := hid (show Hpp.Pt sc a b i j (Hpp.swp ds a p) from ⟨fun k h1 h2 => by omega, fun k h1 h2 => by omega⟩)
  have hi1 : a + 1 ≤ i := by omega
  have hij : i ≤ j + 1 := by omega
  have hjb : j < b := by omega
  have haj : a ≤ j := by omega
  generalize Hpp.swp ds a p = d1 at *
  generalize hzx : ds.getD a 0 = zx at *
  generalize hzy : ds.getD p 0 = zy at *
  clear h hm
  by_cases hap : a = p
  · subst hap
    obtain rfl : zx = zy := by rw [← hzx, ← hzy]
    clear hzx hzy
    go_enter Try.func68, Try.ntmps68
    go_wp2_with (fail)
    go_region
    all_goals
      have HS0 := hid (HX.out 1)
      change Hid (So B blk cap sv n sc d1 (((W.drewN 1).setCell ⟨blk, a, none⟩ (.int .i64 ((zx : Int) + 1))).setCell ⟨blk, a, none⟩ (.int .i64 ((zx : Int) + 1)))) at HS0
      change Exit.then _ _ Exit.normal _ (((W.drewN 1).setCell ⟨blk, a, none⟩ (.int .i64 ((zx : Int) + 1))).setCell ⟨blk, a, none⟩ (.int .i64 ((zx : Int) + 1)))
      generalize (((W.drewN 1).setCell ⟨blk, a, none⟩ (.int .i64 ((zx : Int) + 1))).setCell ⟨blk, a, none⟩ (.int .i64 ((zx : Int) + 1))) = w2 at *
      clear c1 c2 f1 f2 HX l1 l2 hmx hmy
      obtain ⟨iS, hiS⟩ : ∃ iS, iS = i := ⟨i, rfl⟩
      go_wp2
      go_loopw [12] (fun iv wr => ∃ (i : Nat), a + 1 ≤ i ∧ iS ≤ i ∧ i ≤ j + 1 ∧ iv = .int .i64 (i : Nat) ∧ Hid (So B blk cap sv n sc d1 wr ∧ Hpp.Pt sc a b i j d1)) (fun iv _ => b + 1 - (intOf iv).toNat)
      case atStart => first | exact ⟨i, by omega, by omega, by omega, rfl, hid ⟨HS0.out, HP.out⟩⟩ | exact ⟨i, by omega, by omega, by omega, by go_num, hid ⟨HS0.out, HP.out⟩⟩
      case round =>
        clear HP HS0 hi1 hij hi hj
        obtain ⟨i, hi1, hiSi, hij, rfl, HR⟩ := hrel
        have HS := hid HR.out.1
        have HP := hid HR.out.2
        clear HR
        by_cases hle : i ≤ j
        · have hle' : (i : Int) ≤ j := by omega
          obtain ⟨c1, _, l1⟩ := HS.out.cells (k := i) (by rw [HL.out]; omega)
          obtain ⟨c2, _, l2⟩ := HS.out.cells (k := a) (by rw [HL.out]; omega)
          have C := hid (HS.out.cmp hn (i := i) (j := a) (by rw [HL.out]; omega) (by rw [HL.out]; omega))
          have hm1 : (i : Int) < m := by omega
          have hm0 : (a : Int) < m := by omega
          by_cases hb1 : Hpp.bef sc (d1.getD i 0) (d1.getD a 0)
          · have hcf : Hpp.cf sc (d1.getD i 0) (d1.getD a 0) < 0 := (Hpp.cf_lt _ _ _).2 hb1
            have HN := hid (HP.out.inc hb1)
            clear hb1
            generalize Hpp.cf sc (d1.getD i 0) (d1.getD a 0) = r at C hcf
            generalize d1.getD i 0 = zx at C c1 l1
            generalize d1.getD a 0 = zy at C c2 l2
            have hcb : decide (r < 0) = true := decide_eq_true hcf
            clear hcf
            go_wp2_with (fail)
            go_quiet ((go_at_call 46; exact Calls.quiet_of (C.out _ ⟨_, rfl⟩)))
            have HF := hid (HS.out.below (Drawn.below ⟨nq, rfl⟩))
            go_wp2
            go_roundw
            case rel => exact ⟨i + 1, by omega, by omega, by omega, by go_num, hid ⟨HF.out, HN.out⟩⟩
            case measure => simp only [intOf]; omega
          · have hcf : ¬ Hpp.cf sc (d1.getD i 0) (d1.getD a 0) < 0 := fun h => hb1 ((Hpp.cf_lt _ _ _).1 h)
            have HNB := hid hb1
            clear hb1
            generalize Hpp.cf sc (d1.getD i 0) (d1.getD a 0) = r at C hcf
            generalize d1.getD i 0 = zx at C c1 l1
            generalize d1.getD a 0 = zy at C c2 l2
            have hcb : decide (r < 0) = false := decide_eq_false hcf
            clear hcf
            go_wp2_with (fail)
            go_quiet ((go_at_call 46; exact Calls.quiet_of (C.out _ ⟨_, rfl⟩)))
            have HF := hid (HS.out.below (Drawn.below ⟨nq, rfl⟩))
            generalize wr.drewN nq = w6 at *
            clear C c1 c2 hcb HS hm1 hm0 l1 l2
            go_wp2
            go_loopw [13] (fun jv wr => ∃ (j : Nat), i ≤ j + 1 ∧ j < b ∧ jv = .int .i64 (j : Nat) ∧ Hid (So B blk cap sv n sc d1 wr ∧ Hpp.Pt sc a b i j d1)) (fun jv _ => (intOf jv).toNat)
            case atStart => exact ⟨j, by omega, hjb, rfl, hid ⟨HF.out, HP.out⟩⟩
            case round =>
              clear HP HF hij hjb hle hle'
              obtain ⟨j, hij, hjb, rfl, HR⟩ := hrel
              have HS := hid HR.out.1
              have HP := hid HR.out.2
              clear HR
              by_cases hle : i ≤ j
              · have hle' : (i : Int) ≤ j := by omega
                obtain ⟨c1, _, l1⟩ := HS.out.cells (k := j) (by rw [HL.out]; omega)
                obtain ⟨c2, _, l2⟩ := HS.out.cells (k := a) (by rw [HL.out]; omega)
                have C := hid (HS.out.cmp hn (i := j) (j := a) (by rw [HL.out]; omega) (by rw [HL.out]; omega))
                have hm1 : (j : Int) < m := by omega
                have hm0 : (a : Int) < m := by omega
                by_cases hb1 : Hpp.bef sc (d1.getD j 0) (d1.getD a 0)
                · have hcf : Hpp.cf sc (d1.getD j 0) (d1.getD a 0) < 0 := (Hpp.cf_lt _ _ _).2 hb1
                  have HJB := hid hb1
                  clear hb1
                  generalize Hpp.cf sc (d1.getD j 0) (d1.getD a 0) = r at C hcf
                  generalize d1.getD j 0 = zx at C c1 l1
                  generalize d1.getD a 0 = zy at C c2 l2
                  have hcb : decide (r < 0) = true := decide_eq_true hcf
                  clear hcf
                  go_wp2_with (fail)
                  go_quiet ((go_at_call 46; exact Calls.quiet_of (C.out _ ⟨_, rfl⟩)))
                  have HF := hid (HS.out.below (Drawn.below ⟨nq, rfl⟩))
                  generalize wr.drewN nq = w7 at *
                  clear C c1 c2 hcb HS hm1 hm0 l1 l2
                  have hlt : i < j := by
                    rcases Nat.lt_or_ge i j with h | h
                    · exact h
                    · obtain rfl : i = j := by omega
                      exact absurd HJB.out HNB.out
                  have HPS := hid (HP.out.swap hlt hi1 (by rw [HL.out]; omega) hjb HJB.out HNB.out)
                  have HPI2 := hid (show Hpp.PI a b (Hpp.swp d1 i j) ds from (Hpp.PI.swp (by omega) (by omega) (by rw [HL.out]; exact hb)).trans HPI.out)
                  have HL2 := hid (show (Hpp.swp d1 i j).length = m by rw [Hpp.swp_len]; exact HL.out)
                  obtain ⟨j1, hj1⟩ : ∃ q : Nat, (j : Int) - 1 = (q : Int) := ⟨j - 1, by omega⟩
                  have hngt : ¬ (j : Int) < i := by omega
                  obtain ⟨c1, f1, l1⟩ := HF.out.cells (k := i) (by rw [HL.out]; omega)
                  obtain ⟨c2, f2, l2⟩ := HF.out.cells (k := j) (by rw [HL.out]; omega)
                  have HX := hid (fun q => (HF.out.below (Drawn.below ⟨q, rfl⟩)).swap (W := w7.drewN q) (i := i) (j := j) (by rw [HL.out]; omega) (by rw [HL.out]; omega))
                  have hmx : (i : Int) < m := by omega
                  have hmy : (j : Int) < m := by omega
                  generalize hzx : d1.getD i 0 = zx at c1 HX l1
                  generalize hzy : d1.getD j 0 = zy at c2 HX l2
                  have hne1 : ¬ i = j := by omega
                  have hne2 : ¬ j = i := by omega
                  clear hzx hzy
                  go_wp2_with (fail)
                  go_region
                  all_goals
                    have HX2 := hid (HX.out 1)
                    go_wp2
                    go_loopw [12, 13] (fun iv jv wr => ∃ (i j : Nat) (d2 : List Nat), a + 1 ≤ i ∧ i ≤ j + 1 ∧ j < b ∧ a ≤ j ∧ iv = .int .i64 (i : Nat) ∧ jv = .int .i64 (j : Nat) ∧ Hid (d2.length = m ∧ So B blk cap sv n sc d2 wr ∧ Hpp.PI a b d2 ds ∧ Hpp.Pt sc a b i j d2)) (fun iv jv _ => b + 1 - (intOf iv).toNat)
                    case atStart => exact ⟨i + 1, j1, _, by omega, by omega, by omega, by omega, by go_num, rfl, hid ⟨HL2.out, HX2.out, HPI2.out, by rw [show j1 = j - 1 by omega]; exact HPS.out⟩⟩
                    case round =>
                      clear hiSi hiS HX2 HX HL2 HPI2 HPS HP HL HPI HNB HJB hi1 hij hjb hlt hngt hj1 c1 c2 f1 f2 l1 l2 hmx hmy hne1 hne2 hle hle'
                      obtain ⟨i, j, d2, hi1, hij, hjb, haj, rfl, rfl, HR⟩ := hrel
                      have HL := hid HR.out.1
                      have HS0 := hid HR.out.2.1
                      have HPI := hid HR.out.2.2.1
                      have HP := hid HR.out.2.2.2
                      clear HR
                      obtain ⟨iS, hiS⟩ : ∃ iS, iS = i := ⟨i, rfl⟩
                      go_wp2
                      go_loopw [12] (fun iv wr => ∃ (i : Nat), a + 1 ≤ i ∧ iS ≤ i ∧ i ≤ j + 1 ∧ iv = .int .i64 (i : Nat) ∧ Hid (So B blk cap sv n sc d2 wr ∧ Hpp.Pt sc a b i j d2)) (fun iv _ => b + 1 - (intOf iv).toNat)
                      case atStart => first | exact ⟨i, by omega, by omega, by omega, rfl, hid ⟨HS0.out, HP.out⟩⟩ | exact ⟨i, by omega, by omega, by omega, by go_num, hid ⟨HS0.out, HP.out⟩⟩
                      case round =>
                        clear HP HS0 hi1 hij
                        obtain ⟨i, hi1, hiSi, hij, rfl, HR⟩ := hrel
                        have HS := hid HR.out.1
                        have HP := hid HR.out.2
                        clear HR
                        by_cases hle : i ≤ j
                        · have hle' : (i : Int) ≤ j := by omega
                          obtain ⟨c1, _, l1⟩ := HS.out.cells (k := i) (by rw [HL.out]; omega)
                          obtain ⟨c2, _, l2⟩ := HS.out.cells (k := a) (by rw [HL.out]; omega)
                          have C := hid (HS.out.cmp hn (i := i) (j := a) (by rw [HL.out]; omega) (by rw [HL.out]; omega))
                          have hm1 : (i : Int) < m := by omega
                          have hm0 : (a : Int) < m := by omega
                          by_cases hb1 : Hpp.bef sc (d2.getD i 0) (d2.getD a 0)
                          · have hcf : Hpp.cf sc (d2.getD i 0) (d2.getD a 0) < 0 := (Hpp.cf_lt _ _ _).2 hb1
                            have HN := hid (HP.out.inc hb1)
                            clear hb1
                            generalize Hpp.cf sc (d2.getD i 0) (d2.getD a 0) = r at C hcf
                            generalize d2.getD i 0 = zx at C c1 l1
                            generalize d2.getD a 0 = zy at C c2 l2
                            have hcb : decide (r < 0) = true := decide_eq_true hcf
                            clear hcf
                            go_wp2_with (fail)
                            go_quiet ((go_at_call 46; exact Calls.quiet_of (C.out _ ⟨_, rfl⟩)))
                            have HF := hid (HS.out.below (Drawn.below ⟨nq, rfl⟩))
                            go_wp2
                            go_roundw
                            case rel => exact ⟨i + 1, by omega, by omega, by omega, by go_num, hid ⟨HF.out, HN.out⟩⟩
                            case measure => simp only [intOf]; omega
                          · have hcf : ¬ Hpp.cf sc (d2.getD i 0) (d2.getD a 0) < 0 := fun h => hb1 ((Hpp.cf_lt _ _ _).1 h)
                            have HNB := hid hb1
                            clear hb1
                            generalize Hpp.cf sc (d2.getD i 0) (d2.getD a 0) = r at C hcf
                            generalize d2.getD i 0 = zx at C c1 l1
                            generalize d2.getD a 0 = zy at C c2 l2
                            have hcb : decide (r < 0) = false := decide_eq_false hcf
                            clear hcf
                            go_wp2_with (fail)
                            go_quiet ((go_at_call 46; exact Calls.quiet_of (C.out _ ⟨_, rfl⟩)))
                            have HF := hid (HS.out.below (Drawn.below ⟨nq, rfl⟩))
                            generalize wr.drewN nq = w6 at *
                            clear C c1 c2 hcb HS hm1 hm0 l1 l2
                            go_wp2
                            go_loopw [13] (fun jv wr => ∃ (j : Nat), i ≤ j + 1 ∧ j < b ∧ jv = .int .i64 (j : Nat) ∧ Hid (So B blk cap sv n sc d2 wr ∧ Hpp.Pt sc a b i j d2)) (fun jv _ => (intOf jv).toNat)
                            case atStart => exact ⟨j, by omega, hjb, rfl, hid ⟨HF.out, HP.out⟩⟩
                            case round =>
                              clear HP HF hij hjb hle hle'
                              obtain ⟨j, hij, hjb, rfl, HR⟩ := hrel
                              have HS := hid HR.out.1
                              have HP := hid HR.out.2
                              clear HR
                              by_cases hle : i ≤ j
                              · have hle' : (i : Int) ≤ j := by omega
                                obtain ⟨c1, _, l1⟩ := HS.out.cells (k := j) (by rw [HL.out]; omega)
                                obtain ⟨c2, _, l2⟩ := HS.out.cells (k := a) (by rw [HL.out]; omega)
                                have C := hid (HS.out.cmp hn (i := j) (j := a) (by rw [HL.out]; omega) (by rw [HL.out]; omega))
                                have hm1 : (j : Int) < m := by omega
                                have hm0 : (a : Int) < m := by omega
                                by_cases hb1 : Hpp.bef sc (d2.getD j 0) (d2.getD a 0)
                                · have hcf : Hpp.cf sc (d2.getD j 0) (d2.getD a 0) < 0 := (Hpp.cf_lt _ _ _).2 hb1
                                  have HJB := hid hb1
                                  clear hb1
                                  generalize Hpp.cf sc (d2.getD j 0) (d2.getD a 0) = r at C hcf
                                  generalize d2.getD j 0 = zx at C c1 l1
                                  generalize d2.getD a 0 = zy at C c2 l2
                                  have hcb : decide (r < 0) = true := decide_eq_true hcf
                                  clear hcf
                                  go_wp2_with (fail)
                                  go_quiet ((go_at_call 46; exact Calls.quiet_of (C.out _ ⟨_, rfl⟩)))
                                  have HF := hid (HS.out.below (Drawn.below ⟨nq, rfl⟩))
                                  generalize wr.drewN nq = w7 at *
                                  clear C c1 c2 hcb HS hm1 hm0 l1 l2
                                  have hlt : i < j := by
                                    rcases Nat.lt_or_ge i j with h | h
                                    · exact h
                                    · obtain rfl : i = j := by omega
                                      exact absurd HJB.out HNB.out
                                  have HPS := hid (HP.out.swap hlt hi1 (by rw [HL.out]; omega) hjb HJB.out HNB.out)
                                  have HPI2 := hid (show Hpp.PI a b (Hpp.swp d2 i j) ds from (Hpp.PI.swp (by omega) (by omega) (by rw [HL.out]; exact hb)).trans HPI.out)
                                  have HL2 := hid (show (Hpp.swp d2 i j).length = m by rw [Hpp.swp_len]; exact HL.out)
                                  obtain ⟨j1, hj1⟩ : ∃ q : Nat, (j : Int) - 1 = (q : Int) := ⟨j - 1, by omega⟩
                                  have hngt : ¬ (j : Int) < i := by omega
                                  obtain ⟨c1, f1, l1⟩ := HF.out.cells (k := i) (by rw [HL.out]; omega)
                                  obtain ⟨c2, f2, l2⟩ := HF.out.cells (k := j) (by rw [HL.out]; omega)
                                  have HX := hid (fun q => (HF.out.below (Drawn.below ⟨q, rfl⟩)).swap (W := w7.drewN q) (i := i) (j := j) (by rw [HL.out]; omega) (by rw [HL.out]; omega))
                                  have hmx : (i : Int) < m := by omega
                                  have hmy : (j : Int) < m := by omega
                                  generalize hzx : d2.getD i 0 = zx at c1 HX l1
                                  generalize hzy : d2.getD j 0 = zy at c2 HX l2
                                  have hne1 : ¬ i = j := by omega
                                  have hne2 : ¬ j = i := by omega
                                  clear hzx hzy
                                  go_wp2_with (fail)
                                  go_region
                                  all_goals
                                    have HX2 := hid (HX.out 1)
                                    go_wp2
                                    go_roundw
                                    case rel => exact ⟨i + 1, j1, _, by omega, by omega, by omega, by omega, by go_num, rfl, hid ⟨HL2.out, HX2.out, HPI2.out, by rw [show j1 = j - 1 by omega]; exact HPS.out⟩⟩
                                    case measure => simp only [intOf]; omega
                                · have hcf : ¬ Hpp.cf sc (d2.getD j 0) (d2.getD a 0) < 0 := fun h => hb1 ((Hpp.cf_lt _ _ _).1 h)
                                  obtain ⟨j0, hj0⟩ : ∃ q : Nat, (j : Int) - 1 = (q : Int) := ⟨j - 1, by omega⟩
                                  have HN := hid (show Hpp.Pt sc a b i j0 d2 from HP.out.dec hb1 (by omega))
                                  clear hb1
                                  generalize Hpp.cf sc (d2.getD j 0) (d2.getD a 0) = r at C hcf
                                  generalize d2.getD j 0 = zx at C c1 l1
                                  generalize d2.getD a 0 = zy at C c2 l2
                                  have hcb : decide (r < 0) = false := decide_eq_false hcf
                                  clear hcf
                                  go_wp2_with (fail)
                                  go_quiet ((go_at_call 46; exact Calls.quiet_of (C.out _ ⟨_, rfl⟩)))
                                  have HF := hid (HS.out.below (Drawn.below ⟨nq, rfl⟩))
                                  go_wp2
                                  go_roundw
                                  case rel => exact ⟨j0, by omega, by omega, rfl, hid ⟨HF.out, HN.out⟩⟩
                                  case measure => simp only [intOf]; omega
                              · have hle' : ¬ (i : Int) ≤ j := by omega
                                go_wp2_with (fail)
                                go_quiet (fail)
                                have HF := hid (HS.out.below (Drawn.below ⟨nq, rfl⟩))
                                generalize wr.drewN nq = w7 at *
                                clear HS
                                obtain rfl : i = j + 1 := by omega
                                have HPT := hid (HP.out.fin (by rw [HL.out]; omega) (by omega) (by omega) HF.out.nd)
                                have HPI2 := hid (show Hpp.PI a b (Hpp.swp d2 j a) ds from (Hpp.PI.swp (by omega) (by omega) (by rw [HL.out]; exact hb)).trans HPI.out)
                                have hji : (j : Int) < (j : Int) + 1 := by omega
                                obtain ⟨c1, f1, l1⟩ := HF.out.cells (k := j) (by rw [HL.out]; omega)
                                obtain ⟨c2, f2, l2⟩ := HF.out.cells (k := a) (by rw [HL.out]; omega)
                                have HX := hid (fun q => (HF.out.below (Drawn.below ⟨q, rfl⟩)).swap (W := w7.drewN q) (i := j) (j := a) (by rw [HL.out]; omega) (by rw [HL.out]; omega))
                                have hmx : (j : Int) < m := by omega
                                have hmy : (a : Int) < m := by omega
                                generalize hzx : d2.getD j 0 = zx at c1 HX l1
                                generalize hzy : d2.getD a 0 = zy at c2 HX l2
                                by_cases hja : j = a
                                · subst hja
                                  obtain rfl : zx = zy := by rw [← hzx, ← hzy]
                                  clear hzx hzy
                                  go_wp2_with (fail)
                                  go_region
                                  all_goals
                                    have HX2 := hid (HX.out 1)
                                    go_wp2
                                    go_ret2
                                    exact ⟨j, false, _, rfl, ⟨by omega, by omega⟩, HX2.out, HPI2.out, HPT.out⟩
                                · have hja2 : ¬ a = j := fun e => hja e.symm
                                  clear hzx hzy
                                  go_wp2_with (fail)
                                  go_region
                                  all_goals
                                    have HX2 := hid (HX.out 1)
                                    go_wp2
                                    go_ret2
                                    exact ⟨j, false, _, rfl, ⟨by omega, by omega⟩, HX2.out, HPI2.out, HPT.out⟩
                        · have hle' : ¬ (i : Int) ≤ j := by omega
                          go_wp2_with (fail)
                          go_quiet (fail)
                          have HF := hid (HS.out.below (Drawn.below ⟨nq, rfl⟩))
                          generalize wr.drewN nq = w6 at *
                          clear HS
                          go_wp2
                          go_loopw [13] (fun jv wr => jv = .int .i64 (j : Nat) ∧ Hid (So B blk cap sv n sc d2 wr)) (fun jv _ => 0)
                          case atStart => exact ⟨rfl, HF⟩
                          case round =>
                            clear HF
                            obtain ⟨rfl, HS⟩ := hrel
                            go_wp2_with (fail)
                            go_quiet (fail)
                            have HF := hid (HS.out.below (Drawn.below ⟨nq, rfl⟩))
                            generalize wr.drewN nq = w7 at *
                            clear HS
                            obtain rfl : i = j + 1 := by omega
                            have HPT := hid (HP.out.fin (by rw [HL.out]; omega) (by omega) (by omega) HF.out.nd)
                            have HPI2 := hid (show Hpp.PI a b (Hpp.swp d2 j a) ds from (Hpp.PI.swp (by omega) (by omega) (by rw [HL.out]; exact hb)).trans HPI.out)
                            have hji : (j : Int) < (j : Int) + 1 := by omega
                            obtain ⟨c1, f1, l1⟩ := HF.out.cells (k := j) (by rw [HL.out]; omega)
                            obtain ⟨c2, f2, l2⟩ := HF.out.cells (k := a) (by rw [HL.out]; omega)
                            have HX := hid (fun q => (HF.out.below (Drawn.below ⟨q, rfl⟩)).swap (W := w7.drewN q) (i := j) (j := a) (by rw [HL.out]; omega) (by rw [HL.out]; omega))
                            have hmx : (j : Int) < m := by omega
                            have hmy : (a : Int) < m := by omega
                            generalize hzx : d2.getD j 0 = zx at c1 HX l1
                            generalize hzy : d2.getD a 0 = zy at c2 HX l2
                            by_cases hja : j = a
                            · subst hja
                              obtain rfl : zx = zy := by rw [← hzx, ← hzy]
                              clear hzx hzy
                              go_wp2_with (fail)
                              go_region
                              all_goals
                                have HX2 := hid (HX.out 1)
                                go_wp2
                                go_ret2
                                exact ⟨j, false, _, rfl, ⟨by omega, by omega⟩, HX2.out, HPI2.out, HPT.out⟩
                            · have hja2 : ¬ a = j := fun e => hja e.symm
                              clear hzx hzy
                              go_wp2_with (fail)
                              go_region
                              all_goals
                                have HX2 := hid (HX.out 1)
                                go_wp2
                                go_ret2
                                exact ⟨j, false, _, rfl, ⟨by omega, by omega⟩, HX2.out, HPI2.out, HPT.out⟩
                · have hcf : ¬ Hpp.cf sc (d1.getD j 0) (d1.getD a 0) < 0 := fun h => hb1 ((Hpp.cf_lt _ _ _).1 h)
                  obtain ⟨j0, hj0⟩ : ∃ q : Nat, (j : Int) - 1 = (q : Int) := ⟨j - 1, by omega⟩
                  have HN := hid (show Hpp.Pt sc a b i j0 d1 from HP.out.dec hb1 (by omega))
                  clear hb1
                  generalize Hpp.cf sc (d1.getD j 0) (d1.getD a 0) = r at C hcf
                  generalize d1.getD j 0 = zx at C c1 l1
                  generalize d1.getD a 0 = zy at C c2 l2
                  have hcb : decide (r < 0) = false := decide_eq_false hcf
                  clear hcf
                  go_wp2_with (fail)
                  go_quiet ((go_at_call 46; exact Calls.quiet_of (C.out _ ⟨_, rfl⟩)))
                  have HF := hid (HS.out.below (Drawn.below ⟨nq, rfl⟩))
                  go_wp2
                  go_roundw
                  case rel => exact ⟨j0, by omega, by omega, rfl, hid ⟨HF.out, HN.out⟩⟩
                  case measure => simp only [intOf]; omega
              · have hle' : ¬ (i : Int) ≤ j := by omega
                go_wp2_with (fail)
                go_quiet (fail)
                have HF := hid (HS.out.below (Drawn.below ⟨nq, rfl⟩))
                generalize wr.drewN nq = w7 at *
                clear HS
                obtain rfl : i = j + 1 := by omega
                have HPT := hid (HP.out.fin (by rw [HL.out]; omega) (by omega) (by omega) HF.out.nd)
                have HPI2 := hid (show Hpp.PI a b (Hpp.swp d1 j a) ds from (Hpp.PI.swp (by omega) (by omega) (by rw [HL.out]; exact hb)).trans HPI.out)
                have hji : (j : Int) < (j : Int) + 1 := by omega
                obtain ⟨c1, f1, l1⟩ := HF.out.cells (k := j) (by rw [HL.out]; omega)
                obtain ⟨c2, f2, l2⟩ := HF.out.cells (k := a) (by rw [HL.out]; omega)
                have HX := hid (fun q => (HF.out.below (Drawn.below ⟨q, rfl⟩)).swap (W := w7.drewN q) (i := j) (j := a) (by rw [HL.out]; omega) (by rw [HL.out]; omega))
                have hmx : (j : Int) < m := by omega
                have hmy : (a : Int) < m := by omega
                generalize hzx : d1.getD j 0 = zx at c1 HX l1
                generalize hzy : d1.getD a 0 = zy at c2 HX l2
                by_cases hja : j = a
                · subst hja
                  obtain rfl : zx = zy := by rw [← hzx, ← hzy]
                  clear hzx hzy
                  go_wp2_with (fail)
                  go_region
                  all_goals
                    have HX2 := hid (HX.out 1)
                    go_wp2
                    go_ret2
                    exact ⟨j, true, _, rfl, ⟨by omega, by omega⟩, HX2.out, HPI2.out, HPT.out⟩
                · have hja2 : ¬ a = j := fun e => hja e.symm
                  clear hzx hzy
                  go_wp2_with (fail)
                  go_region
                  all_goals
                    have HX2 := hid (HX.out 1)
                    go_wp2
                    go_ret2
                    exact ⟨j, true, _, rfl, ⟨by omega, by omega⟩, HX2.out, HPI2.out, HPT.out⟩
        · have hle' : ¬ (i : Int) ≤ j := by omega
          go_wp2_with (fail)
          go_quiet (fail)
          have HF := hid (HS.out.below (Drawn.below ⟨nq, rfl⟩))
          generalize wr.drewN nq = w6 at *
          clear HS
          go_wp2
          go_loopw [13] (fun jv wr => jv = .int .i64 (j : Nat) ∧ Hid (So B blk cap sv n sc d1 wr)) (fun jv _ => 0)
          case atStart => exact ⟨rfl, HF⟩
          case round =>
            clear HF
            obtain ⟨rfl, HS⟩ := hrel
            go_wp2_with (fail)
            go_quiet (fail)
            have HF := hid (HS.out.below (Drawn.below ⟨nq, rfl⟩))
            generalize wr.drewN nq = w7 at *
            clear HS
            obtain rfl : i = j + 1 := by omega
            have HPT := hid (HP.out.fin (by rw [HL.out]; omega) (by omega) (by omega) HF.out.nd)
            have HPI2 := hid (show Hpp.PI a b (Hpp.swp d1 j a) ds from (Hpp.PI.swp (by omega) (by omega) (by rw [HL.out]; exact hb)).trans HPI.out)
            have hji : (j : Int) < (j : Int) + 1 := by omega
            obtain ⟨c1, f1, l1⟩ := HF.out.cells (k := j) (by rw [HL.out]; omega)
            obtain ⟨c2, f2, l2⟩ := HF.out.cells (k := a) (by rw [HL.out]; omega)
            have HX := hid (fun q => (HF.out.below (Drawn.below ⟨q, rfl⟩)).swap (W := w7.drewN q) (i := j) (j := a) (by rw [HL.out]; omega) (by rw [HL.out]; omega))
            have hmx : (j : Int) < m := by omega
            have hmy : (a : Int) < m := by omega
            generalize hzx : d1.getD j 0 = zx at c1 HX l1
            generalize hzy : d1.getD a 0 = zy at c2 HX l2
            by_cases hja : j = a
            · subst hja
              obtain rfl : zx = zy := by rw [← hzx, ← hzy]
              clear hzx hzy
              go_wp2_with (fail)
              go_region
              all_goals
                have HX2 := hid (HX.out 1)
                go_wp2
                go_ret2
                exact ⟨j, true, _, rfl, ⟨by omega, by omega⟩, HX2.out, HPI2.out, HPT.out⟩
            · have hja2 : ¬ a = j := fun e => hja e.symm
              clear hzx hzy
              go_wp2_with (fail)
              go_region
              all_goals
                have HX2 := hid (HX.out 1)
                go_wp2
                go_ret2
                exact ⟨j, true, _, rfl, ⟨by omega, by omega⟩, HX2.out, HPI2.out, HPT.out⟩
  · have hap2 : ¬ p = a := fun e => hap e.symm
    clear hzx hzy
    go_enter Try.func68, Try.ntmps68
    go_wp2_with (fail)
    go_region
    all_goals
      have HS0 := hid (HX.out 1)
      change Hid (So B blk cap sv n sc d1 (((W.drewN 1).setCell ⟨blk, a, none⟩ (.int .i64 ((zy : Int) + 1))).setCell ⟨blk, p, none⟩ (.int .i64 ((zx : Int) + 1)))) at HS0
      change Exit.then _ _ Exit.normal _ (((W.drewN 1).setCell ⟨blk, a, none⟩ (.int .i64 ((zy : Int) + 1))).setCell ⟨blk, p, none⟩ (.int .i64 ((zx : Int) + 1)))
      generalize (((W.drewN 1).setCell ⟨blk, a, none⟩ (.int .i64 ((zy : Int) + 1))).setCell ⟨blk, p, none⟩ (.int .i64 ((zx : Int) + 1))) = w2 at *
      clear c1 c2 f1 f2 HX l1 l2 hmx hmy
      obtain ⟨iS, hiS⟩ : ∃ iS, iS = i := ⟨i, rfl⟩
      go_wp2
      go_loopw [12] (fun iv wr => ∃ (i : Nat), a + 1 ≤ i ∧ iS ≤ i ∧ i ≤ j + 1 ∧ iv = .int .i64 (i : Nat) ∧ Hid (So B blk cap sv n sc d1 wr ∧ Hpp.Pt sc a b i j d1)) (fun iv _ => b + 1 - (intOf iv).toNat)
      case atStart => first | exact ⟨i, by omega, by omega, by omega, rfl, hid ⟨HS0.out, HP.out⟩⟩ | exact ⟨i, by omega, by omega, by omega, by go_num, hid ⟨HS0.out, HP.out⟩⟩
      case round =>
        clear HP HS0 hi1 hij hi hj
        obtain ⟨i, hi1, hiSi, hij, rfl, HR⟩ := hrel
        have HS := hid HR.out.1
        have HP := hid HR.out.2
        clear HR
        by_cases hle : i ≤ j
        · have hle' : (i : Int) ≤ j := by omega
          obtain ⟨c1, _, l1⟩ := HS.out.cells (k := i) (by rw [HL.out]; omega)
          obtain ⟨c2, _, l2⟩ := HS.out.cells (k := a) (by rw [HL.out]; omega)
          have C := hid (HS.out.cmp hn (i := i) (j := a) (by rw [HL.out]; omega) (by rw [HL.out]; omega))
          have hm1 : (i : Int) < m := by omega
          have hm0 : (a : Int) < m := by omega
          by_cases hb1 : Hpp.bef sc (d1.getD i 0) (d1.getD a 0)
          · have hcf : Hpp.cf sc (d1.getD i 0) (d1.getD a 0) < 0 := (Hpp.cf_lt _ _ _).2 hb1
            have HN := hid (HP.out.inc hb1)
            clear hb1
            generalize Hpp.cf sc (d1.getD i 0) (d1.getD a 0) = r at C hcf
            generalize d1.getD i 0 = zx at C c1 l1
            generalize d1.getD a 0 = zy at C c2 l2
            have hcb : decide (r < 0) = true := decide_eq_true hcf
            clear hcf
            go_wp2_with (fail)
            go_quiet ((go_at_call 46; exact Calls.quiet_of (C.out _ ⟨_, rfl⟩)))
            have HF := hid (HS.out.below (Drawn.below ⟨nq, rfl⟩))
            go_wp2
            go_roundw
            case rel => exact ⟨i + 1, by omega, by omega, by omega, by go_num, hid ⟨HF.out, HN.out⟩⟩
            case measure => simp only [intOf]; omega
          · have hcf : ¬ Hpp.cf sc (d1.getD i 0) (d1.getD a 0) < 0 := fun h => hb1 ((Hpp.cf_lt _ _ _).1 h)
            have HNB := hid hb1
            clear hb1
            generalize Hpp.cf sc (d1.getD i 0) (d1.getD a 0) = r at C hcf
            generalize d1.getD i 0 = zx at C c1 l1
            generalize d1.getD a 0 = zy at C c2 l2
            have hcb : decide (r < 0) = false := decide_eq_false hcf
            clear hcf
            go_wp2_with (fail)
            go_quiet ((go_at_call 46; exact Calls.quiet_of (C.out _ ⟨_, rfl⟩)))
            have HF := hid (HS.out.below (Drawn.below ⟨nq, rfl⟩))
            generalize wr.drewN nq = w6 at *
            clear C c1 c2 hcb HS hm1 hm0 l1 l2
            go_wp2
            go_loopw [13] (fun jv wr => ∃ (j : Nat), i ≤ j + 1 ∧ j < b ∧ jv = .int .i64 (j : Nat) ∧ Hid (So B blk cap sv n sc d1 wr ∧ Hpp.Pt sc a b i j d1)) (fun jv _ => (intOf jv).toNat)
            case atStart => exact ⟨j, by omega, hjb, rfl, hid ⟨HF.out, HP.out⟩⟩
            case round =>
              clear HP HF hij hjb hle hle'
              obtain ⟨j, hij, hjb, rfl, HR⟩ := hrel
              have HS := hid HR.out.1
              have HP := hid HR.out.2
              clear HR
              by_cases hle : i ≤ j
              · have hle' : (i : Int) ≤ j := by omega
                obtain ⟨c1, _, l1⟩ := HS.out.cells (k := j) (by rw [HL.out]; omega)
                obtain ⟨c2, _, l2⟩ := HS.out.cells (k := a) (by rw [HL.out]; omega)
                have C := hid (HS.out.cmp hn (i := j) (j := a) (by rw [HL.out]; omega) (by rw [HL.out]; omega))
                have hm1 : (j : Int) < m := by omega
                have hm0 : (a : Int) < m := by omega
                by_cases hb1 : Hpp.bef sc (d1.getD j 0) (d1.getD a 0)
                · have hcf : Hpp.cf sc (d1.getD j 0) (d1.getD a 0) < 0 := (Hpp.cf_lt _ _ _).2 hb1
                  have HJB := hid hb1
                  clear hb1
                  generalize Hpp.cf sc (d1.getD j 0) (d1.getD a 0) = r at C hcf
                  generalize d1.getD j 0 = zx at C c1 l1
                  generalize d1.getD a 0 = zy at C c2 l2
                  have hcb : decide (r < 0) = true := decide_eq_true hcf
                  clear hcf
                  go_wp2_with (fail)
                  go_quiet ((go_at_call 46; exact Calls.quiet_of (C.out _ ⟨_, rfl⟩)))
                  have HF := hid (HS.out.below (Drawn.below ⟨nq, rfl⟩))
                  generalize wr.drewN nq = w7 at *
                  clear C c1 c2 hcb HS hm1 hm0 l1 l2
                  have hlt : i < j := by
                    rcases Nat.lt_or_ge i j with h | h
                    · exact h
                    · obtain rfl : i = j := by omega
                      exact absurd HJB.out HNB.out
                  have HPS := hid (HP.out.swap hlt hi1 (by rw [HL.out]; omega) hjb HJB.out HNB.out)
                  have HPI2 := hid (show Hpp.PI a b (Hpp.swp d1 i j) ds from (Hpp.PI.swp (by omega) (by omega) (by rw [HL.out]; exact hb)).trans HPI.out)
                  have HL2 := hid (show (Hpp.swp d1 i j).length = m by rw [Hpp.swp_len]; exact HL.out)
                  obtain ⟨j1, hj1⟩ : ∃ q : Nat, (j : Int) - 1 = (q : Int) := ⟨j - 1, by omega⟩
                  have hngt : ¬ (j : Int) < i := by omega
                  obtain ⟨c1, f1, l1⟩ := HF.out.cells (k := i) (by rw [HL.out]; omega)
                  obtain ⟨c2, f2, l2⟩ := HF.out.cells (k := j) (by rw [HL.out]; omega)
                  have HX := hid (fun q => (HF.out.below (Drawn.below ⟨q, rfl⟩)).swap (W := w7.drewN q) (i := i) (j := j) (by rw [HL.out]; omega) (by rw [HL.out]; omega))
                  have hmx : (i : Int) < m := by omega
                  have hmy : (j : Int) < m := by omega
                  generalize hzx : d1.getD i 0 = zx at c1 HX l1
                  generalize hzy : d1.getD j 0 = zy at c2 HX l2
                  have hne1 : ¬ i = j := by omega
                  have hne2 : ¬ j = i := by omega
                  clear hzx hzy
                  go_wp2_with (fail)
                  go_region
                  all_goals
                    have HX2 := hid (HX.out 1)
                    go_wp2
                    go_loopw [12, 13] (fun iv jv wr => ∃ (i j : Nat) (d2 : List Nat), a + 1 ≤ i ∧ i ≤ j + 1 ∧ j < b ∧ a ≤ j ∧ iv = .int .i64 (i : Nat) ∧ jv = .int .i64 (j : Nat) ∧ Hid (d2.length = m ∧ So B blk cap sv n sc d2 wr ∧ Hpp.PI a b d2 ds ∧ Hpp.Pt sc a b i j d2)) (fun iv jv _ => b + 1 - (intOf iv).toNat)
                    case atStart => exact ⟨i + 1, j1, _, by omega, by omega, by omega, by omega, by go_num, rfl, hid ⟨HL2.out, HX2.out, HPI2.out, by rw [show j1 = j - 1 by omega]; exact HPS.out⟩⟩
                    case round =>
                      clear hiSi hiS HX2 HX HL2 HPI2 HPS HP HL HPI HNB HJB hi1 hij hjb hlt hngt hj1 c1 c2 f1 f2 l1 l2 hmx hmy hne1 hne2 hle hle'
                      obtain ⟨i, j, d2, hi1, hij, hjb, haj, rfl, rfl, HR⟩ := hrel
                      have HL := hid HR.out.1
                      have HS0 := hid HR.out.2.1
                      have HPI := hid HR.out.2.2.1
                      have HP := hid HR.out.2.2.2
                      clear HR
                      obtain ⟨iS, hiS⟩ : ∃ iS, iS = i := ⟨i, rfl⟩
                      go_wp2
                      go_loopw [12] (fun iv wr => ∃ (i : Nat), a + 1 ≤ i ∧ iS ≤ i ∧ i ≤ j + 1 ∧ iv = .int .i64 (i : Nat) ∧ Hid (So B blk cap sv n sc d2 wr ∧ Hpp.Pt sc a b i j d2)) (fun iv _ => b + 1 - (intOf iv).toNat)
                      case atStart => first | exact ⟨i, by omega, by omega, by omega, rfl, hid ⟨HS0.out, HP.out⟩⟩ | exact ⟨i, by omega, by omega, by omega, by go_num, hid ⟨HS0.out, HP.out⟩⟩
                      case round =>
                        clear HP HS0 hi1 hij
                        obtain ⟨i, hi1, hiSi, hij, rfl, HR⟩ := hrel
                        have HS := hid HR.out.1
                        have HP := hid HR.out.2
                        clear HR
                        by_cases hle : i ≤ j
                        · have hle' : (i : Int) ≤ j := by omega
                          obtain ⟨c1, _, l1⟩ := HS.out.cells (k := i) (by rw [HL.out]; omega)
                          obtain ⟨c2, _, l2⟩ := HS.out.cells (k := a) (by rw [HL.out]; omega)
                          have C := hid (HS.out.cmp hn (i := i) (j := a) (by rw [HL.out]; omega) (by rw [HL.out]; omega))
                          have hm1 : (i : Int) < m := by omega
                          have hm0 : (a : Int) < m := by omega
                          by_cases hb1 : Hpp.bef sc (d2.getD i 0) (d2.getD a 0)
                          · have hcf : Hpp.cf sc (d2.getD i 0) (d2.getD a 0) < 0 := (Hpp.cf_lt _ _ _).2 hb1
                            have HN := hid (HP.out.inc hb1)
                            clear hb1
                            generalize Hpp.cf sc (d2.getD i 0) (d2.getD a 0) = r at C hcf
                            generalize d2.getD i 0 = zx at C c1 l1
                            generalize d2.getD a 0 = zy at C c2 l2
                            have hcb : decide (r < 0) = true := decide_eq_true hcf
                            clear hcf
                            go_wp2_with (fail)
                            go_quiet ((go_at_call 46; exact Calls.quiet_of (C.out _ ⟨_, rfl⟩)))
                            have HF := hid (HS.out.below (Drawn.below ⟨nq, rfl⟩))
                            go_wp2
                            go_roundw
                            case rel => exact ⟨i + 1, by omega, by omega, by omega, by go_num, hid ⟨HF.out, HN.out⟩⟩
                            case measure => simp only [intOf]; omega
                          · have hcf : ¬ Hpp.cf sc (d2.getD i 0) (d2.getD a 0) < 0 := fun h => hb1 ((Hpp.cf_lt _ _ _).1 h)
                            have HNB := hid hb1
                            clear hb1
                            generalize Hpp.cf sc (d2.getD i 0) (d2.getD a 0) = r at C hcf
                            generalize d2.getD i 0 = zx at C c1 l1
                            generalize d2.getD a 0 = zy at C c2 l2
                            have hcb : decide (r < 0) = false := decide_eq_false hcf
                            clear hcf
                            go_wp2_with (fail)
                            go_quiet ((go_at_call 46; exact Calls.quiet_of (C.out _ ⟨_, rfl⟩)))
                            have HF := hid (HS.out.below (Drawn.below ⟨nq, rfl⟩))
                            generalize wr.drewN nq = w6 at *
                            clear C c1 c2 hcb HS hm1 hm0 l1 l2
                            go_wp2
                            go_loopw [13] (fun jv wr => ∃ (j : Nat), i ≤ j + 1 ∧ j < b ∧ jv = .int .i64 (j : Nat) ∧ Hid (So B blk cap sv n sc d2 wr ∧ Hpp.Pt sc a b i j d2)) (fun jv _ => (intOf jv).toNat)
                            case atStart => exact ⟨j, by omega, hjb, rfl, hid ⟨HF.out, HP.out⟩⟩
                            case round =>
                              clear HP HF hij hjb hle hle'
                              obtain ⟨j, hij, hjb, rfl, HR⟩ := hrel
                              have HS := hid HR.out.1
                              have HP := hid HR.out.2
                              clear HR
                              by_cases hle : i ≤ j
                              · have hle' : (i : Int) ≤ j := by omega
                                obtain ⟨c1, _, l1⟩ := HS.out.cells (k := j) (by rw [HL.out]; omega)
                                obtain ⟨c2, _, l2⟩ := HS.out.cells (k := a) (by rw [HL.out]; omega)
                                have C := hid (HS.out.cmp hn (i := j) (j := a) (by rw [HL.out]; omega) (by rw [HL.out]; omega))
                                have hm1 : (j : Int) < m := by omega
                                have hm0 : (a : Int) < m := by omega
                                by_cases hb1 : Hpp.bef sc (d2.getD j 0) (d2.getD a 0)
                                · have hcf : Hpp.cf sc (d2.getD j 0) (d2.getD a 0) < 0 := (Hpp.cf_lt _ _ _).2 hb1
                                  have HJB := hid hb1
                                  clear hb1
                                  generalize Hpp.cf sc (d2.getD j 0) (d2.getD a 0) = r at C hcf
                                  generalize d2.getD j 0 = zx at C c1 l1
                                  generalize d2.getD a 0 = zy at C c2 l2
                                  have hcb : decide (r < 0) = true := decide_eq_true hcf
                                  clear hcf
                                  go_wp2_with (fail)
                                  go_quiet ((go_at_call 46; exact Calls.quiet_of (C.out _ ⟨_, rfl⟩)))
                                  have HF := hid (HS.out.below (Drawn.below ⟨nq, rfl⟩))
                                  generalize wr.drewN nq = w7 at *
                                  clear C c1 c2 hcb HS hm1 hm0 l1 l2
                                  have hlt : i < j := by
                                    rcases Nat.lt_or_ge i j with h | h
                                    · exact h
                                    · obtain rfl : i = j := by omega
                                      exact absurd HJB.out HNB.out
                                  have HPS := hid (HP.out.swap hlt hi1 (by rw [HL.out]; omega) hjb HJB.out HNB.out)
                                  have HPI2 := hid (show Hpp.PI a b (Hpp.swp d2 i j) ds from (Hpp.PI.swp (by omega) (by omega) (by rw [HL.out]; exact hb)).trans HPI.out)
                                  have HL2 := hid (show (Hpp.swp d2 i j).length = m by rw [Hpp.swp_len]; exact HL.out)
                                  obtain ⟨j1, hj1⟩ : ∃ q : Nat, (j : Int) - 1 = (q : Int) := ⟨j - 1, by omega⟩
                                  have hngt : ¬ (j : Int) < i := by omega
                                  obtain ⟨c1, f1, l1⟩ := HF.out.cells (k := i) (by rw [HL.out]; omega)
                                  obtain ⟨c2, f2, l2⟩ := HF.out.cells (k := j) (by rw [HL.out]; omega)
                                  have HX := hid (fun q => (HF.out.below (Drawn.below ⟨q, rfl⟩)).swap (W := w7.drewN q) (i := i) (j := j) (by rw [HL.out]; omega) (by rw [HL.out]; omega))
                                  have hmx : (i : Int) < m := by omega
                                  have hmy : (j : Int) < m := by omega
                                  generalize hzx : d2.getD i 0 = zx at c1 HX l1
                                  generalize hzy : d2.getD j 0 = zy at c2 HX l2
                                  have hne1 : ¬ i = j := by omega
                                  have hne2 : ¬ j = i := by omega
                                  clear hzx hzy
                                  go_wp2_with (fail)
                                  go_region
                                  all_goals
                                    have HX2 := hid (HX.out 1)
                                    go_wp2
                                    go_roundw
                                    case rel => exact ⟨i + 1, j1, _, by omega, by omega, by omega, by omega, by go_num, rfl, hid ⟨HL2.out, HX2.out, HPI2.out, by rw [show j1 = j - 1 by omega]; exact HPS.out⟩⟩
                                    case measure => simp only [intOf]; omega
                                · have hcf : ¬ Hpp.cf sc (d2.getD j 0) (d2.getD a 0) < 0 := fun h => hb1 ((Hpp.cf_lt _ _ _).1 h)
                                  obtain ⟨j0, hj0⟩ : ∃ q : Nat, (j : Int) - 1 = (q : Int) := ⟨j - 1, by omega⟩
                                  have HN := hid (show Hpp.Pt sc a b i j0 d2 from HP.out.dec hb1 (by omega))
                                  clear hb1
                                  generalize Hpp.cf sc (d2.getD j 0) (d2.getD a 0) = r at C hcf
                                  generalize d2.getD j 0 = zx at C c1 l1
                                  generalize d2.getD a 0 = zy at C c2 l2
                                  have hcb : decide (r < 0) = false := decide_eq_false hcf
                                  clear hcf
                                  go_wp2_with (fail)
                                  go_quiet ((go_at_call 46; exact Calls.quiet_of (C.out _ ⟨_, rfl⟩)))
                                  have HF := hid (HS.out.below (Drawn.below ⟨nq, rfl⟩))
                                  go_wp2
                                  go_roundw
                                  case rel => exact ⟨j0, by omega, by omega, rfl, hid ⟨HF.out, HN.out⟩⟩
                                  case measure => simp only [intOf]; omega
                              · have hle' : ¬ (i : Int) ≤ j := by omega
                                go_wp2_with (fail)
                                go_quiet (fail)
                                have HF := hid (HS.out.below (Drawn.below ⟨nq, rfl⟩))
                                generalize wr.drewN nq = w7 at *
                                clear HS
                                obtain rfl : i = j + 1 := by omega
                                have HPT := hid (HP.out.fin (by rw [HL.out]; omega) (by omega) (by omega) HF.out.nd)
                                have HPI2 := hid (show Hpp.PI a b (Hpp.swp d2 j a) ds from (Hpp.PI.swp (by omega) (by omega) (by rw [HL.out]; exact hb)).trans HPI.out)
                                have hji : (j : Int) < (j : Int) + 1 := by omega
                                obtain ⟨c1, f1, l1⟩ := HF.out.cells (k := j) (by rw [HL.out]; omega)
                                obtain ⟨c2, f2, l2⟩ := HF.out.cells (k := a) (by rw [HL.out]; omega)
                                have HX := hid (fun q => (HF.out.below (Drawn.below ⟨q, rfl⟩)).swap (W := w7.drewN q) (i := j) (j := a) (by rw [HL.out]; omega) (by rw [HL.out]; omega))
                                have hmx : (j : Int) < m := by omega
                                have hmy : (a : Int) < m := by omega
                                generalize hzx : d2.getD j 0 = zx at c1 HX l1
                                generalize hzy : d2.getD a 0 = zy at c2 HX l2
                                by_cases hja : j = a
                                · subst hja
                                  obtain rfl : zx = zy := by rw [← hzx, ← hzy]
                                  clear hzx hzy
                                  go_wp2_with (fail)
                                  go_region
                                  all_goals
                                    have HX2 := hid (HX.out 1)
                                    go_wp2
                                    go_ret2
                                    exact ⟨j, false, _, rfl, ⟨by omega, by omega⟩, HX2.out, HPI2.out, HPT.out⟩
                                · have hja2 : ¬ a = j := fun e => hja e.symm
                                  clear hzx hzy
                                  go_wp2_with (fail)
                                  go_region
                                  all_goals
                                    have HX2 := hid (HX.out 1)
                                    go_wp2
                                    go_ret2
                                    exact ⟨j, false, _, rfl, ⟨by omega, by omega⟩, HX2.out, HPI2.out, HPT.out⟩
                        · have hle' : ¬ (i : Int) ≤ j := by omega
                          go_wp2_with (fail)
                          go_quiet (fail)
                          have HF := hid (HS.out.below (Drawn.below ⟨nq, rfl⟩))
                          generalize wr.drewN nq = w6 at *
                          clear HS
                          go_wp2
                          go_loopw [13] (fun jv wr => jv = .int .i64 (j : Nat) ∧ Hid (So B blk cap sv n sc d2 wr)) (fun jv _ => 0)
                          case atStart => exact ⟨rfl, HF⟩
                          case round =>
                            clear HF
                            obtain ⟨rfl, HS⟩ := hrel
                            go_wp2_with (fail)
                            go_quiet (fail)
                            have HF := hid (HS.out.below (Drawn.below ⟨nq, rfl⟩))
                            generalize wr.drewN nq = w7 at *
                            clear HS
                            obtain rfl : i = j + 1 := by omega
                            have HPT := hid (HP.out.fin (by rw [HL.out]; omega) (by omega) (by omega) HF.out.nd)
                            have HPI2 := hid (show Hpp.PI a b (Hpp.swp d2 j a) ds from (Hpp.PI.swp (by omega) (by omega) (by rw [HL.out]; exact hb)).trans HPI.out)
                            have hji : (j : Int) < (j : Int) + 1 := by omega
                            obtain ⟨c1, f1, l1⟩ := HF.out.cells (k := j) (by rw [HL.out]; omega)
                            obtain ⟨c2, f2, l2⟩ := HF.out.cells (k := a) (by rw [HL.out]; omega)
                            have HX := hid (fun q => (HF.out.below (Drawn.below ⟨q, rfl⟩)).swap (W := w7.drewN q) (i := j) (j := a) (by rw [HL.out]; omega) (by rw [HL.out]; omega))
                            have hmx : (j : Int) < m := by omega
                            have hmy : (a : Int) < m := by omega
                            generalize hzx : d2.getD j 0 = zx at c1 HX l1
                            generalize hzy : d2.getD a 0 = zy at c2 HX l2
                            by_cases hja : j = a
                            · subst hja
                              obtain rfl : zx = zy := by rw [← hzx, ← hzy]
                              clear hzx hzy
                              go_wp2_with (fail)
                              go_region
                              all_goals
                                have HX2 := hid (HX.out 1)
                                go_wp2
                                go_ret2
                                exact ⟨j, false, _, rfl, ⟨by omega, by omega⟩, HX2.out, HPI2.out, HPT.out⟩
                            · have hja2 : ¬ a = j := fun e => hja e.symm
                              clear hzx hzy
                              go_wp2_with (fail)
                              go_region
                              all_goals
                                have HX2 := hid (HX.out 1)
                                go_wp2
                                go_ret2
                                exact ⟨j, false, _, rfl, ⟨by omega, by omega⟩, HX2.out, HPI2.out, HPT.out⟩
                · have hcf : ¬ Hpp.cf sc (d1.getD j 0) (d1.getD a 0) < 0 := fun h => hb1 ((Hpp.cf_lt _ _ _).1 h)
                  obtain ⟨j0, hj0⟩ : ∃ q : Nat, (j : Int) - 1 = (q : Int) := ⟨j - 1, by omega⟩
                  have HN := hid (show Hpp.Pt sc a b i j0 d1 from HP.out.dec hb1 (by omega))
                  clear hb1
                  generalize Hpp.cf sc (d1.getD j 0) (d1.getD a 0) = r at C hcf
                  generalize d1.getD j 0 = zx at C c1 l1
                  generalize d1.getD a 0 = zy at C c2 l2
                  have hcb : decide (r < 0) = false := decide_eq_false hcf
                  clear hcf
                  go_wp2_with (fail)
                  go_quiet ((go_at_call 46; exact Calls.quiet_of (C.out _ ⟨_, rfl⟩)))
                  have HF := hid (HS.out.below (Drawn.below ⟨nq, rfl⟩))
                  go_wp2
                  go_roundw
                  case rel => exact ⟨j0, by omega, by omega, rfl, hid ⟨HF.out, HN.out⟩⟩
                  case measure => simp only [intOf]; omega
              · have hle' : ¬ (i : Int) ≤ j := by omega
                go_wp2_with (fail)
                go_quiet (fail)
                have HF := hid (HS.out.below (Drawn.below ⟨nq, rfl⟩))
                generalize wr.drewN nq = w7 at *
                clear HS
                obtain rfl : i = j + 1 := by omega
                have HPT := hid (HP.out.fin (by rw [HL.out]; omega) (by omega) (by omega) HF.out.nd)
                have HPI2 := hid (show Hpp.PI a b (Hpp.swp d1 j a) ds from (Hpp.PI.swp (by omega) (by omega) (by rw [HL.out]; exact hb)).trans HPI.out)
                have hji : (j : Int) < (j : Int) + 1 := by omega
                obtain ⟨c1, f1, l1⟩ := HF.out.cells (k := j) (by rw [HL.out]; omega)
                obtain ⟨c2, f2, l2⟩ := HF.out.cells (k := a) (by rw [HL.out]; omega)
                have HX := hid (fun q => (HF.out.below (Drawn.below ⟨q, rfl⟩)).swap (W := w7.drewN q) (i := j) (j := a) (by rw [HL.out]; omega) (by rw [HL.out]; omega))
                have hmx : (j : Int) < m := by omega
                have hmy : (a : Int) < m := by omega
                generalize hzx : d1.getD j 0 = zx at c1 HX l1
                generalize hzy : d1.getD a 0 = zy at c2 HX l2
                by_cases hja : j = a
                · subst hja
                  obtain rfl : zx = zy := by rw [← hzx, ← hzy]
                  clear hzx hzy
                  go_wp2_with (fail)
                  go_region
                  all_goals
                    have HX2 := hid (HX.out 1)
                    go_wp2
                    go_ret2
                    exact ⟨j, true, _, rfl, ⟨by omega, by omega⟩, HX2.out, HPI2.out, HPT.out⟩
                · have hja2 : ¬ a = j := fun e => hja e.symm
                  clear hzx hzy
                  go_wp2_with (fail)
                  go_region
                  all_goals
                    have HX2 := hid (HX.out 1)
                    go_wp2
                    go_ret2
                    exact ⟨j, true, _, rfl, ⟨by omega, by omega⟩, HX2.out, HPI2.out, HPT.out⟩
        · have hle' : ¬ (i : Int) ≤ j := by omega
          go_wp2_with (fail)
          go_quiet (fail)
          have HF := hid (HS.out.below (Drawn.below ⟨nq, rfl⟩))
          generalize wr.drewN nq = w6 at *
          clear HS
          go_wp2
          go_loopw [13] (fun jv wr => jv = .int .i64 (j : Nat) ∧ Hid (So B blk cap sv n sc d1 wr)) (fun jv _ => 0)
          case atStart => exact ⟨rfl, HF⟩
          case round =>
            clear HF
            obtain ⟨rfl, HS⟩ := hrel
            go_wp2_with (fail)
            go_quiet (fail)
            have HF := hid (HS.out.below (Drawn.below ⟨nq, rfl⟩))
            generalize wr.drewN nq = w7 at *
            clear HS
            obtain rfl : i = j + 1 := by omega
            have HPT := hid (HP.out.fin (by rw [HL.out]; omega) (by omega) (by omega) HF.out.nd)
            have HPI2 := hid (show Hpp.PI a b (Hpp.swp d1 j a) ds from (Hpp.PI.swp (by omega) (by omega) (by rw [HL.out]; exact hb)).trans HPI.out)
            have hji : (j : Int) < (j : Int) + 1 := by omega
            obtain ⟨c1, f1, l1⟩ := HF.out.cells (k := j) (by rw [HL.out]; omega)
            obtain ⟨c2, f2, l2⟩ := HF.out.cells (k := a) (by rw [HL.out]; omega)
            have HX := hid (fun q => (HF.out.below (Drawn.below ⟨q, rfl⟩)).swap (W := w7.drewN q) (i := j) (j := a) (by rw [HL.out]; omega) (by rw [HL.out]; omega))
            have hmx : (j : Int) < m := by omega
            have hmy : (a : Int) < m := by omega
            generalize hzx : d1.getD j 0 = zx at c1 HX l1
            generalize hzy : d1.getD a 0 = zy at c2 HX l2
            by_cases hja : j = a
            · subst hja
              obtain rfl : zx = zy := by rw [← hzx, ← hzy]
              clear hzx hzy
              go_wp2_with (fail)
              go_region
              all_goals
                have HX2 := hid (HX.out 1)
                go_wp2
                go_ret2
                exact ⟨j, true, _, rfl, ⟨by omega, by omega⟩, HX2.out, HPI2.out, HPT.out⟩
            · have hja2 : ¬ a = j := fun e => hja e.symm
              clear hzx hzy
              go_wp2_with (fail)
              go_region
              all_goals
                have HX2 := hid (HX.out 1)
                go_wp2
                go_ret2
                exact ⟨j, true, _, rfl, ⟨by omega, by omega⟩, HX2.out, HPI2.out, HPT.out⟩
end Go.Proofs.Ytjbnkkjihcoojaa
