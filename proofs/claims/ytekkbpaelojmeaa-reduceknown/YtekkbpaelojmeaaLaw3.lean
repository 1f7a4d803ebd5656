/- ReduceChooses, where a record of tier 2 was not used below 0 times. -/
import Derived.Test.YtekkbpaelojmeaaCh2
import Derived.Test.YtekkbpaelojmeaaBth
import Derived.Test.YtekkbpaelojmeaaWrk
namespace Go.Proofs.Ytekkbpaelojmeaa
open Go.RowKit Go.Maps
set_option linter.unusedVariables false
set_option linter.unusedSimpArgs false
set_option maxRecDepth 100000

/-- Records in both forms, in memory. -/
structure Two (W : World) (rs : List Rc) (o1 o2 : Option Addr) (w : World) : Prop where
  bel : Below W.heap.size W w
  fst : Rcs w o1 rs
  snd : Rcs w o2 rs
theorem Two.below {W : World} {rs : List Rc} {o1 o2 : Option Addr} {w w' : World} (h : Two W rs o1 o2 w) (hb : Below w.heap.size w w') : Two W rs o1 o2 w' :=
  ⟨h.bel.trans (hb.mono h.bel.size), h.fst.below hb, h.snd.below hb⟩
/-- What both Chooses answer. -/
def AnsOut (base : Nat) (rs : List Rc) (g p : Int) (e : Ending) (w' : World) : Prop :=
  ∃ (o : Option Addr) (m d : Nat) (er : Int) (xs : List Int), e = .returned (.tuple #[.slice o m d, .int .i64 er]) ∧ xs.length = m ∧ m ≤ rs.length ∧ Ids w' o xs ∧ er = (if 0 ≤ p ∧ p ≤ 100 then 0 else 2) ∧ xs = (if 0 ≤ p ∧ p ≤ 100 then chosen rs g p else [])
theorem ans10 {W : World} {a : Option Addr} {n c : Nat} {rs : List Rc} (g : Int) (p : Int) (hx : Rcs W a rs) (hn : rs.length = n) (hN : n ≤ 1000) :
    Calls Try.prog 10 #[.slice a n c, .int .i64 g, .int .i64 p] W fun e w' => AnsOut W.heap.size rs g p e w' ∧ Below W.heap.size W w' := by
  by_cases hp : 0 ≤ p ∧ p ≤ 100
  · refine (choose10 g p hx hn (by omega) hp).mono ?_
    rintro e w' ⟨⟨o, he, ho⟩, hb⟩
    exact ⟨⟨o, _, _, 0, chosen rs g p, he, rfl, chosen_len rs g p, own_ids ho rfl, by rw [if_pos hp], by rw [if_pos hp]⟩, hb⟩
  · refine (choose10_no g hp).mono ?_
    rintro e w' ⟨he, rfl⟩
    exact ⟨⟨none, 0, 0, 2, [], he, rfl, Nat.zero_le _, .inl rfl, by rw [if_neg hp], by rw [if_neg hp]⟩, Below.refl _ _⟩
theorem ans11 {W : World} {a : Option Addr} {n c : Nat} {rs : List Rc} (g : Int) (p : Int) (hx : Rcs W a rs) (hn : rs.length = n) (hN : n ≤ 1000) (hm : ∀ r ∈ rs, mayP r g = mayD r g) :
    Calls Try.prog 11 #[.slice a n c, .int .i64 g, .int .i64 p] W fun e w' => AnsOut W.heap.size rs g p e w' ∧ Below W.heap.size W w' := by
  by_cases hp : 0 ≤ p ∧ p ≤ 100
  · refine (choose11 g p hx hn (by omega) hp hm).mono ?_
    rintro e w' ⟨⟨o, d, he, ho⟩, hb⟩
    exact ⟨⟨o, _, d, 0, chosen rs g p, he, rfl, chosen_len rs g p, own_ids ho rfl, by rw [if_pos hp], by rw [if_pos hp]⟩, hb⟩
  · refine (choose11_no g hp).mono ?_
    rintro e w' ⟨he, rfl⟩
    exact ⟨⟨none, 0, 0, 2, [], he, rfl, Nat.zero_le _, .inl rfl, by rw [if_neg hp], by rw [if_neg hp]⟩, Below.refl _ _⟩
set_option maxHeartbeats 8000000 in
theorem law3 {W : World} {a : Option Addr} {n c : Nat} {rs : List Rc} (g p : Int) (hx : Rcs W a rs) (hn : rs.length = n) (hN : n ≤ 8796093022208) (hu : ∀ r ∈ rs, tier r.k.lb g = 2 → 0 ≤ r.k.us) :
    Calls Try.prog 3 #[.slice a n c, .int .i64 g, .int .i64 p] W fun e w' => e = .returned (.bool true) ∧ Below W.heap.size W w' := by
  by_cases h200 : n ≤ 200
  · have C7 := hid (both7 (c := c) hx hn (by omega))
    have hok := hx.ok
    have HX := hid (fun X (hX : Below W.heap.size W X) => hx.below hX)
    have HN := hid hn
    have HMM := hid (fun r (hr : r ∈ rs) => may_eq (hu r hr))
    have h200' : ¬ (200 : Int) < n := by omega
    have C8 := hid (fun r w => tier8 r g w)
    have C9 := hid (fun r w => tier9 r g w)
    clear hx
    go_enter Try.func3, Try.ntmps3
    go_wp2_with (go_at_call 7; refine C7.out.mono ?_; rintro e w1 ⟨⟨o1, c1, o2, c2, rfl, ho1, ho2⟩, hb⟩
                 have HT := hid (Two.mk hb (own_rcs ho1 hn hok) (own_rcs ho2 hn hok) : Two W rs o1 o2 w1); clear ho1 ho2 hb)
    have sh : Hid (n = 0) ∨ ∃ g1 f1 g2 f2, o1 = some ⟨g1, f1, none⟩ ∧ o2 = some ⟨g2, f2, none⟩ := by
      rcases HT.out.fst.shape with h | ⟨g1, f1, e1⟩
      · left; rw [hn] at h; exact hid h
      · rcases HT.out.snd.shape with h | ⟨g2, f2, e2⟩
        · left; rw [hn] at h; exact hid h
        · exact .inr ⟨g1, f1, g2, f2, e1, e2⟩
    rcases sh with Z | ⟨g1, f1, g2, f2, rfl, rfl⟩
    all_goals
      go_loopw [9] (fun iv wr => ∃ i : Nat, i ≤ n ∧ iv = .int .i64 i ∧ Hid (Two W rs _ _ wr)) (fun iv _ => n - (intOf iv).toNat)
      case atStart => exact ⟨0, Nat.zero_le _, rfl, HT⟩
      case round =>
        obtain ⟨i, hi, rfl, HW⟩ := hrel
        by_cases hlt : i < n
        · first
          | (exfalso; have := Z.out; omega)
          | (have hlt' : (i : Int) < n := by omega
             have hix : i < rs.length := by rw [HN.out]; exact hlt
             have HS10 := hid (fun X (hX : Below wr.heap.size wr X) => And.intro ((HW.out.below hX).fst.at hix).2 (And.intro ((HW.out.below hX).snd.at hix).2 hX))
             have C8r := hid (fun w => C8.out rs[i] w)
             have C9r := hid (fun w => C9.out rs[i] w)
             generalize rs[i] = r at *
             obtain ⟨⟨id, lb, sz, us⟩, lk⟩ := r
             dsimp only [rec5] at C8r C9r HS10
             generalize tier lb g = tt at *
             have htt : (tt != tt) = false := by simp
             have HBD := hid (show Below wr.heap.size wr wr.drew from (Below.refl _ _).drew)
             go_wp2_with fail
             go_region_held3 (fun X => (X.cell? ⟨g1, f1 + i * 5, none⟩ = some (.int .i64 id) ∧ X.cell? ⟨g1, f1 + i * 5 + 1, none⟩ = some (.int .i64 lb) ∧ X.cell? ⟨g1, f1 + i * 5 + 2, none⟩ = some (.int .i64 sz) ∧ X.cell? ⟨g1, f1 + i * 5 + 3, none⟩ = some (.int .i64 us) ∧ X.cell? ⟨g1, f1 + i * 5 + 4, none⟩ = some (.bool lk)) ∧ (X.cell? ⟨g2, f2 + i * 5, none⟩ = some (.int .i64 id) ∧ X.cell? ⟨g2, f2 + i * 5 + 1, none⟩ = some (.int .i64 lb) ∧ X.cell? ⟨g2, f2 + i * 5 + 2, none⟩ = some (.int .i64 sz) ∧ X.cell? ⟨g2, f2 + i * 5 + 3, none⟩ = some (.int .i64 us) ∧ X.cell? ⟨g2, f2 + i * 5 + 4, none⟩ = some (.bool lk)) ∧ Below wr.heap.size wr X)
               (first | exact HS10.out _ HBD.out | exact HS10.out _ hb8 | exact HS10.out _ hb9)
               (first
                 | (go_at_call 8; refine (C8r.out _).mono ?_; rintro e w8 ⟨rfl, hw8⟩; have hb8 := (show Below wr.heap.size wr w8 from by rw [hw8]; first | exact HBD.out.trans ((below_box _ _).mono (by simp)) | exact hb9.trans ((below_box _ _).mono hb9.size)); clear hw8)
                 | (go_at_call 9; refine (C9r.out _).mono ?_; rintro e w9 ⟨rfl, hw9⟩; have hb9 := (show Below wr.heap.size wr w9 from by rw [hw9]; first | exact hb8.trans ((below_box _ _).mono hb8.size) | exact HBD.out.trans ((below_box _ _).mono (by simp))); clear hw9))
             have HWN := hid (HW.out.below hb9)
             clear HS10 C8r C9r
             go_wp2_with fail
             go_roundw
             case rel => exact ⟨i + 1, by omega, by go_num, HWN⟩
             case measure => simp [intOf]; omega)
        · have hge : ¬ (i : Int) < n := by omega
          have hin : i = n := by omega
          subst hin
          have C12 := hid (fun w a b n c1 c2 xs => same12 (w := w) (a := a) (b := b) (n := n) (c1 := c1) (c2 := c2) (xs := xs))
          have C13 := hid (fun w => works13 w)
          obtain ⟨E, hE⟩ : ∃ E : Int, (if 0 ≤ p ∧ p ≤ 100 then (0 : Int) else 2) = E := ⟨_, rfl⟩
          obtain ⟨xs, hxs⟩ : ∃ xs : List Int, (if 0 ≤ p ∧ p ≤ 100 then chosen rs g p else []) = xs := ⟨_, rfl⟩
          have HE := hid hE
          have HXS := hid hxs
          clear hE hxs C8 C9 HT
          go_wp2_with fail
          refine (ans10 (c := c1) g p HW.out.fst HN.out (by omega)).mono ?_
          rintro e w3 ⟨⟨ox, m1, d1, er1, xs1, rfl, hl1, hm1, hi1, he1, hx1⟩, hb3⟩
          rw [HE.out] at he1
          rw [HXS.out] at hx1
          subst he1 hx1
          have HW3 := hid (HW.out.below hb3)
          clear HW
          go_wp2_with fail
          refine (ans11 (c := c2) g p HW3.out.snd HN.out (by omega) HMM.out).mono ?_
          rintro e w4 ⟨⟨oy, m2, d2, er2, xs2, rfl, hl2, hm2, hi2, he2, hx2⟩, hb4⟩
          rw [HE.out] at he2
          rw [HXS.out] at hx2
          subst he2 hx2
          have HW4 := hid (HW3.out.below hb4)
          have HI1 := hid (hi1.below hb4)
          have HI2 := hid hi2
          rw [hl1] at hl2
          subst hl2
          clear HW3 hi1 hi2 hb3 hb4
          have C7b := hid (both7 (c := c) (HX.out w4 HW4.out.bel) HN.out (by omega))
          go_wp2_with (go_at_call 7; refine C7b.out.mono ?_; rintro e w5 ⟨⟨o3, c3, o4, c4, rfl, ho3, _⟩, hb5⟩)
          have HW5 := hid (HW4.out.below hb5)
          have HR5 := hid (own_rcs ho3 HN.out hok)
          have HI1b := hid (HI1.out.below hb5)
          have HI2b := hid (HI2.out.below hb5)
          clear ho3 hb5 HW4 HI1 HI2
          have sh3 : Hid (i = 0) ∨ ∃ g3 f3, o3 = some ⟨g3, f3, none⟩ := by
            rcases HR5.out.shape with h | h
            · left; rw [HN.out] at h; exact hid h
            · exact .inr h
          rcases sh3 with Z3 | ⟨g3, f3, rfl⟩
          all_goals
            go_loopw [16] (fun iv wr => ∃ j : Nat, j ≤ i ∧ iv = .int .i64 j ∧ Hid (Below w5.heap.size w5 wr)) (fun iv _ => i - (intOf iv).toNat)
            case atStart => exact ⟨0, Nat.zero_le _, rfl, hid (Below.refl _ _)⟩
            case round =>
              obtain ⟨j, hj, rfl, HB⟩ := hrel
              by_cases hji : j < i
              · first
                | (exfalso; have := Z3.out; omega)
                | (exfalso; have := Z.out; omega)
                | (have hji' : (j : Int) < i := by omega
                   have hjx : j < rs.length := by rw [HN.out]; exact hji
                   obtain ⟨_, x0, x1, x2, x3, x4⟩ := (HW5.out.below HB.out).fst.at hjx
                   obtain ⟨_, y0, y1, y2, y3, y4⟩ := (HR5.out.below HB.out).at hjx
                   have HBD := hid (fun q => HB.out.trans ((Drawn.below (w := wr) ⟨q, rfl⟩).mono HB.out.size))
                   generalize rs[j] = r at *
                   obtain ⟨⟨id, lb, sz, us⟩, lk⟩ := r
                   dsimp only at x0 x1 x2 x3 x4 y0 y1 y2 y3 y4
                   go_wp2_with fail
                   go_quiet (fail)
                   go_wp2_with fail
                   go_roundw
                   case rel => exact ⟨j + 1, by omega, by go_num, hid (HBD.out _)⟩
                   case measure => simp [intOf]; omega)
              · have hjg : ¬ (j : Int) < i := by omega
                have hEE : (er2 == er2) = true := by simp
                have HS12 := hid (same12 (c1 := d1) (c2 := d2) (HI1b.out.below HB.out) (HI2b.out.below HB.out) hl1 (by have := HN.out; omega))
                have HBW := hid (HW5.out.bel.trans (HB.out.mono HW5.out.bel.size))
                clear HW5 HR5 HI1b HI2b C12 HX HMM
                go_wp2_with (first
                  | (go_at_call 12; refine HS12.out.mono ?_; rintro e w6 ⟨rfl, hb6⟩)
                  | (go_at_call 13; refine (C13.out _).mono ?_; rintro e w7 ⟨rfl, hb7⟩))
                go_ret
                exact ⟨rfl, (HBW.out.trans (hb6.mono HBW.out.size)).trans (hb7.mono (Nat.le_trans HBW.out.size hb6.size))⟩
  · have h200' : (200 : Int) < n := by omega
    go_enter Try.func3, Try.ntmps3
    go_wp2_with fail
    go_ret
    exact ⟨rfl, Below.refl _ _⟩
end Go.Proofs.Ytekkbpaelojmeaa
