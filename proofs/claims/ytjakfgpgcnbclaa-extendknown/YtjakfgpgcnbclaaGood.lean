/- Whether a witness is good, as the statement asks it: a call. -/
import Derived.Test.YtjakfgpgcnbclaaGd
namespace Go.Proofs.Ytjakfgpgcnbclaa
open Go.RowKit
set_option linter.unusedVariables false
set_option linter.unusedSimpArgs false

theorem pow16 (u : Nat) (h : u ≤ 16) : wrap64 ((2 : Int) ^ min u 64) = ((2 ^ u : Nat) : Int) ∧ 2 ^ u ≤ 65536 := by
  have h2 : 2 ^ u ≤ 2 ^ 16 := Nat.pow_le_pow_right (by decide) h
  have e : ((2 : Int) ^ u) = ((2 ^ u : Nat) : Int) := by simp
  rw [Nat.min_eq_left (by omega), e]
  unfold wrap64
  generalize 2 ^ u = x at h2
  constructor <;> omega
theorem MOwn.mono {B B' : Nat} {w : World} {a : Option Addr} {n : Nat} {m : List Bool} (h : MOwn B w a n m) (hb : B' ≤ B) : MOwn B' w a n m :=
  ⟨h.1, h.2.imp id (fun ⟨g, A, e, q1, q2⟩ => ⟨g, A, e, Nat.le_trans hb q1, q2⟩)⟩
theorem goodAt_nh {v : Nat} {rest : List (List Int)} {p : Ext.Wt} {k : Nat} (h : Cnf.holds rest (Tru.model v k) = false) : Ext.goodAt v rest p k = true := by simp [Ext.goodAt, h]
theorem goodAt_v {v : Nat} {rest : List (List Int)} {p : Ext.Wt} {k : Nat} (h : Cnf.val p.2 (Tru.model v k) = true) : Ext.goodAt v rest p k = true := by simp [Ext.goodAt, h]
theorem goodAt_t {v : Nat} {rest : List (List Int)} {p : Ext.Wt} {k : Nat} {b1 b2 : Bool} (h : Cnf.holds rest (Tru.model v k) = true) (h2 : Cnf.val p.2 (Tru.model v k) = false) (h3 : Cnf.holds rest (Ext.turn (Tru.model v k) p.1) = b1) (h4 : Cnf.val p.2 (Ext.turn (Tru.model v k) p.1) = b2) : Ext.goodAt v rest p k = (b1 && b2) := by simp [Ext.goodAt, h, h2, h3, h4]

set_option maxRecDepth 100000 in
set_option maxHeartbeats 8000000 in
theorem good14 (V : Nat) (ca a1 a2 : Option Addr) (cn ccap c1 c2 : Nat) (rest : List (List Int)) (p : Ext.Wt) (w : World) (hV : V ≤ 6) (hn : cn = rest.length) (hcn : cn ≤ 1000) (hc : Cls w ca rest) (h1 : Lits w a1 p.1) (h2 : Lits w a2 p.2) (hl1 : p.1.length ≤ 1000) (hl2 : p.2.length ≤ 35184372088832) (hok : Ext.okC V p.1 = true) :
    Calls Try.prog 14 #[.int .i64 V, .slice ca cn ccap, .agg #[.slice a1 p.1.length c1, .slice a2 p.2.length c2]] w fun e w' => e = .returned (.bool (Ext.good V rest p (2 ^ V))) ∧ Below w.heap.size w w' := by
  obtain ⟨hpw, hp2⟩ := pow16 V (by omega)
  have hpw2 := hpw
  rw [Nat.min_eq_left (by omega)] at hpw2
  generalize hP : 2 ^ V = P at hpw hp2 hpw2 ⊢
  obtain ⟨W1, hW1⟩ : ∃ W1, w.alloc (.cells #[.slice a1 p.1.length c1, .slice a2 p.2.length c2] 42) = W1 := ⟨_, rfl⟩
  have hB1 : Below w.heap.size w W1 := by rw [← hW1]; exact below_box _ _
  have hs1 : w.heap.size < W1.heap.size := by rw [← hW1]; simp
  have x0 : W1.cell? ⟨w.heap.size, 0, none⟩ = some (.slice a1 p.1.length c1) := by rw [← hW1]; exact row_cell (World.alloc_heap_new w _) 0
  have x1 : W1.cell? ⟨w.heap.size, 1, none⟩ = some (.slice a2 p.2.length c2) := by rw [← hW1]; exact row_cell (World.alloc_heap_new w _) 1
  have HC := hid (hc.below hB1)
  have H1 := hid (h1.below hB1)
  have H2 := hid (h2.below hB1)
  have HB1 := hid hB1
  have HN := hid hn
  have HOK := hid hok
  obtain ⟨n1, hn1⟩ : ∃ n1, p.1.length = n1 := ⟨_, rfl⟩
  obtain ⟨n2, hn2⟩ : ∃ n2, p.2.length = n2 := ⟨_, rfl⟩
  rw [hn1] at x0 hW1 hl1 ⊢
  rw [hn2] at x1 hW1 hl2 ⊢
  have HN1 := hid hn1
  have HN2 := hid hn2
  have HX0 := hid x0
  have HX1 := hid x1
  clear hc h1 h2 hB1 hn hok hn1 hn2 x0 x1 hP
  go_enter Try.func14, Try.ntmps14
  go_wp2
  clear hW1
  go_loopw [7, 8, 9, 10, 11] (fun k _ _ _ _ wr => ∃ j : Nat, j ≤ P ∧ k = .int .i64 j ∧ Hid (Ext.good V rest p j = true) ∧ Hid (Below W1.heap.size W1 wr)) (fun k _ _ _ _ _ => P - (intOf k).toNat)
  case atStart => exact ⟨0, Nat.zero_le _, rfl, hid rfl, hid (Below.refl _ _)⟩
  case round =>
    obtain ⟨j, hj, rfl, HG, HB⟩ := hrel
    by_cases hlt : j < P
    · have hlt' : (j : Int) < P := by omega
      have HGS := hid (Ext.good_succ V rest p j)
      have HGF := hid (Ext.good_false V rest p P j hlt)
      have C15 := hid (model15o j V wr (by omega) (by omega))
      go_wp2_with fail
      go_at_call 15
      refine C15.out.mono ?_
      clear C15
      rintro e W2 ⟨⟨am, capm, rfl, hM⟩, hb2⟩
      have hB12 : Below W1.heap.size W1 W2 := HB.out.trans (hb2.mono HB.out.size)
      obtain ⟨W3, hW3⟩ : ∃ W3, W2.alloc (.cells #[.int .i64 V, .slice ca cn ccap] 34) = W3 := ⟨_, rfl⟩
      have hb3 : Below W2.heap.size W2 W3 := by rw [← hW3]; exact below_box _ _
      have y0 : W3.cell? ⟨W2.heap.size, 0, none⟩ = some (.int .i64 V) := by rw [← hW3]; exact row_cell (World.alloc_heap_new W2 _) 0
      have y1 : W3.cell? ⟨W2.heap.size, 1, none⟩ = some (.slice ca cn ccap) := by rw [← hW3]; exact row_cell (World.alloc_heap_new W2 _) 1
      have hs3 : W2.heap.size < W3.heap.size := by rw [← hW3]; simp
      have hB13 : Below W1.heap.size W1 W3 := hB12.trans (hb3.mono hB12.size)
      have hM3 := hM.below hb3
      have C16 := hid (holds16 V ca am cn ccap V capm rest (Tru.model V j) W3 HN.out.symm (by omega) (Tru.model_len V j) (by omega) HC.out.1 (HC.out.below hB13) hM3.bools)
      have HB13 := hid hB13
      have HM3 := hid hM3
      have HY0 := hid y0
      have HY1 := hid y1
      have HGM := hid (fun hn => (hM.at hn))
      have hsr : W1.heap.size ≤ wr.heap.size := HB.out.size
      clear hM hM3 hB12 hb3 hB13 hb2 HB
      obtain ⟨bh, hbh⟩ : ∃ bh, Cnf.holds rest (Tru.model V j) = bh := ⟨_, rfl⟩
      rw [hbh] at C16
      have HBH := hid hbh
      clear hbh
      go_wp2_with fail
      clear y0 y1
      go_at_call 16
      refine C16.out.mono ?_
      clear C16
      rintro e W4 ⟨rfl, hb4⟩
      have HB14 := hid (HB13.out.trans (hb4.mono HB13.out.size))
      have HM4 := hid (HM3.out.below hb4)
      have HY0' := hid ((hb4.cell (p := ⟨W2.heap.size, 0, none⟩) hs3).trans HY0.out)
      have HY1' := hid ((hb4.cell (p := ⟨W2.heap.size, 1, none⟩) hs3).trans HY1.out)
      have z0 := (HB14.out.cell (p := ⟨w.heap.size, 0, none⟩) hs1).trans HX0.out
      have z1 := (HB14.out.cell (p := ⟨w.heap.size, 1, none⟩) hs1).trans HX1.out
      have hs4 := hb4.size
      clear hb4 HM3 HB13 HY0 HY1
      cases bh
      · have HGA := hid (goodAt_nh (p := p) HBH.out)
        go_wp2
        go_roundw
        case rel => exact ⟨j + 1, by omega, by go_num, hid (by rw [HGS.out, HG.out, HGA.out]; rfl), HB14⟩
        case measure => simp [intOf]; omega
      · have C19 := hid (value19 a2 am n2 c2 V capm p.2 (Tru.model V j) W4 HN2.out (by omega) (Tru.model_len V j) (by omega) (H2.out.below HB14.out) HM4.out.bools)
        obtain ⟨bv, hbv⟩ : ∃ bv, Cnf.val p.2 (Tru.model V j) = bv := ⟨_, rfl⟩
        rw [hbv] at C19
        have HBV := hid hbv
        clear hbv
        go_wp2_with fail
        go_at_call 19
        refine C19.out.mono ?_
        clear C19
        rintro e W5 ⟨rfl, hw5⟩
        rw [hw5]
        clear hw5
        cases bv
        · obtain ⟨M, hM⟩ : ∃ M, Tru.model V j = M := ⟨_, rfl⟩
          have HGT := hid (fun b1 b2 h3 h4 => goodAt_t (b1 := b1) (b2 := b2) HBH.out HBV.out h3 h4)
          rw [hM] at HM4 HGT
          have HML := hid (show M.length = V by rw [← hM]; exact Tru.model_len V j)
          clear hM HBH HBV
          have sh : (Hid (V = 0) ∧ ∃ g, g = W4.heap.size) ∨ ∃ g, am = some ⟨g, 0, none⟩ ∧ W1.heap.size ≤ g ∧ g < W2.heap.size := by
            rcases Nat.eq_zero_or_pos V with h | h
            · exact .inl ⟨h, _, rfl⟩
            · obtain ⟨g, e, h8, h9⟩ := HGM.out h
              exact .inr ⟨g, e, by omega, h9⟩
          clear HGM
          rcases sh with ⟨Z, g, hgz⟩ | ⟨g, rfl, hg1, hg2⟩
          all_goals
            have hgW1 : W1.heap.size ≤ g := by have := HB14.out.size; omega
            have hgF : W2.heap.size ≠ g := by omega
            go_wp2
            clear z0 z1
            go_loopw [10, 11] (fun q _ wr => ∃ k : Nat, k ≤ n1 ∧ q = .int .i64 k ∧ Hid (MOwn W1.heap.size wr _ V (Ext.turn M (p.1.take k))) ∧ Hid (Only g W4 wr)) (fun q _ _ => n1 - (intOf q).toNat)
            case atStart => exact ⟨0, Nat.zero_le _, rfl, hid (HM4.out.mono hsr), hid (Only.refl _ _)⟩
            case round =>
              clear HM4
              obtain ⟨q, hq, rfl, HM, HO⟩ := hrel
              have HBW := hid (HO.out.below HB14.out hgW1)
              have z0 := (HBW.out.cell (p := ⟨w.heap.size, 0, none⟩) hs1).trans HX0.out
              have z1 := (HBW.out.cell (p := ⟨w.heap.size, 1, none⟩) hs1).trans HX1.out
              by_cases hqn : q < n1
              · first
                | (exfalso; have := Ext.okC_pos HOK.out (by rw [HN1.out]; omega); have := Z.out; omega)
                | (have hqn' : (q : Int) < n1 := by omega
                   have hqs : q < p.1.length := by rw [HN1.out]; exact hqn
                   obtain ⟨b2, off2, rfl, hcx, hx1, hx2⟩ := (H1.out.below HBW.out).at (k := q) hqs
                   have HT := hid (Ext.turn_take M p.1 q hqs)
                   obtain ⟨hv0, hv1⟩ := Ext.okC_at HOK.out hqs
                   unfold Ext.put at HT
                   generalize p.1.getD q 0 = x at hcx hx1 hx2 HT hv0 hv1
                   have HCV := hid (var25 x wr hx1 hx2)
                   generalize Cnf.vr x = v at HCV HT hv0 hv1
                   obtain ⟨t, ht⟩ : ∃ t : Nat, v = (t : Int) + 1 := ⟨(v - 1).toNat, by omega⟩
                   subst ht
                   rw [show ((t : Int) + 1 - 1).toNat = t by omega] at HT
                   have htn : t < V := by omega
                   have htn' : (t : Int) < V := by omega
                   obtain ⟨u0, u1, hgg⟩ := HM.out.cell htn
                   have HMS := hid (fun b => HM.out.set htn b)
                   have HWS := hid (fun b => HO.out.set t (.bool b))
                   clear HM HO hv0 hv1 hgg HBW z1
                   generalize (Ext.turn M (p.1.take q)).getD t false = old at u0
                   go_wp2_with (go_at_call 25; refine HCV.out.mono ?_; rintro e w' ⟨rfl, hw'⟩; rw [hw']; clear hw')
                   go_roundw
                   case rel => exact ⟨q + 1, by omega, by go_num, hid (by rw [HT.out]; exact HMS.out _), hid (HWS.out _)⟩
                   case measure => simp [intOf]; omega)
              · have hqn' : ¬ (q : Int) < n1 := by omega
                have HME := hid (show MOwn W1.heap.size wr _ V (Ext.turn M p.1) by have h := HM.out; rwa [List.take_of_length_le (by rw [HN1.out]; omega)] at h)
                have f0 : wr.cell? ⟨W2.heap.size, 0, none⟩ = some (.int .i64 V) := (World.cell?_of_block (HO.out.other _ hgF)).trans HY0'.out
                have f1 : wr.cell? ⟨W2.heap.size, 1, none⟩ = some (.slice ca cn ccap) := (World.cell?_of_block (HO.out.other _ hgF)).trans HY1'.out
                have hTL : (Ext.turn M p.1).length = V := (Ext.turn_len _ _).trans HML.out
                have C16 := hid (holds16 V ca _ cn ccap V capm rest (Ext.turn M p.1) wr HN.out.symm (by omega) hTL (by omega) HC.out.1 (HC.out.below HBW.out) HME.out.bools)
                have C19 := hid (fun W (hW : Below wr.heap.size wr W) => value19 a2 _ n2 c2 V capm p.2 (Ext.turn M p.1) W HN2.out (by omega) hTL (by omega) (H2.out.below (HBW.out.trans (hW.mono HBW.out.size))) (HME.out.bools.below hW))
                obtain ⟨b1, hb1⟩ : ∃ b1, Cnf.holds rest (Ext.turn M p.1) = b1 := ⟨_, rfl⟩
                obtain ⟨b2, hb2⟩ : ∃ b2, Cnf.val p.2 (Ext.turn M p.1) = b2 := ⟨_, rfl⟩
                have HGA := hid (HGT.out b1 b2 hb1 hb2)
                rw [hb1] at C16
                rw [hb2] at C19
                clear hb1 hb2 HGT HM HO hTL
                go_wp2_with fail
                go_at_call 16
                refine C16.out.mono ?_
                clear C16
                rintro e W6 ⟨rfl, hb6⟩
                have HB6 := hid (HBW.out.trans (hb6.mono HBW.out.size))
                have z1' := (HB6.out.cell (p := ⟨w.heap.size, 1, none⟩) hs1).trans HX1.out
                have C19' := hid (C19.out W6 hb6)
                clear hb6 z0 z1 C19 f0 f1
                cases b1
                · have HR := hid (HGF.out HGA.out)
                  go_wp2
                  go_ret
                  exact ⟨ret_bool HR.out.symm, HB1.out.trans (HB6.out.mono (by omega))⟩
                · go_wp2_with fail
                  go_at_call 19
                  refine C19'.out.mono ?_
                  clear C19'
                  rintro e W7 ⟨rfl, hw7⟩
                  rw [hw7]
                  clear hw7
                  cases b2
                  · have HR := hid (HGF.out HGA.out)
                    go_wp2
                    go_ret
                    exact ⟨ret_bool HR.out.symm, HB1.out.trans (HB6.out.mono (by omega))⟩
                  · go_wp2
                    go_roundw
                    case rel => exact ⟨j + 1, by omega, by go_num, hid (by rw [HGS.out, HG.out, HGA.out]; rfl), HB6⟩
                    case measure => simp [intOf]; omega
        · have HGA := hid (goodAt_v (rest := rest) HBV.out)
          go_wp2
          go_roundw
          case rel => exact ⟨j + 1, by omega, by go_num, hid (by rw [HGS.out, HG.out, HGA.out]; rfl), HB14⟩
          case measure => simp [intOf]; omega
    · have hlt' : ¬ (j : Int) < P := by omega
      obtain rfl : j = P := by omega
      go_wp2
      go_ret
      exact ⟨ret_bool HG.out.symm, HB1.out.trans (HB.out.mono (by omega))⟩
end Go.Proofs.Ytjakfgpgcnbclaa
