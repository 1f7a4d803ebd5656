/- What a base tells of its clauses fits together: the law. -/
import Derived.Test.YthpebfojkpnojaaJbf
import Derived.Test.YthpebfojkpnojaaJbg
import Derived.Test.YthpebfojkpnojaaJbh
import Derived.Test.YthpebfojkpnojaaJba
import Derived.Test.YthpebfojkpnojaaJas
/- What a base tells of its clauses fits together: the law. -/
namespace Go.Proofs.Ythpebfojkpnojaa
open Go.RowKit Go.Maps
set_option linter.unusedVariables false
set_option linter.unusedSimpArgs false
set_option maxRecDepth 100000
theorem Bst.bel {w : World} {bb B : Nat} {s : Bas.S} {X : World} (h : Bst w bb B s X) : Below w.heap.size w X := by
  obtain ⟨_, _, _, _, _, h4⟩ := h
  exact h4
theorem stk_some {S : List (List Int × List Int)} {X : World} {e : Ending} {w' : World} (h : StkOut S X e w') : ∃ o c, e = .returned (.slice o S.length c) ∧ Below X.heap.size X w' := by
  obtain ⟨o, c, Q, h1, _, _, _, h5⟩ := h
  exact ⟨o, c, h1, h5⟩
/-- The law's loop over the calls, from one call to the next: what the walk of a call leaves. -/
theorem rn_bst {w : World} {bb : Nat} {ss : List Bas.Cal} {k : Nat} {X : World} (h : Rn w bb ss k X) : Below w.heap.size w X := by
  obtain ⟨_, _, h, _⟩ := h
  exact h.bel
set_option maxHeartbeats 16000000 in
theorem law4 (vars : Int) (a aa : Option Addr) (n cap na ca : Nat) (cs : List (List Int)) (ss : List Bas.Cal) (W : World) (hn : cs.length = n) (hN : n ≤ 8796093022208) (hc : Cls W a cs) (hna : ss.length = na) (hNa : na ≤ 8796093022208) (hs : Cals W aa ss) :
    Calls Try.prog 4 #[.agg #[.int .i64 vars, .slice a n cap], .slice aa na ca] W fun e w' => e = .returned (.bool true) ∧ Below W.heap.size W w' := by
  have hB := below_box W (.cells #[.int .i64 vars, .slice a n cap] 57)
  have hx := heap_alloc_new W (.cells #[.int .i64 vars, .slice a n cap] 57)
  have hz : (W.alloc (.cells #[.int .i64 vars, .slice a n cap] 57)).heap.size = W.heap.size + 1 := alloc_size _ _
  generalize hW1 : W.alloc (.cells #[.int .i64 vars, .slice a n cap] 57) = W1 at hB hx hz
  have C21 := hid (small21 vars a n cap 8 40 160 cs W1 (by decide) (by decide) (by decide) hn hN (hc.below hB))
  have C22 := hid (fun X (hX : Below W.heap.size W X) => few22 aa na ca ss X hna hNa (hs.below hX))
  have HF := hid (fun X (hX : Below W1.heap.size W1 X) => show X.cell? ⟨W.heap.size, 0, none⟩ = some (.int .i64 vars) ∧ X.cell? ⟨W.heap.size, 1, none⟩ = some (.slice a n cap) from by
    have hh := (hX.block W.heap.size (by omega)).trans hx
    exact ⟨row_cell hh 0, row_cell hh 1⟩)
  obtain ⟨p0, p1⟩ := HF.out W1 (Below.refl _ _)
  have HC := hid hc
  have HS := hid hs
  have HN := hid hn
  have HNA := hid hna
  have HB := hid hB
  clear hc hs hn hna hB hx
  go_enter Try.func4, Try.ntmps4
  go_wp2_with fail
  go_at_call 21
  refine C21.out.mono ?_
  clear C21
  rintro e w2 ⟨⟨b1, rfl, hsm⟩, hB2⟩
  have hBW2 := HB.out.trans (hB2.mono HB.out.size)
  cases b1
  · clear hsm
    go_wp2_with fail
    go_ret
    exact ⟨rfl, hBW2⟩
  obtain ⟨hv8, hn40, hl200⟩ := hsm rfl
  clear hsm
  go_wp2_with fail
  go_at_call 22
  refine (C22.out w2 hBW2).mono ?_
  clear C22
  rintro e w3 ⟨⟨b2, rfl, hfw⟩, hd3⟩
  replace hBW2 := hBW2.trans (hd3.below.mono hBW2.size)
  replace hB2 := hB2.trans (hd3.below.mono hB2.size)
  clear hd3
  cases b2
  · clear hfw
    go_wp2_with fail
    go_ret
    exact ⟨rfl, hBW2⟩
  obtain ⟨hs40, hs600⟩ := hfw rfl
  clear hfw
  have HL := hid hs40
  have HM := hid hs600
  have hna40 : na ≤ 40 := by have := HNA.out; omega
  obtain ⟨q0, q1⟩ := HF.out w3 hB2
  clear p0 p1
  have HB2 := hid hB2
  have HBW2 := hid hBW2
  by_cases hr : Cq.right vars cs = 0
  · have C23 := hid (new23 vars a n cap cs w3 HN.out (HC.out.below hBW2) hr)
    have OK0 := hid (Bas.Ok.new (by omega) hl200 (Bas.new_good hr))
    have hv0 := (right_zero hr).1
    clear hr hn40 hl200 hs40 hs600 hB2 hBW2
    go_wp2_with fail
    go_at_call 23
    refine C23.out.mono ?_
    clear C23
    rintro e w4 ⟨bb, M, K, rfl, hbs, hK, hM, hb4⟩
    have R0 := hid (show Rn w3 bb ss 0 w4 from ⟨20000000, _, ⟨fun g => M g ∧ g < w4.heap.size, K, hbs.cap, hK, fun g hg => ⟨hM g hg.1, hg.2⟩, hb4⟩, by omega, OK0.out⟩)
    clear hbs hK hM hb4 OK0 q0 q1
    go_wp2_with fail
    go_loopw [7] (fun i wr => ∃ k : Nat, k ≤ na ∧ i = .int .i64 k ∧ Hid (Rn w3 bb ss k wr)) (fun i _ => na - (intOf i).toNat)
    case atStart => exact ⟨0, Nat.zero_le _, rfl, R0⟩
    case round =>
      clear R0
      obtain ⟨k, hk, rfl, HR⟩ := hrel
      by_cases hlt : k < na
      · have hks : k < ss.length := by rw [HNA.out]; exact hlt
        have hlt' : (k : Int) < na := by omega
        obtain ⟨B, s, hb, hBk, hok⟩ := HR.out
        have hBw := HBW2.out.trans (hb.bel.mono HBW2.out.size)
        obtain ⟨b, off, p, q, rfl, hcal, x0, x1, x2, x3, x4, x5⟩ := (HS.out.below hBw).at hks
        have hle := Bas.nums_le ss k
        have hle1 := Bas.nums_le ss (k + 1)
        have hsum := Bas.nums_take ss k hks
        have hss40 := HL.out
        have hss600 := HM.out
        have C6 := hid (fun X (h : Bst w3 bb B s X) => rn_get h hok (by omega) ss[k].id hcal.id)
        have C17 := hid (fun X (h : Bst w3 bb B s X) => rn_stack h hok (by omega) (by omega))
        have C24 := hid (fun X (h : Below wr.heap.size wr X) => own24 ss[k].kind ss[k].id ss[k].by_ p.1 ss[k].lits.length p.2 ss[k].lits q.1 ss[k].hints.length q.2 ss[k].hints ss[k].red X rfl rfl (by omega) (by omega) (hcal.lits.below h) (hcal.hints.below h))
        have C25 := hid (fun X => pick25 ss[k].kind 6 X (by decide) (by decide) hcal.kind)
        have C8 := hid (fun X (h : Bst w3 bb B s X) => rn_keep h hBk hok hks hss40 ss[k].id hcal.id)
        have C9 := hid (fun X (h : Bst w3 bb B s X) => rn_delete h hBk hok hks hss40 hss600 ss[k].id hcal.id)
        have C10 := hid (fun X (h : Bst w3 bb B s X) => rn_drop h hBk hok hks hss40 hss600 ss[k].id ss[k].by_ hcal.id hcal.by_)
        have C5 := hid (fun V X (h : Bst w3 bb B s V) (hX : Below V.heap.size V X) base (hba : V.heap.size ≤ base) a1 c1 a2 c2 (h1 : X.ownsRow base 45 1 (.slice a1 ss[k].lits.length c1) ss[k].lits.length (ss[k].lits.map (Value.int .i32))) (h2 : X.ownsRow base 2 1 (.slice a2 ss[k].hints.length c2) ss[k].hints.length (ss[k].hints.map (Value.int .i64))) => rn_add (n := ss[k].lits.length) (c := c1) (a := a1) (n2 := ss[k].hints.length) (c2 := c2) (a2 := a2) h hBk hok hks hss40 hss600 hX hba h1 h2 hcal.lits.1 hcal.hints.1 ss[k].red)
        have C11 := hid (fun V X (h : Bst w3 bb B s V) (hX : Below V.heap.size V X) base (hba : V.heap.size ≤ base) a1 c1 (h1 : X.ownsRow base 45 1 (.slice a1 ss[k].lits.length c1) ss[k].lits.length (ss[k].lits.map (Value.int .i32))) => rn_weaken (n := ss[k].lits.length) (c := c1) (a := a1) h hBk hok hks hss40 hss600 hX hba h1 hcal.lits.1 ss[k].id hcal.id)
        have C17b := hid (fun s' V (h : Bst w3 bb B s' V) (ho : Bas.Ok (k + 1) (Bas.nums (ss.take (k + 1))) s') => rn_stack h ho (by omega) (by omega))
        have RN := hid (fun s' X (h : Bst w3 bb B s' X) (ho : Bas.Ok (k + 1) (Bas.nums (ss.take (k + 1))) s') => show Rn w3 bb ss (k + 1) X from ⟨B, s', h, by omega, ho⟩)
        have HBS := hid hb
        have HG := hid hok
        clear hle hle1 hsum hss40 hss600 hcal hb hok hBk hBw
        generalize ss[k].kind = kd at *
        generalize ss[k].id = idn at *
        generalize ss[k].by_ = byn at *
        generalize ss[k].lits = xs at *
        generalize ss[k].hints = hs at *
        generalize ss[k].red = red at *
        obtain ⟨V1, hV1⟩ : ∃ V1, wr.alloc (.cells #[.int .i64 kd, .int .i64 idn, .int .i64 byn, .slice p.1 xs.length p.2, .slice q.1 hs.length q.2, .bool red] 26) = V1 := ⟨_, rfl⟩
        have hbx := below_box wr (.cells #[.int .i64 kd, .int .i64 idn, .int .i64 byn, .slice p.1 xs.length p.2, .slice q.1 hs.length q.2, .bool red] 26)
        have hbn := heap_alloc_new wr (.cells #[.int .i64 kd, .int .i64 idn, .int .i64 byn, .slice p.1 xs.length p.2, .slice q.1 hs.length q.2, .bool red] 26)
        rw [hV1] at hbx hbn
        have HX := hid (fun X (hX : Below V1.heap.size V1 X) => show X.cell? ⟨wr.heap.size, 0, none⟩ = some (.int .i64 kd) ∧ X.cell? ⟨wr.heap.size, 1, none⟩ = some (.int .i64 idn) ∧ X.cell? ⟨wr.heap.size, 2, none⟩ = some (.int .i64 byn) ∧ X.cell? ⟨wr.heap.size, 3, none⟩ = some (.slice p.1 xs.length p.2) ∧ X.cell? ⟨wr.heap.size, 4, none⟩ = some (.slice q.1 hs.length q.2) ∧ X.cell? ⟨wr.heap.size, 5, none⟩ = some (.bool red) from by
          have hh := (hX.block wr.heap.size (lt_of_blk hbn)).trans hbn
          exact ⟨row_cell hh 0, row_cell hh 1, row_cell hh 2, row_cell hh 3, row_cell hh 4, row_cell hh 5⟩)
        have HBX := hid hbx
        clear hbx hbn
        go_wp2_with fail
        go_at_call 17
        refine (C17.out V1 (HBS.out.below HBX.out)).mono ?_
        clear x0 x1 x2 x3 x4 x5
        rintro e w5 ⟨hst, hb5⟩
        obtain ⟨o5, c5, rfl, hB5⟩ := stk_some hst
        have HB5 := hid hb5
        have B5 := hid hB5
        clear hst hb5 hB5 C17
        have x1 := (HX.out w5 B5.out).2.1
        go_wp2_with fail
        go_at_call 6
        refine (C6.out w5 HB5.out).mono ?_
        clear x1 C6
        rintro e w6 ⟨⟨o6, c6, rfl, ho6, hB6⟩, hb6⟩
        obtain ⟨d, hd⟩ : ∃ d, (Bas.look s.live idn).getD ⟨0, [], false⟩ = d := ⟨_, rfl⟩
        obtain ⟨isb, hisb⟩ : ∃ isb, (Bas.look s.live idn).isSome = isb := ⟨_, rfl⟩
        rw [hd] at ho6 ⊢
        rw [hisb]
        have B6 := hid (B5.out.trans (hB6.mono B5.out.size))
        have HO6 := hid ho6
        have HB6 := hid hb6
        have HDL := hid hd
        have HIS := hid hisb
        clear ho6 hB6 hb6 hd hisb HB5
        obtain ⟨V2, hV2⟩ : ∃ V2, w6.alloc (.cells #[.int .i64 d.id, .slice o6 d.lits.length c6, .bool d.red] 32) = V2 := ⟨_, rfl⟩
        have hby := below_box w6 (.cells #[.int .i64 d.id, .slice o6 d.lits.length c6, .bool d.red] 32)
        have hyn := heap_alloc_new w6 (.cells #[.int .i64 d.id, .slice o6 d.lits.length c6, .bool d.red] 32)
        rw [hV2] at hby hyn
        have HY := hid (fun X (hX : Below V2.heap.size V2 X) => show X.cell? ⟨w6.heap.size, 1, none⟩ = some (.slice o6 d.lits.length c6) from by
          have hh := (hX.block w6.heap.size (lt_of_blk hyn)).trans hyn
          exact row_cell hh 1)
        have BV2 := hid (B6.out.trans (hby.mono B6.out.size))
        have HBV := hid (HB6.out.below hby)
        have HOV := hid (own_below HO6.out hby)
        have HYN := hid hyn
        have HS6 := hid (show wr.heap.size ≤ w6.heap.size ∧ w6.heap.size < V2.heap.size ∧ wr.heap.size ≤ w5.heap.size from ⟨Nat.le_trans HBX.out.size B6.out.size, lt_of_blk hyn, Nat.le_trans HBX.out.size B5.out.size⟩)
        clear hby hyn HO6 HB6
        obtain ⟨x0, x1, x2, x3, x4, x5⟩ := HX.out V2 BV2.out
        go_wp2_with fail
        go_at_call 24
        refine (C24.out V2 (HBX.out.trans (BV2.out.mono HBX.out.size))).mono ?_
        clear x0 x1 x2 x3 x4 x5 C24
        rintro e w7 ⟨o7, c7, o8, c8, rfl, ho7, ho8, hB7⟩
        have HO7 := hid ho7
        have HO8 := hid ho8
        have B7 := hid hB7
        have BX7 := hid (BV2.out.trans (hB7.mono BV2.out.size))
        clear ho7 ho8 hB7
        obtain ⟨x0, x1, x2, x3, x4, x5⟩ := HX.out w7 BX7.out
        go_wp2_with fail
        go_at_call 25
        refine (C25.out w7).mono ?_
        clear C25
        rintro e w8 ⟨⟨t, ht, rfl⟩, hw8⟩
        rw [hw8]
        clear hw8
        have hB1 : Below w3.heap.size w3 w3 := Below.refl _ _
        clear hB1
        by_cases t0 : t = 0
        · as_aux_lemma =>
            have e0 : ((t : Int) == 0) = true := by simp; omega
            go_wp2_with (go_at_call 5; refine (C5.out V2 w7 HBV.out B7.out _ (Nat.le_succ _) _ _ _ _ HO7.out HO8.out).mono ?_; rintro e w9 ⟨⟨r1, r2, rfl⟩, h9⟩; have H9 := hid h9; clear h9)
            exact ⟨⟨k + 1, by omega, by go_num, H9⟩, by simp only [intOf]; omega⟩
        have e0 : ((t : Int) == 0) = false := by simp; omega
        by_cases t1 : t = 1
        · as_aux_lemma =>
            have e1 : ((t : Int) == 1) = true := by simp; omega
            go_wp2_with (go_at_call 5; refine (C5.out V2 w7 HBV.out B7.out _ (Nat.le_succ _) _ _ _ _ HO7.out HO8.out).mono ?_; rintro e w9 ⟨⟨r1, r2, rfl⟩, h9⟩; have H9 := hid h9; clear h9)
            exact ⟨⟨k + 1, by omega, by go_num, H9⟩, by simp only [intOf]; omega⟩
        have e1 : ((t : Int) == 1) = false := by simp; omega
        by_cases t2 : t = 2
        · as_aux_lemma =>
            have e2 : ((t : Int) == 2) = true := by simp; omega
            go_wp2_with (go_at_call 8; refine (C8.out w7 (HBV.out.below B7.out)).mono ?_; rintro e w9 ⟨⟨r1, rfl⟩, h9⟩; have H9 := hid h9; clear h9)
            exact ⟨⟨k + 1, by omega, by go_num, H9⟩, by simp only [intOf]; omega⟩
        have e2 : ((t : Int) == 2) = false := by simp; omega
        by_cases t3 : t = 3
        · as_aux_lemma =>
            have e3 : ((t : Int) == 3) = true := by simp; omega
            go_wp2_with (go_at_call 9; refine (C9.out w7 (HBV.out.below B7.out)).mono ?_; rintro e w9 ⟨⟨r1, rfl⟩, h9⟩; have H9 := hid h9; clear h9)
            exact ⟨⟨k + 1, by omega, by go_num, H9⟩, by simp only [intOf]; omega⟩
        have e3 : ((t : Int) == 3) = false := by simp; omega
        by_cases t4 : t = 4
        · as_aux_lemma =>
            have e4 : ((t : Int) == 4) = true := by simp; omega
            go_wp2_with (go_at_call 10; refine (C10.out w7 (HBV.out.below B7.out)).mono ?_; rintro e w9 ⟨⟨r1, rfl⟩, h9⟩; have H9 := hid h9; clear h9)
            exact ⟨⟨k + 1, by omega, by go_num, H9⟩, by simp only [intOf]; omega⟩
        have e4 : ((t : Int) == 4) = false := by simp; omega
        clear C5 C8 C9 C10
        go_wp2_with fail
        go_at_call 11
        refine (C11.out wr w7 HBS.out (HBX.out.trans (BX7.out.mono HBX.out.size)) _ (Nat.le_trans HBX.out.size (Nat.le_trans BV2.out.size (Nat.le_succ _))) _ _ HO7.out).mono ?_
        clear C11
        rintro e w9 ⟨rfl, hb9, ho9, hsz9, hkp9⟩
        have HKP := hid hkp9
        have HSZ9 := hid hsz9
        have HB9 := hid hb9
        have HOK9 := hid ho9
        have C17 := hid (C17b.out _ w9 hb9 ho9)
        obtain ⟨we, hwe⟩ : ∃ we, Bas.weakenE s idn xs = we := ⟨_, rfl⟩
        rw [hwe]
        have HWE := hid hwe
        clear hb9 ho9 hwe hsz9 hkp9 C17b x0 x1 x2 x3 x4 x5
        by_cases hw0 : we = 0
        · as_aux_lemma =>
            subst hw0
            obtain ⟨ee, l, r, hlk, hxs, hmem, hstk⟩ := Bas.weaken_ok HWE.out
            have hde : d = ee := by rw [← HDL.out, hlk]; rfl
            have hib : isb = true := by rw [← HIS.out, hlk]; rfl
            subst hde hib
            rw [hstk] at C17
            have HM9 := hid hmem
            have HXS := hid hxs
            have HLKM := hid hlk
            have HDN := hid (show d.lits.length ≤ 1000 from by have := Ok.look HG.out hlk; have := Bas.nums_le ss k; have := HM.out; omega)
            clear hstk hmem hlk hxs HDL HIS HWE
            go_wp2_with fail
            go_at_call 17
            refine C17.out.mono ?_
            clear C17
            rintro e w10 ⟨hst, hb10⟩
            obtain ⟨g, c10, a1, c1, a2, c2, rfl, u0, u1, hl1, hl2, hcap, hB10⟩ := stk_last hst
            simp only at u0 u1 hl1 hl2 hcap
            have HB10 := hid hb10
            have KP10 := hid (fun g (h1 : wr.heap.size ≤ g) (h2 : g < V2.heap.size) => show w10.heap[g]? = V2.heap[g]? from
              (hB10.block g (Nat.lt_of_lt_of_le h2 (Nat.le_trans B7.out.size HSZ9.out))).trans ((HKP.out g h1 (Nat.lt_of_lt_of_le h2 B7.out.size)).trans (B7.out.block g h2)))
            have hsz10 : V2.heap.size ≤ w10.heap.size := Nat.le_trans B7.out.size (Nat.le_trans HSZ9.out hB10.size)
            have hpos : 0 < xs.length := by rw [HXS.out]; simp
            have HXP := hid hpos
            obtain ⟨g1, f1, rfl⟩ : ∃ g1 f1, a1 = some ⟨g1, f1, none⟩ := by
              rcases hl1.2 with h | ⟨b', off', e', _⟩
              · rw [h] at hpos; simp at hpos
              · exact ⟨b', off', e'⟩
            have HL1 := hid (show Lits w10 (some ⟨g1, f1, none⟩) [l] from by
              have h := hl1
              rw [HXS.out] at h
              refine ⟨fun x hx => h.1 x (by rw [List.mem_singleton.1 hx]; exact List.mem_cons_self), .inr ?_⟩
              rcases h.2 with h | ⟨b', off', e', hlt', hc'⟩
              · cases h
              · refine ⟨b', off', e', hlt', fun j hj => ?_⟩
                have hj0 : j = 0 := by simp at hj; omega
                subst hj0
                exact hc' 0 (by simp))
            have HL2 := hid hl2
            have H9 := hid (fun X (hX : Below w10.heap.size w10 X) => RN.out _ X (hb10.below hX) HOK9.out)
            have HOL := hid (own_row (own_keep (W' := w10) HOV.out (fun g cs hg hgc => KP10.out g (Nat.le_trans HS6.out.2.2 (own_blk HOV.out hg).1) (lt_of_blk hgc))) (fun x hx => vr_i32 ((HG.out.good.lits _ (Bas.look_mem HLKM.out).1 x hx).2) HG.out.good.vars.2))
            have hxsb : ((xs.length : Int) == 0) = false := beq_false_of_ne (by omega)
            clear hst hb10 hl1 hl2 hB10
            obtain ⟨V3, hV3⟩ : ∃ V3, w10.alloc (.cells #[.slice (some ⟨g1, f1, none⟩) xs.length c1, .slice a2 d.lits.length c2] 67) = V3 := ⟨_, rfl⟩
            have hbz := below_box w10 (.cells #[.slice (some ⟨g1, f1, none⟩) xs.length c1, .slice a2 d.lits.length c2] 67)
            have hzn := heap_alloc_new w10 (.cells #[.slice (some ⟨g1, f1, none⟩) xs.length c1, .slice a2 d.lits.length c2] 67)
            rw [hV3] at hbz hzn
            have y10 := (KP10.out w6.heap.size HS6.out.1 HS6.out.2.1).trans HYN.out
            have HZ := hid (fun X (hX : Below V3.heap.size V3 X) => show X.cell? ⟨w10.heap.size, 0, none⟩ = some (.slice (some ⟨g1, f1, none⟩) xs.length c1) ∧ X.cell? ⟨w10.heap.size, 1, none⟩ = some (.slice a2 d.lits.length c2) ∧ X.cell? ⟨w6.heap.size, 1, none⟩ = some (.slice o6 d.lits.length c6) ∧ Below V3.heap.size V3 X from by
              have hh := (hX.block w10.heap.size (lt_of_blk hzn)).trans hzn
              have hy := (hX.block w6.heap.size (Nat.lt_of_lt_of_le (lt_of_blk y10) hbz.size)).trans ((hbz.block w6.heap.size (lt_of_blk y10)).trans y10)
              exact ⟨row_cell hh 0, row_cell hh 1, row_cell hy 1, hX⟩)
            have HX10 := hid (fun X (hX : Below V3.heap.size V3 X) => H9.out X (hbz.trans (hX.mono hbz.size)))
            have C26 := hid (fun X (hX : Below V3.heap.size V3 X) => same26 (c1 := c2) (c2 := c6) (HL2.out.below (hbz.trans (hX.mono hbz.size))) (HOL.out.below (hbz.trans (hX.mono hbz.size))) rfl (by have := HDN.out; omega))
            have C27 := hid (fun X (hX : Below V3.heap.size V3 X) => Cf.subsumes27_few (some ⟨g1, f1, none⟩) o6 1 c1 d.lits.length c6 [l] d.lits X (.inr (by decide)) rfl rfl (by decide) (by have := HDN.out; omega) (HL1.out.below (hbz.trans (hX.mono hbz.size))) (HOL.out.below (hbz.trans (hX.mono hbz.size))))
            have hsub : Cnf.sub [l] d.lits = true := by rw [Cnf.sub_iff]; simpa using HM9.out
            rw [hsub] at C27
            have BB := hid (Below.refl V3.heap.size V3)
            clear hbz hzn H9 hsub hpos y10 hsz10
            have HKN := hid hlt
            have h1c : (1 : Int) ≤ (c1 : Int) := by have := HXP.out; omega
            have hm40 : s.stack.length ≤ 40 := by have := HG.out.stack; omega
            clear hcap hN hNa hv8 hv0 hk HXP
            generalize xs.length = nx at *
            generalize d.lits.length = dl at *
            generalize s.stack.length = m at *
            obtain ⟨y0, y1, y2, _⟩ := HZ.out V3 BB.out
            go_wp2_with fail
            go_region_held3 (fun X => X.cell? ⟨w10.heap.size, 0, none⟩ = some (.slice (some ⟨g1, f1, none⟩) nx c1) ∧ X.cell? ⟨w10.heap.size, 1, none⟩ = some (.slice a2 dl c2) ∧ X.cell? ⟨w6.heap.size, 1, none⟩ = some (.slice o6 dl c6) ∧ Below V3.heap.size V3 X)
              (first | exact HZ.out _ BB.out.drew | exact HZ.out _ BB.out | exact HZ.out _ hb11 | exact HZ.out _ hb12)
              (first
                | (go_at_call 26; refine (C26.out _ BB.out.drew).mono ?_; rintro e w11 ⟨rfl, hb11'⟩; have hb11 := BB.out.drew.trans (hb11'.mono (by simp)))
                | (go_at_call 27; refine (C27.out _ hb11).mono ?_; rintro e w12 ⟨rfl, hw12⟩; rw [hw12]; clear hw12))
            have H9 := hid (HX10.out _ hb11)
            clear hb11 hb11'
            go_wp2_with fail
            have hkk := HKN.out
            exact ⟨⟨k + 1, by omega, by go_num, H9⟩, by simp only [intOf]; omega⟩
        · as_aux_lemma =>
            have hwb : (we != 0) = true := by simpa using hw0
            have hsame : Bas.weakenS s idn xs = s := Bas.weaken_no (by rw [HWE.out]; exact hw0)
            rw [hsame] at C17 HOK9
            clear hsame HWE
            go_wp2_with (go_at_call 17; refine C17.out.mono ?_; clear C17; rintro e w10 ⟨hst, hb10⟩; obtain ⟨o10, c10, rfl, hB10⟩ := stk_some hst; have H9 := hid (RN.out s w10 hb10 HOK9.out); clear hst hB10 hb10)
            exact ⟨⟨k + 1, by omega, by go_num, H9⟩, by simp only [intOf]; omega⟩
      · as_aux_lemma =>
          obtain rfl : k = na := by omega
          obtain ⟨B, s, hb, hBk, hok⟩ := HR.out
          have hss600 := HM.out
          have hle := Bas.nums_le ss k
          have HBW := hid (HBW2.out.trans (hb.bel.mono HBW2.out.size))
          have C14 := hid (hb.entriesC hok.good (by have := hok.last; omega) (by omega) (fun e he => by have := hok.lits e he; omega) (by have := hok.live; omega))
          have HG := hid hok
          have HLN := hid (show s.live.length ≤ 1000 from by have := hok.live; omega)
          have HLT := hid (show ∀ e ∈ s.live, e.lits.length ≤ 1000 from fun e he => by have := hok.lits e he; omega)
          have HLA := hid (show s.last ≤ 1000 from by have := hok.last; omega)
          clear hb hok hBk hle hss600 HR HS HC
          go_wp2_with fail
          go_at_call 14
          refine C14.out.mono ?_
          clear C14
          rintro e w5 ⟨hen, hb5⟩
          obtain ⟨lb, lc, rfl, hents, hB5⟩ := hen.ents
          have HE5 := hid hents
          have HB5 := hid hb5
          clear hen hents hb5 hB5
          obtain ⟨n2, hn2⟩ : ∃ n2, s.live.length = n2 := ⟨_, rfl⟩
          rw [hn2]
          have HN2 := hid hn2
          have hn2b : n2 ≤ 1000 := by have := HLN.out; omega
          clear hn2
          go_wp2_with fail
          go_loopw [18] (fun i wr => ∃ j : Nat, j ≤ n2 ∧ i = .int .i64 j ∧ Hid (Bst w3 bb B s wr ∧ Ents s.live lb wr)) (fun i _ => n2 - (intOf i).toNat)
          case atStart => exact ⟨0, Nat.zero_le _, rfl, hid ⟨HB5.out, HE5.out⟩⟩
          case round =>
            clear HB5 HE5
            obtain ⟨j, hj, rfl, HBE⟩ := hrel
            by_cases hlt : j < n2
            · as_aux_lemma =>
                obtain ⟨hb, hents⟩ := HBE.out
                have hjl : j < s.live.length := by rw [HN2.out]; exact hlt
                have hlt' : (j : Int) < n2 := by omega
                have hem : s.live[j] ∈ s.live := List.getElem_mem hjl
                obtain ⟨ea, ec, z0, z1, z2, hzl⟩ := hents j hjl
                have HZ := hid (fun X (hX : Below wr.heap.size wr X) => show X.cell? ⟨lb, j * 3, none⟩ = some (.int .i64 s.live[j].id) ∧ X.cell? ⟨lb, j * 3 + 1, none⟩ = some (.slice ea s.live[j].lits.length ec) ∧ Lits X ea s.live[j].lits from
                  ⟨(hX.cell (p := ⟨lb, j * 3, none⟩) (cell_lt z0)).trans z0, (hX.cell (p := ⟨lb, j * 3 + 1, none⟩) (cell_lt z1)).trans z1, hzl.below hX⟩)
                have HPV := hid (fun X (hX : Below wr.heap.size wr X) i (hi : i + 1 = j) => show ∃ pid, X.cell? ⟨lb, i * 3, none⟩ = some (.int .i64 pid) ∧ pid < s.live[j].id from by
                  obtain ⟨_, _, y0, _, _, _⟩ := hents i (by omega)
                  exact ⟨_, (hX.cell (p := ⟨lb, i * 3, none⟩) (cell_lt y0)).trans y0, List.pairwise_iff_getElem.1 HG.out.good.sorted i j (by omega) hjl (by omega)⟩)
                have hlook := Bas.look_of HG.out.good hem
                have hids := HG.out.good.ids _ hem
                have hlast := HLA.out
                have C6 := rn_get hb HG.out (by have := HM.out; have := Bas.nums_le ss k; omega) s.live[j].id ⟨by omega, by omega⟩
                rw [hlook] at C6
                simp only [Option.getD_some, Option.isSome_some] at C6
                have C6 := hid C6
                have HEN := hid hents
                have HOC := hid (fun l => Bas.occ_iff HG.out.good hem l)
                have HBND := hid (fun x hx => vr_i32 (HG.out.good.lits _ hem x hx).2 HG.out.good.vars.2)
                have HLL := hid (HLT.out _ hem)
                have HIDL := hid (show s.live[j].id ≤ s.last from hids.2)
                clear hents hzl hlook hids hem hb z2
                generalize s.live[j] = ev at *
                clear hjl
                go_wp2_with fail
                go_at_call 6
                refine C6.out.mono ?_
                clear C6 z0 z1
                rintro e w6 ⟨⟨o6, c6, rfl, ho6, hB6⟩, hb6⟩
                obtain ⟨V, hV⟩ : ∃ V, w6.alloc (.cells #[.int .i64 ev.id, .slice o6 ev.lits.length c6, .bool ev.red] 32) = V := ⟨_, rfl⟩
                have hbv := below_box w6 (.cells #[.int .i64 ev.id, .slice o6 ev.lits.length c6, .bool ev.red] 32)
                have hvn := heap_alloc_new w6 (.cells #[.int .i64 ev.id, .slice o6 ev.lits.length c6, .bool ev.red] 32)
                rw [hV] at hbv hvn
                have BV := hid (hB6.trans (hbv.mono hB6.size))
                have HBV := hid (hb6.below hbv)
                have HY := hid (fun X (hX : Below V.heap.size V X) => show X.cell? ⟨w6.heap.size, 1, none⟩ = some (.slice o6 ev.lits.length c6) ∧ X.cell? ⟨lb, j * 3, none⟩ = some (.int .i64 ev.id) ∧ X.cell? ⟨lb, j * 3 + 1, none⟩ = some (.slice ea ev.lits.length ec) ∧ Below V.heap.size V X from by
                  have hh := (hX.block w6.heap.size (lt_of_blk hvn)).trans hvn
                  have hz := HZ.out X (BV.out.trans (hX.mono BV.out.size))
                  exact ⟨row_cell hh 1, hz.1, hz.2.1, hX⟩)
                have C26 := hid (fun X (hX : Below V.heap.size V X) => same26 (c1 := c6) (c2 := ec) (own_row (own_below ho6 (hbv.trans (hX.mono hbv.size))) HBND.out) (HZ.out X (BV.out.trans (hX.mono BV.out.size))).2.2 rfl (by have := HLL.out; omega))
                have C13 := hid (fun X (hX : Below V.heap.size V X) => (HBV.out.below hX).lastC)
                have HPW := hid (fun X (hX : Below V.heap.size V X) i (hi : i + 1 = j) => HPV.out X (BV.out.trans (hX.mono BV.out.size)) i hi)
                have BB := hid (Below.refl V.heap.size V)
                have hidl := HIDL.out
                clear hbv hvn ho6 hb6 hB6 HPV
                obtain ⟨z0, z1, z2, _⟩ := HY.out V BB.out
                have hgt : decide (s.last < ev.id) = false := decide_eq_false (by omega)
                go_upto_region 38 with fail
                go_cut [212] from 172 to 211 (fun bv wx => bv = .bool false ∧ Hid (Below V.heap.size V wx))
                case first =>
                  by_cases hj0 : j = 0
                  · as_aux_lemma =>
                      refine reg38z (fun Y => Below V.heap.size V Y) bb lb w6.heap.size j n2 lc ev.lits.length c6 ec o6 ea ev.id s.last BB.out.drew (fun Y h => ⟨(HY.out Y h).1, (HY.out Y h).2.1, (HY.out Y h).2.2.1⟩) (fun Y h => (C26.out Y h).mono fun e w' ⟨q1, q2⟩ => ⟨q1, h.trans (q2.mono h.size)⟩) (fun Y h => C13.out Y h) (by omega) hlt' hgt (decide_eq_false (by omega)) (decide_eq_false (by omega)) ?_
                      intros
                      rename_i w' h'
                      have B11 := hid h'
                      clear h'
                      go_wp2_with fail
                      go_meet
                      case rel => exact ⟨rfl, B11⟩
                  · as_aux_lemma =>
                      obtain ⟨i0, hi0⟩ : ∃ i0, i0 + 1 = j := ⟨j - 1, by omega⟩
                      obtain ⟨pid, z4, hpid⟩ := HPW.out V BB.out i0 hi0
                      refine reg38p (fun Y => Below V.heap.size V Y) bb lb w6.heap.size j n2 lc ev.lits.length c6 ec o6 ea ev.id s.last i0 pid BB.out.drew (fun Y h => ⟨(HY.out Y h).1, (HY.out Y h).2.1, (HY.out Y h).2.2.1, (h.cell (p := ⟨lb, i0 * 3, none⟩) (cell_lt z4)).trans z4⟩) (fun Y h => (C26.out Y h).mono fun e w' ⟨q1, q2⟩ => ⟨q1, h.trans (q2.mono h.size)⟩) (fun Y h => C13.out Y h) (by omega) hlt' hgt (decide_eq_true (by omega)) (decide_eq_true (by omega)) (by omega) (by have := HN2.out; have := HLN.out; rw [IntKind.wrap_i64]; omega) (by omega) (by omega) (decide_eq_false (by omega)) ?_
                      intros
                      rename_i w' h'
                      have B11 := hid h'
                      clear h'
                      go_wp2_with fail
                      go_meet
                      case rel => exact ⟨rfl, B11⟩
                case rest =>
                  obtain ⟨rfl, HBC⟩ := hcut
                  have hv8' := hv8
                  have HPX := hid (fun X (hX : Bst w3 bb B s X) => (HF.out X (HB2.out.trans (hX.bel.mono HB2.out.size))).1)
                  have HBW0 := hid (HBV.out.below HBC.out)
                  clear z0 z1 z2 BB C26 C13 HPW hgt hidl
                  obtain ⟨wo, hwo⟩ : ∃ wo, wo = wr := ⟨wr, rfl⟩
                  subst hwo
                  go_wp2_with fail
                  go_loopw [21] (fun v wx => ∃ t : Nat, 1 ≤ t ∧ t ≤ 9 ∧ v = .int .i64 t ∧ Hid (Bst w3 bb B s wx ∧ Below V.heap.size V wx)) (fun v _ => 9 - (intOf v).toNat)
                  case atStart => exact ⟨1, Nat.le_refl _, by decide, rfl, hid ⟨HBW0.out, HBC.out⟩⟩
                  case round =>
                    clear HBW0 HBC
                    obtain ⟨t, ht1, ht9, rfl, HX⟩ := hrel
                    have p0 := HPX.out _ HX.out.1
                    by_cases htv : (t : Int) ≤ vars
                    · have ht8 : t ≤ 8 := by omega
                      have hwt : IntKind.i32.wrap (t : Int) = t := by rw [IntKind.wrap_i32]; omega
                      have hwn : IntKind.i32.wrap (-(t : Int)) = -t := by rw [IntKind.wrap_i32]; omega
                      obtain ⟨X2, hX2⟩ : ∃ X2, wr.alloc (.cells #[.int .i32 (t : Int), .int .i32 (-(t : Int))] 45) = X2 := ⟨_, rfl⟩
                      have hb2 := below_box wr (.cells #[.int .i32 (t : Int), .int .i32 (-(t : Int))] 45)
                      have hn2 := heap_alloc_new wr (.cells #[.int .i32 (t : Int), .int .i32 (-(t : Int))] 45)
                      rw [hX2] at hb2 hn2
                      have HBX := hid (show Bst w3 bb B s X2 ∧ Below V.heap.size V X2 from ⟨HX.out.1.below hb2, HX.out.2.trans (hb2.mono HX.out.2.size)⟩)
                      have HTW := hid (fun Y (hY : Below X2.heap.size X2 Y) => (hY.block wr.heap.size (lt_of_blk hn2)).trans hn2)
                      have HOUT := hid HX
                      clear hb2 hn2 HX
                      obtain ⟨wv, hwv⟩ : ∃ wv, wv = wr := ⟨wr, rfl⟩
                      subst hwv
                      go_wp2_with fail
                      go_loopw [226] (fun uv wx => ∃ u : Nat, u ≤ 2 ∧ uv = .int .i64 u ∧ Hid ((Bst w3 bb B s wx ∧ Below V.heap.size V wx) ∧ Below X2.heap.size X2 wx)) (fun uv _ => 2 - (intOf uv).toNat)
                      case atStart => exact ⟨0, by decide, rfl, hid ⟨HBX.out, Below.refl _ _⟩⟩
                      case round =>
                        clear HBX hwt hwn
                        obtain ⟨u, hu, rfl, HU⟩ := hrel
                        by_cases hu2 : u < 2
                        · as_aux_lemma =>
                            have hu2' : (u : Int) < 2 := by omega
                            have hu0' : (0 : Int) ≤ (u : Int) := by omega
                            obtain ⟨kk, hki, y0⟩ : ∃ kk : Int, I32 kk ∧ wr.cell? ⟨wv.heap.size, u, none⟩ = some (.int .i32 kk) := by
                              have hh := HTW.out wr HU.out.2
                              rcases (show u = 0 ∨ u = 1 by omega) with rfl | rfl
                              · exact ⟨t, ⟨by omega, by omega⟩, row_cell hh 0⟩
                              · exact ⟨-t, ⟨by omega, by omega⟩, row_cell hh 1⟩
                            have C15 := hid (HU.out.1.1.occurs (by have := HLA.out; omega) kk hki)
                            obtain ⟨wu, hwu⟩ : ∃ wu, wu = wr := ⟨wr, rfl⟩
                            subst hwu
                            go_wp2_with fail
                            go_at_call 15
                            refine C15.out.mono ?_
                            clear C15
                            rintro e w8 ⟨⟨v8, rfl, ho8⟩, hb8, hB8⟩
                            obtain ⟨o8, c8, rfl⟩ := own_slc ho8
                            obtain ⟨oc, hoc⟩ : ∃ oc, Bas.occ s.live kk = oc := ⟨_, rfl⟩
                            rw [hoc] at ho8 ⊢
                            obtain ⟨m, hm⟩ : ∃ m, oc.length = m := ⟨_, rfl⟩
                            rw [hm] at ho8 ⊢
                            have hmb : m ≤ 1000 := by
                              rw [← hm, ← hoc]
                              unfold Bas.occ
                              rw [List.length_map]
                              exact Nat.le_trans (List.length_filter_le _ _) HLN.out
                            have HOL := hid hm
                            have HIN := hid (show decide (ev.id ∈ oc) = Cnf.sub [kk] ev.lits from by
                              rw [← hoc, Bool.eq_iff_iff, Cnf.sub_iff, decide_eq_true_eq, HOC.out kk]
                              simp)
                            have HO8 := hid (fun (hp : 0 < m) => own_cell ho8 hp)
                            have BV8 := hid (HU.out.1.2.trans (hB8.mono HU.out.1.2.size))
                            have BX8 := hid (HU.out.2.trans (hB8.mono HU.out.2.size))
                            obtain ⟨X3, hX3⟩ : ∃ X3, w8.alloc (.cells #[.int .i32 kk] 45) = X3 := ⟨_, rfl⟩
                            have hb3 := below_box w8 (.cells #[.int .i32 kk] 45)
                            have hn3 := heap_alloc_new w8 (.cells #[.int .i32 kk] 45)
                            rw [hX3] at hb3 hn3
                            have BV3 := hid (BV8.out.trans (hb3.mono BV8.out.size))
                            have NX := hid (show (Bst w3 bb B s X3 ∧ Below V.heap.size V X3) ∧ Below X2.heap.size X2 X3 from ⟨⟨hb8.below hb3, BV3.out⟩, BX8.out.trans (hb3.mono BX8.out.size)⟩)
                            have hzz := HZ.out X3 (BV.out.trans (BV3.out.mono BV.out.size))
                            have C27 := hid (Cf.subsumes27_few (some ⟨w8.heap.size, 0, none⟩) ea 1 1 ev.lits.length ec [kk] ev.lits X3 (.inr (by decide)) rfl rfl (by decide) (by have := HLL.out; omega) ⟨fun x hx => by rw [List.mem_singleton.1 hx]; exact hki, .inr ⟨w8.heap.size, 0, rfl, lt_of_blk hn3, fun j hj => by
                              have hj0 : j = 0 := by simp at hj; omega
                              subst hj0
                              exact row_cell hn3 0⟩⟩ hzz.2.2)
                            have q1 := hzz.2.1
                            have q0 := (HZ.out w8 (BV.out.trans (BV8.out.mono BV.out.size))).1
                            clear hzz hb3 hn3 ho8 hb8 hB8 hoc hm y0
                            by_cases hm0 : m = 0
                            · as_aux_lemma =>
                                subst hm0
                                go_wp2_with fail
                                go_loopw [24, 234] (fun iv rv wq => ∃ r : Nat, r ≤ 0 ∧ rv = .int .i64 r ∧ iv = .bool (decide (ev.id ∈ oc.take r)) ∧ wq = w8) (fun _ rv _ => 0 - (intOf rv).toNat)
                                case atStart => exact ⟨0, Nat.zero_le _, rfl, by simp, rfl⟩
                                case round =>
                                  obtain ⟨r, hr, rfl, rfl, hwq⟩ := hrel
                                  rw [hwq]
                                  clear hwq
                                  by_cases hrm : r < 0
                                  · omega
                                  · have hrm' : ¬ (r : Int) < (0 : Nat) := by omega
                                    obtain rfl : r = 0 := by omega
                                    have hIN := HIN.out
                                    rw [List.take_of_length_le (by rw [HOL.out]; omega)]
                                    rw [hIN]
                                    generalize Cnf.sub [kk] ev.lits = bq at *
                                    have hbq : (bq != bq) = false := by simp
                                    go_wp2_with (go_at_call 27; refine (C27.out).mono ?_; rintro e w9 ⟨rfl, hw9⟩; rw [hw9]; clear hw9)
                                    go_roundw
                                    case rel => exact ⟨u + 1, by omega, by go_num, NX.out⟩
                                    case measure => simp [intOf]; omega
                            · as_aux_lemma =>
                                obtain ⟨g8, rfl, hga, hgb, hc8⟩ := HO8.out (by omega)
                                have HOA := hid (fun r (hr : r < m) => show w8.cell? ⟨g8, r, none⟩ = some (.int .i64 (oc.getD r 0)) from by
                                  have hro : r < oc.length := by rw [HOL.out]; exact hr
                                  rw [hc8 r (by omega)]
                                  simp [List.getD, List.getElem?_eq_getElem hro])
                                clear hc8 hga hgb hm0 HO8
                                go_wp2_with fail
                                go_loopw [24, 234] (fun iv rv wq => ∃ r : Nat, r ≤ m ∧ rv = .int .i64 r ∧ iv = .bool (decide (ev.id ∈ oc.take r)) ∧ wq = w8) (fun _ rv _ => m - (intOf rv).toNat)
                                case atStart => exact ⟨0, Nat.zero_le _, rfl, by simp, rfl⟩
                                case round =>
                                  obtain ⟨r, hr, rfl, rfl, hwq⟩ := hrel
                                  rw [hwq]
                                  clear hwq
                                  by_cases hrm : r < m
                                  · have hrm' : (r : Int) < m := by omega
                                    have y3 := HOA.out r hrm
                                    have HST := hid (show decide (ev.id ∈ oc.take (r + 1)) = (decide (ev.id ∈ oc.take r) || (oc.getD r 0 == ev.id)) from by
                                      have hro : r < oc.length := by rw [HOL.out]; exact hrm
                                      have hgd : oc.getD r 0 = oc[r] := by simp [List.getD, hro]
                                      rw [Bool.eq_iff_iff, Bool.or_eq_true, decide_eq_true_eq, decide_eq_true_eq, beq_iff_eq, List.take_succ_eq_append_getElem hro, List.mem_append, List.mem_singleton, hgd]
                                      exact ⟨fun h => h.imp id (fun h => h.symm), fun h => h.imp id (fun h => h.symm)⟩)
                                    generalize oc.getD r 0 = ov at *
                                    generalize decide (ev.id ∈ oc.take r) = db at *
                                    cases db
                                    all_goals
                                      go_wp2_with fail
                                      go_roundw
                                      case rel => exact ⟨r + 1, by omega, by go_num, by rw [HST.out]; rfl, trivial⟩
                                      case measure => simp [intOf]; omega
                                  · have hrm' : ¬ (r : Int) < m := by omega
                                    obtain rfl : r = m := by omega
                                    have hIN := HIN.out
                                    rw [List.take_of_length_le (by rw [HOL.out]; omega)]
                                    rw [hIN]
                                    generalize Cnf.sub [kk] ev.lits = bq at *
                                    have hbq : (bq != bq) = false := by simp
                                    go_wp2_with (go_at_call 27; refine (C27.out).mono ?_; rintro e w9 ⟨rfl, hw9⟩; rw [hw9]; clear hw9)
                                    go_roundw
                                    case rel => exact ⟨u + 1, by omega, by go_num, NX.out⟩
                                    case measure => simp [intOf]; omega
                        · have hu2' : ¬ (u : Int) < 2 := by omega
                          go_wp2_with fail
                          go_roundw
                          case rel => exact ⟨t + 1, by omega, by omega, by go_num, hid HU.out.1⟩
                          case measure => simp [intOf]; omega
                    · have hvt : ¬ (t : Int) ≤ vars := htv
                      go_wp2_with fail
                      go_roundw
                      case rel => exact ⟨j + 1, by omega, by go_num, hid ⟨HX.out.1, HEN.out.below (BV.out.trans (HX.out.2.mono BV.out.size))⟩⟩
                      case measure => simp [intOf]; omega
            · have hge : ¬ (j : Int) < n2 := by omega
              have C20 := hid (works20 wr)
              have HW := hid (HBW2.out.trans (HBE.out.1.bel.mono HBW2.out.size))
              clear hlt
              go_wp2_with (go_at_call 20; refine C20.out.mono ?_; rintro e w6 ⟨rfl, hb6⟩; have HB6 := hid (HW.out.trans (hb6.mono HW.out.size)); clear hb6)
              go_ret
              exact ⟨rfl, HB6.out⟩
  · as_aux_lemma =>
      have C23 := hid (new23_err vars a n cap cs w3 HN.out (HC.out.below hBW2) hr)
      have hrb : (Cq.right vars cs != 0) = true := by simpa using hr
      generalize Cq.right vars cs = rr at *
      clear hr hn40 hl200 hs40 hs600 hB2 hBW2
      go_wp2_with fail
      go_at_call 23
      refine C23.out.mono ?_
      clear C23
      rintro e w4 ⟨rfl, hb4⟩
      have HB4 := hid (HBW2.out.trans (hb4.mono HBW2.out.size))
      have C20 := hid (works20 w4)
      clear hb4
      go_wp2_with (go_at_call 20; refine C20.out.mono ?_; rintro e w5 ⟨rfl, hb5⟩; have HB5 := hid (HB4.out.trans (hb5.mono HB4.out.size)); clear hb5)
      go_ret
      exact ⟨rfl, HB5.out⟩
end Go.Proofs.Ythpebfojkpnojaa

