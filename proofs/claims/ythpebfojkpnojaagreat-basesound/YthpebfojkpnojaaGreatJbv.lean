/- Whatever is tried, what a base takes follows: the law. -/
import Derived.Test.YthpebfojkpnojaaGreatJbu
import Derived.Test.YthpebfojkpnojaaGreatJbc
/- Whatever is tried, what a base takes follows: the law. -/
namespace Go.Proofs.YthpebfojkpnojaaGreat
open Go.RowKit Go.Maps
set_option linter.unusedVariables false
set_option linter.unusedSimpArgs false
set_option maxRecDepth 100000
theorem Bst.bel {w : World} {bb B : Nat} {s : Bas.S} {X : World} (h : Bst w bb B s X) : Below w.heap.size w X := by
  obtain ⟨_, _, _, _, _, h4⟩ := h
  exact h4
theorem cls_tr {w : World} {a : Option Addr} {cs : List (List Int)} (h : Cls w a cs) : Tr.Cls w a cs := h
theorem lits_tr {w : World} {a : Option Addr} {xs : List Int} (h : Lits w a xs) : Tr.Lits w a xs := h
theorem bel_next {A X Y : World} (h : Below A.heap.size A X) (h2 : Below X.heap.size X Y) : Below A.heap.size A Y := h.trans (h2.mono h.size)
theorem ClsN.lt {P0 : Nat → Prop} {w : World} {a : Option Addr} {cs : List (List Int)} (h : ClsN P0 w a cs) : ClsN (fun g => P0 g ∧ g < w.heap.size) w a cs := by
  refine ⟨h.1, h.2.imp id ?_⟩
  rintro ⟨b, off, e, h0, hl, hc⟩
  exact ⟨b, off, e, ⟨h0, hl⟩, hl, fun j hj => by
    obtain ⟨a', cap', h1, h2, h3⟩ := hc j hj
    refine ⟨a', cap', h1, h2, fun b' off' e' hne => ⟨h3 b' off' e' hne, ?_⟩⟩
    rcases h2.2 with h | ⟨b'', off'', e'', hl', _⟩
    · exact absurd h hne
    · rw [e'] at e''; cases e''; exact hl'⟩
/-- The box of a formula that was told. -/
structure LiveBox (V1 : World) (vars : Int) (S : List (List Int)) (q : Nat) (o : Option Addr) (n c : Nat) (wx : World) : Prop where
  new : V1.heap.size ≤ q
  num : S.length = n
  blk : wx.heap[q]? = some (.cells #[.int .i64 vars, .slice o n c] 24 (0, 0))
  cls : ClsN (fun g => V1.heap.size ≤ g) wx o S
  bel : Below V1.heap.size V1 wx
set_option maxHeartbeats 16000000 in
theorem law4 (vars : Int) (a aa : Option Addr) (n cap na ca : Nat) (cs : List (List Int)) (ss : List Bas.Cal) (W : World) (hn : cs.length = n) (hN : n ≤ 8796093022208) (hc : Cls W a cs) (hna : ss.length = na) (hNa : na ≤ 8796093022208) (hs : Cals W aa ss) :
    Calls Tryz.prog 4 #[.agg #[.int .i64 vars, .slice a n cap], .slice aa na ca] W fun e w' => e = .returned (.bool true) ∧ Below W.heap.size W w' := by
  have hB := below_box W (.cells #[.int .i64 vars, .slice a n cap] 24)
  have hx := heap_alloc_new W (.cells #[.int .i64 vars, .slice a n cap] 24)
  have hz : (W.alloc (.cells #[.int .i64 vars, .slice a n cap] 24)).heap.size = W.heap.size + 1 := alloc_size _ _
  generalize hW1 : W.alloc (.cells #[.int .i64 vars, .slice a n cap] 24) = W1 at hB hx hz
  have C21 := hid (small21 vars a n cap 8 40 160 cs W1 (by decide) (by decide) (by decide) hn hN (hc.below hB))
  have C22 := hid (fun X (hX : Below W.heap.size W X) => few22 aa na ca ss X hna hNa (hs.below hX))
  have HF := hid (fun X (hX : Below W1.heap.size W1 X) => show X.cell? ⟨W.heap.size, 0, none⟩ = some (.int .i64 vars) ∧ X.cell? ⟨W.heap.size, 1, none⟩ = some (.slice a n cap) from by
    have hh := (hX.block W.heap.size (by omega)).trans hx
    exact ⟨row_cell hh 0, row_cell hh 1⟩)
  obtain ⟨p0, p1⟩ := HF.out W1 (Below.refl _ _)
  have HC := hid hc
  have HS := hid hs
  have HN := hid hn
  have HNA := hid hna
  have HB := hid hB
  clear hc hs hn hna hB hx
  go_enter Tryz.func4, Tryz.ntmps4
  go_wp2_with fail
  go_at_call 16
  refine C21.out.mono ?_
  clear C21
  rintro e w2 ⟨⟨b1, rfl, hsm⟩, hB2⟩
  have hBW2 := HB.out.trans (hB2.mono HB.out.size)
  cases b1
  · clear hsm
    go_wp2_with fail
    go_ret
    exact ⟨rfl, hBW2⟩
  obtain ⟨hv8, hn40, hl200⟩ := hsm rfl
  clear hsm
  go_wp2_with fail
  go_at_call 7
  refine (C22.out w2 hBW2).mono ?_
  clear C22
  rintro e w3 ⟨⟨b2, rfl, hfw⟩, hd3⟩
  replace hBW2 := hBW2.trans (hd3.below.mono hBW2.size)
  replace hB2 := hB2.trans (hd3.below.mono hB2.size)
  clear hd3
  cases b2
  · clear hfw
    go_wp2_with fail
    go_ret
    exact ⟨rfl, hBW2⟩
  obtain ⟨hs40, hs600⟩ := hfw rfl
  clear hfw
  have HL := hid hs40
  have HM := hid hs600
  have hna40 : na ≤ 40 := by have := HNA.out; omega
  obtain ⟨q0, q1⟩ := HF.out w3 hB2
  clear p0 p1
  have HB2 := hid hB2
  have HBW2 := hid hBW2
  by_cases hr : Cq.right vars cs = 0
  · have C23 := hid (new23 vars a n cap cs w3 HN.out (HC.out.below hBW2) hr)
    have OK0 := hid (Bas.Ok.new (by omega) hl200 (Bas.new_good hr))
    have hv0 := (right_zero hr).1
    have HFL := hid (right_zero hr)
    obtain ⟨u, hu⟩ : ∃ u : Nat, (u : Int) = vars := ⟨vars.toNat, by omega⟩
    subst hu
    clear hr hn40 hl200 hs40 hs600 hB2 hBW2
    go_wp2_with fail
    go_at_call 8
    refine C23.out.mono ?_
    clear C23
    rintro e w4 ⟨bb, M, K, rfl, hbs, hK, hM, hb4⟩
    have R0 := hid (show Rs cs (u : Int) w3 bb ss 0 w4 from ⟨20000000, _, ⟨fun g => M g ∧ g < w4.heap.size, K, hbs.cap, hK, fun g hg => ⟨hM g hg.1, hg.2⟩, hb4⟩, by omega, OK0.out, Bas.start_snd cs 1, rfl⟩)
    clear hbs hK hM hb4 OK0 q0 q1
    go_wp2_with fail
    go_loopw [7] (fun i wr => ∃ k : Nat, k ≤ na ∧ i = .int .i64 k ∧ Hid (Rs cs (u : Int) w3 bb ss k wr)) (fun i _ => na - (intOf i).toNat)
    case atStart => exact ⟨0, Nat.zero_le _, rfl, R0⟩
    case round =>
      clear R0
      obtain ⟨k, hk, rfl, HR⟩ := hrel
      by_cases hlt : k < na
      · as_aux_lemma =>
          have hks : k < ss.length := by rw [HNA.out]; exact hlt
          have hlt' : (k : Int) < na := by omega
          obtain ⟨B, s, hb, hBk, hok, hsd, hvr⟩ := HR.out
          have hBw := HBW2.out.trans (hb.bel.mono HBW2.out.size)
          obtain ⟨b, off, p, q, rfl, hcal0, z0, z1, z2, z3, z4, z5⟩ := HS.out.at hks
          have hcal := hcal0.below hBw
          have x0 := (hBw.cell (p := ⟨b, off + k * 6, none⟩) (cell_lt z0)).trans z0
          have x1 := (hBw.cell (p := ⟨b, off + k * 6 + 1, none⟩) (cell_lt z1)).trans z1
          have x2 := (hBw.cell (p := ⟨b, off + k * 6 + 2, none⟩) (cell_lt z2)).trans z2
          have x3 := (hBw.cell (p := ⟨b, off + k * 6 + 3, none⟩) (cell_lt z3)).trans z3
          have x4 := (hBw.cell (p := ⟨b, off + k * 6 + 4, none⟩) (cell_lt z4)).trans z4
          have x5 := (hBw.cell (p := ⟨b, off + k * 6 + 5, none⟩) (cell_lt z5)).trans z5
          clear z0 z1 z2 z3 z4 z5
          have hle := Bas.nums_le ss k
          have hle1 := Bas.nums_le ss (k + 1)
          have hsum := Bas.nums_take ss k hks
          have hss40 := HL.out
          have hss600 := HM.out
          have C18 := hid (fun X (h : Bst w3 bb B s X) => h.entriesC hok.good (by have := hok.last; omega) (by omega) (fun e he => by have := hok.lits e he; omega) (by have := hok.live; omega))
          have C17 := hid (fun X lb lc (P0 : Nat → Prop) (hE : EntsN P0 s.live lb X) (hn0 : ∀ g, X.heap.size + 2 ≤ g → P0 g) => all17 P0 (u : Int) lb s.live.length lc s.live X rfl (by have := hok.live; omega) (fun e he => by have := hok.lits e he; omega) hE hn0)
          have C24 := hid (fun X (h : Below wr.heap.size wr X) => own24 ss[k].kind ss[k].id ss[k].by_ p.1 ss[k].lits.length p.2 ss[k].lits q.1 ss[k].hints.length q.2 ss[k].hints ss[k].red X rfl rfl (by omega) (by omega) (hcal.lits.below h) (hcal.hints.below h))
          have C25 := hid (fun X => pick25 ss[k].kind 8 X (by decide) (by decide) hcal.kind)
          have C8 := hid (fun X (h : Bst w3 bb B s X) => rs_keep h hBk hok hsd hvr hks hss40 ss[k].id hcal.id)
          have C9 := hid (fun X (h : Bst w3 bb B s X) => rs_delete h hBk hok hsd hvr hks hss40 hss600 ss[k].id hcal.id)
          have C10 := hid (fun X (h : Bst w3 bb B s X) => rs_drop h hBk hok hsd hvr hks hss40 hss600 ss[k].id ss[k].by_ hcal.id hcal.by_)
          have C5 := hid (fun V X (h : Bst w3 bb B s V) (hX : Below V.heap.size V X) base (hba : V.heap.size ≤ base) a1 c1 a2 c2 (h1 : X.ownsRow base 66 1 (.slice a1 ss[k].lits.length c1) ss[k].lits.length (ss[k].lits.map (Value.int .i32))) (h2 : X.ownsRow base 2 1 (.slice a2 ss[k].hints.length c2) ss[k].hints.length (ss[k].hints.map (Value.int .i64))) => rs_add (n := ss[k].lits.length) (c := c1) (a := a1) (n2 := ss[k].hints.length) (c2 := c2) (a2 := a2) h hBk hok hsd hvr hks hss40 hss600 hX hba h1 h2 hcal.lits.1 hcal.hints.1 ss[k].red)
          have RN := hid (show Rs cs (u : Int) w3 bb ss k wr from HR.out)
          have HLT := hid (fun (X : World) (h : Below W.heap.size W X) => hcal0.lits.below h)
          have SKIP := hid (fun X (hX : Below wr.heap.size wr X) => show Rs cs (u : Int) w3 bb ss (k + 1) X from ⟨B, s, hb.below hX, by omega, ok_next hks (m := 0) (by omega) (hok.mono (Nat.le_succ _) (Nat.le_refl _)), hsd, hvr⟩)
          have HFL2 := hid (show (s.live.map (·.lits)).flatten.length ≤ 16777216 from Nat.le_trans (Bas.flat_le (s.live.map (·.lits)) 1000 (fun x hx => by obtain ⟨e, he, rfl⟩ := List.mem_map.1 hx; have := hok.lits e he; omega)) (by rw [List.length_map]; have := hok.live; have : s.live.length * 1000 ≤ 80 * 1000 := Nat.mul_le_mul_right _ (by omega); omega))
          have HLN := hid (show ss[k].lits.length ≤ 600 from by omega)
          have HIMP := hid (fun (h : Bas.addE s ss[k].lits ss[k].hints = 0) => Bas.add_imp (by rw [hvr]) hok.good h)
          have HLV := hid (Bas.lit_of (vars := (u : Int)) rfl hok.good hvr)
          have HBS := hid hb
          have HG := hid hok
          have HNL := hid (show s.live.length ≤ 1000 from by have := hok.live; omega)
          clear hle hle1 hsum hss40 hss600 hcal hcal0 hb hok hBk hBw hsd hvr
          generalize ss[k].kind = kd at *
          generalize ss[k].id = idn at *
          generalize ss[k].by_ = byn at *
          generalize ss[k].lits = xs at *
          generalize ss[k].hints = hs at *
          generalize ss[k].red = red at *
          obtain ⟨V1, hV1⟩ : ∃ V1, wr.alloc (.cells #[.int .i64 kd, .int .i64 idn, .int .i64 byn, .slice p.1 xs.length p.2, .slice q.1 hs.length q.2, .bool red] 41) = V1 := ⟨_, rfl⟩
          have hbx := below_box wr (.cells #[.int .i64 kd, .int .i64 idn, .int .i64 byn, .slice p.1 xs.length p.2, .slice q.1 hs.length q.2, .bool red] 41)
          have hbn := heap_alloc_new wr (.cells #[.int .i64 kd, .int .i64 idn, .int .i64 byn, .slice p.1 xs.length p.2, .slice q.1 hs.length q.2, .bool red] 41)
          rw [hV1] at hbx hbn
          have HX := hid (fun X (hX : Below V1.heap.size V1 X) => show X.cell? ⟨wr.heap.size, 0, none⟩ = some (.int .i64 kd) ∧ X.cell? ⟨wr.heap.size, 1, none⟩ = some (.int .i64 idn) ∧ X.cell? ⟨wr.heap.size, 2, none⟩ = some (.int .i64 byn) ∧ X.cell? ⟨wr.heap.size, 3, none⟩ = some (.slice p.1 xs.length p.2) ∧ X.cell? ⟨wr.heap.size, 4, none⟩ = some (.slice q.1 hs.length q.2) ∧ X.cell? ⟨wr.heap.size, 5, none⟩ = some (.bool red) from by
            have hh := (hX.block wr.heap.size (lt_of_blk hbn)).trans hbn
            exact ⟨row_cell hh 0, row_cell hh 1, row_cell hh 2, row_cell hh 3, row_cell hh 4, row_cell hh 5⟩)
          have HBX := hid hbx
          have SF := hid (fun X (hX : Below V1.heap.size V1 X) => show X.cell? ⟨W.heap.size, 0, none⟩ = some (.int .i64 (u : Int)) ∧ Below V1.heap.size V1 X from ⟨(HF.out X (HB2.out.trans ((HBS.out.bel.trans ((hbx.trans (hX.mono hbx.size)).mono HBS.out.bel.size)).mono HB2.out.size))).1, hX⟩)
          have HBV := hid (fun X (hX : Below V1.heap.size V1 X) => HBS.out.below (hbx.trans (hX.mono hbx.size)))
          have BB := hid (Below.refl V1.heap.size V1)
          have HV1 := hid (show wr.heap[wr.heap.size]? = none ∧ V1.heap[wr.heap.size]? = some (.cells #[.int .i64 kd, .int .i64 idn, .int .i64 byn, .slice p.1 xs.length p.2, .slice q.1 hs.length q.2, .bool red] 41 (0, 0)) from ⟨Array.getElem?_eq_none (Nat.le_refl _), hbn⟩)
          clear hbx hbn
          go_upto_region 10 with fail
          go_cut [9] from 52 to 56 (fun bv wx => ∃ q9 o9 c9, bv = .pointer (some ⟨q9, 0, none⟩) ∧ Hid (LiveBox V1 (u : Int) (s.live.map (·.lits)) q9 o9 s.live.length c9 wx))
          case first =>
            clear x0 x1 x2 x3 x4 x5
            obtain ⟨p0, _⟩ := SF.out _ BB.out
            go_wp2_with fail
            go_region_held3 (fun X => X.cell? ⟨W.heap.size, 0, none⟩ = some (.int .i64 (u : Int)) ∧ Below V1.heap.size V1 X)
              (exact SF.out _ (by repeat' (first | exact BB.out | exact hb5 | exact hb6 | exact Nat.le_refl _ | exact hb5.size | exact hb6.size | refine Below.drew ?_ | refine bla ?_ _ | refine Below.setCell ?_ ?_ _)))
              (first
                | (go_at_call 18; refine (C18.out _ (HBV.out _ (by repeat (first | exact BB.out | refine Below.drew ?_ | refine bla ?_ _)))).mono ?_; rintro e w5 ⟨hen, _⟩; obtain ⟨lb, lc, rfl, hents, hB5⟩ := hen.entsN; have hb5 : Below V1.heap.size V1 w5 := bel_next (by repeat (first | exact BB.out | refine Below.drew ?_ | refine bla ?_ _)) hB5; (try have n5 : w5.heap[V1.heap.size]? = some (.cells #[.int .i64 0, .slice none 0 0] 24 (0, 0)) := (hB5.block _ (by simp)).trans (heap_alloc_new _ _)))
                | (go_at_call 17; (first
                    | refine (C17.out _ lb lc (fun g => V1.heap.size ≤ g ∧ g ≠ V1.heap.size) (hents.mono0 (fun b hb => ⟨by have := hb.1; simp at this; omega, by have := hb.1; simp at this; omega⟩)) (fun g hg => by have := hb5.size; omega)).mono ?_
                    | refine (C17.out _ lb lc (fun g => V1.heap.size ≤ g ∧ g ≠ w5.heap.size) (hents.mono0 (fun b hb => ⟨by have := hb.1; simp at this; omega, by have := hb.2; omega⟩)) (fun g hg => by have := hb5.size; omega)).mono ?_
                    | refine (C17.out _ lb lc (fun g => V1.heap.size ≤ g ∧ g ≠ w5.heap.size) ((hents.below (below_box _ _)).mono0 (fun b hb => ⟨by have := hb.1; simp at this; omega, by have := hb.2; omega⟩)) (fun g hg => by have := hb5.size; simp at hg; omega)).mono ?_); rintro e w6 ⟨o6, c6, rfl, hcl6, hB6⟩; have hb6 : Below V1.heap.size V1 w6 := bel_next (by repeat (first | exact hb5 | refine Below.drew ?_ | refine bla ?_ _)) hB6
                   (try have n6 : w6.heap[V1.heap.size]? = some (.cells #[.int .i64 0, .slice none 0 0] 24 (0, 0)) := (hB6.block _ (lt_of_blk n5)).trans n5)
                   (try have n6 : w6.heap[w5.heap.size]? = some (.cells #[.int .i64 0, .slice none 0 0] 24 (0, 0)) := (hB6.block _ (by simp)).trans (heap_alloc_new _ _))
                   (try have m0 := row_cell n6 0)
                   (try have m1 := row_cell n6 1)
                   (try have m2 := row_frozen n6 0)
                   (try have m3 := row_frozen n6 1)))
            all_goals go_wp2_with fail
            all_goals go_meet
            all_goals case rel =>
              first
                | exact ⟨V1.heap.size, o6, c6, rfl, hid ⟨Nat.le_refl _, by simp, heap_set_row (heap_set_row n6 _) _, (hcl6.keep (by simp [World.setCell]) (fun g hg _ => (heap_other _ _ hg.2).trans (heap_other _ _ hg.2))).mono0 (fun g hg => hg.1), (by repeat' (first | exact BB.out | exact hb5 | exact hb6 | exact Nat.le_refl _ | exact hb5.size | exact hb6.size | refine Below.drew ?_ | refine bla ?_ _ | refine Below.setCell ?_ ?_ _))⟩⟩
                | exact ⟨w5.heap.size, o6, c6, rfl, hid ⟨hb5.size, by simp, heap_set_row (heap_set_row n6 _) _, (hcl6.keep (by simp [World.setCell]) (fun g hg _ => (heap_other _ _ hg.2).trans (heap_other _ _ hg.2))).mono0 (fun g hg => hg.1), (by repeat' (first | exact BB.out | exact hb5 | exact hb6 | exact Nat.le_refl _ | exact hb5.size | exact hb6.size | refine Below.drew ?_ | refine bla ?_ _ | refine Below.setCell ?_ ?_ _))⟩⟩
                | exact ⟨w6.heap.size, o6, c6, rfl, hid ⟨hb6.size, by simp, heap_alloc_new _ _, (hcl6.below (below_box _ _)).mono0 (fun g hg => hg.1), (by repeat' (first | exact BB.out | exact hb5 | exact hb6 | exact Nat.le_refl _ | exact hb5.size | exact hb6.size | refine Below.drew ?_ | refine bla ?_ _ | refine Below.setCell ?_ ?_ _))⟩⟩
          case rest =>
            obtain ⟨q9, o9, c9, rfl, HLB⟩ := hcut
            clear x0 x1 x2 x3 x4 x5 C17 C18 SF
            have BVc := hid HLB.out.bel
            have HBc := hid (HBV.out wc HLB.out.bel)
            obtain ⟨x0, x1, x2, x3, x4, x5⟩ := HX.out wc BVc.out
            go_wp2_with fail
            go_at_call 19
            refine (C24.out wc (HBX.out.trans (BVc.out.mono HBX.out.size))).mono ?_
            clear x0 x1 x2 x3 x4 x5 C24
            rintro e w7 ⟨o7, c7, o8, c8, rfl, ho7, ho8, hB7⟩
            have HO7 := hid ho7
            have HO8 := hid ho8
            have B7 := hid hB7
            have BX7 := hid (BVc.out.trans (hB7.mono BVc.out.size))
            clear ho7 ho8 hB7
            obtain ⟨x0, x1, x2, x3, x4, x5⟩ := HX.out w7 BX7.out
            go_wp2_with fail
            go_at_call 11
            refine (C25.out w7).mono ?_
            clear C25
            rintro e w8 ⟨⟨t, ht, rfl⟩, hw8⟩
            rw [hw8]
            clear hw8
            by_cases t0 : t = 0
            · as_aux_lemma =>
                have e0 : ((t : Int) == 0) = true := by simp; omega
                go_wp2_with fail
                go_at_call 20
                refine (C5.out wr w7 HBS.out (HBX.out.trans (BX7.out.mono HBX.out.size)) _ (Nat.le_trans HBX.out.size (Nat.le_trans BVc.out.size (Nat.le_succ _))) _ _ _ _ HO7.out HO8.out).mono ?_
                clear C5
                rintro e w9 ⟨rfl, hrs, hsz9, hkp9⟩
                have H9 := hid hrs
                by_cases ha : Bas.addE s xs hs = 0
                · obtain ⟨hi1, hi2⟩ := HIMP.out ha
                  have hq9 : w9.heap[q9]? = some (.cells #[.int .i64 (u : Int), .slice o9 s.live.length c9] 24 (0, 0)) := by
                    have h0 := HLB.out.blk
                    have h1 := lt_of_blk h0
                    have h2 := HLB.out.new
                    have h3 := HBX.out.size
                    exact (hkp9 q9 (by omega) (Nat.lt_of_lt_of_le h1 B7.out.size)).trans ((B7.out.block q9 h1).trans h0)
                  have hcl9 := ((HLB.out.cls.below B7.out).keep hsz9 (fun g hg hlt => hkp9 g (Nat.le_trans HBX.out.size hg) hlt)).cls
                  have hbs9 : w9.heap[wr.heap.size]? = some (.cells #[.int .i64 kd, .int .i64 idn, .int .i64 byn, .slice p.1 xs.length p.2, .slice q.1 hs.length q.2, .bool red] 41 (0, 0)) := by
                    have h1 := lt_of_blk HV1.out.2
                    exact (hkp9 wr.heap.size (Nat.le_refl _) (Nat.lt_of_lt_of_le h1 BX7.out.size)).trans ((BX7.out.block _ h1).trans HV1.out.2)
                  have y0 : w9.cell? ⟨q9, 0, none⟩ = some (.int .i64 (u : Int)) := row_cell hq9 0
                  have y1 : w9.cell? ⟨q9, 1, none⟩ = some (.slice o9 s.live.length c9) := row_cell hq9 1
                  have y3 : w9.cell? ⟨wr.heap.size, 3, none⟩ = some (.slice p.1 xs.length p.2) := row_cell hbs9 3
                  have hW9 : Below W.heap.size W w9 := by
                    obtain ⟨_, _, hb9, _⟩ := hrs
                    exact HBW2.out.trans (hb9.bel.mono HBW2.out.size)
                  have hlv : ∀ c ∈ s.live.map (·.lits), ∀ l ∈ c, 1 ≤ Cnt.vr l ∧ Cnt.vr l ≤ (u : Int) := fun c hc l hl => by
                    obtain ⟨e, he, rfl⟩ := List.mem_map.1 hc
                    exact HLV.out e he l hl
                  have hn1 : s.live.length ≤ 1048576 := by have := HNL.out; omega
                  have C21 := Tr.implies14 u o9 p.1 s.live.length c9 xs.length p.2 (s.live.map (fun e : Bas.E => e.lits)) xs w9 (by simp) (cls_tr hcl9) rfl (by have := HLN.out; omega) (lits_tr (HLT.out w9 hW9)) (Bas.taken_ok (by omega) (by simpa using hn1) HFL2.out hlv) (by omega) hn1 HFL2.out hlv
                  unfold Tr.ImpOut at C21
                  rw [hi1, hi2] at C21
                  have C21 := hid C21
                  have hab : (Bas.addE s xs hs == 0) = true := by simpa using ha
                  clear hi1 hi2 hq9 hcl9 hbs9 hW9 hlv hn1 hrs hsz9 hkp9
                  generalize Bas.addE s xs hs = ae at *
                  go_wp2_with (go_at_call 21; refine C21.out.mono ?_; clear C21; rintro e w10 ⟨rfl, hb10⟩; have H10 := hid (show Rs cs (u : Int) w3 bb ss (k + 1) w10 from by
                    obtain ⟨B', s', g1, g2⟩ := H9.out
                    exact ⟨B', s', g1.below hb10, g2⟩); clear hb10)
                  exact ⟨⟨k + 1, by omega, by go_num, H10⟩, by simp only [intOf]; omega⟩
                · have hab : (Bas.addE s xs hs == 0) = false := by simpa using ha
                  clear hrs hsz9 hkp9
                  generalize Bas.addE s xs hs = ae at *
                  go_wp2_with fail
                  exact ⟨⟨k + 1, by omega, by go_num, H9⟩, by simp only [intOf]; omega⟩
            have e0 : ((t : Int) == 0) = false := by simp; omega
            by_cases t1 : t = 1
            · as_aux_lemma =>
                have e1 : ((t : Int) == 1) = true := by simp; omega
                go_wp2_with fail
                go_at_call 20
                refine (C5.out wr w7 HBS.out (HBX.out.trans (BX7.out.mono HBX.out.size)) _ (Nat.le_trans HBX.out.size (Nat.le_trans BVc.out.size (Nat.le_succ _))) _ _ _ _ HO7.out HO8.out).mono ?_
                clear C5
                rintro e w9 ⟨rfl, hrs, hsz9, hkp9⟩
                have H9 := hid hrs
                by_cases ha : Bas.addE s xs hs = 0
                · obtain ⟨hi1, hi2⟩ := HIMP.out ha
                  have hq9 : w9.heap[q9]? = some (.cells #[.int .i64 (u : Int), .slice o9 s.live.length c9] 24 (0, 0)) := by
                    have h0 := HLB.out.blk
                    have h1 := lt_of_blk h0
                    have h2 := HLB.out.new
                    have h3 := HBX.out.size
                    exact (hkp9 q9 (by omega) (Nat.lt_of_lt_of_le h1 B7.out.size)).trans ((B7.out.block q9 h1).trans h0)
                  have hcl9 := ((HLB.out.cls.below B7.out).keep hsz9 (fun g hg hlt => hkp9 g (Nat.le_trans HBX.out.size hg) hlt)).cls
                  have hbs9 : w9.heap[wr.heap.size]? = some (.cells #[.int .i64 kd, .int .i64 idn, .int .i64 byn, .slice p.1 xs.length p.2, .slice q.1 hs.length q.2, .bool red] 41 (0, 0)) := by
                    have h1 := lt_of_blk HV1.out.2
                    exact (hkp9 wr.heap.size (Nat.le_refl _) (Nat.lt_of_lt_of_le h1 BX7.out.size)).trans ((BX7.out.block _ h1).trans HV1.out.2)
                  have y0 : w9.cell? ⟨q9, 0, none⟩ = some (.int .i64 (u : Int)) := row_cell hq9 0
                  have y1 : w9.cell? ⟨q9, 1, none⟩ = some (.slice o9 s.live.length c9) := row_cell hq9 1
                  have y3 : w9.cell? ⟨wr.heap.size, 3, none⟩ = some (.slice p.1 xs.length p.2) := row_cell hbs9 3
                  have hW9 : Below W.heap.size W w9 := by
                    obtain ⟨_, _, hb9, _⟩ := hrs
                    exact HBW2.out.trans (hb9.bel.mono HBW2.out.size)
                  have hlv : ∀ c ∈ s.live.map (·.lits), ∀ l ∈ c, 1 ≤ Cnt.vr l ∧ Cnt.vr l ≤ (u : Int) := fun c hc l hl => by
                    obtain ⟨e, he, rfl⟩ := List.mem_map.1 hc
                    exact HLV.out e he l hl
                  have hn1 : s.live.length ≤ 1048576 := by have := HNL.out; omega
                  have C21 := Tr.implies14 u o9 p.1 s.live.length c9 xs.length p.2 (s.live.map (fun e : Bas.E => e.lits)) xs w9 (by simp) (cls_tr hcl9) rfl (by have := HLN.out; omega) (lits_tr (HLT.out w9 hW9)) (Bas.taken_ok (by omega) (by simpa using hn1) HFL2.out hlv) (by omega) hn1 HFL2.out hlv
                  unfold Tr.ImpOut at C21
                  rw [hi1, hi2] at C21
                  have C21 := hid C21
                  have hab : (Bas.addE s xs hs == 0) = true := by simpa using ha
                  clear hi1 hi2 hq9 hcl9 hbs9 hW9 hlv hn1 hrs hsz9 hkp9
                  generalize Bas.addE s xs hs = ae at *
                  go_wp2_with (go_at_call 21; refine C21.out.mono ?_; clear C21; rintro e w10 ⟨rfl, hb10⟩; have H10 := hid (show Rs cs (u : Int) w3 bb ss (k + 1) w10 from by
                    obtain ⟨B', s', g1, g2⟩ := H9.out
                    exact ⟨B', s', g1.below hb10, g2⟩); clear hb10)
                  exact ⟨⟨k + 1, by omega, by go_num, H10⟩, by simp only [intOf]; omega⟩
                · have hab : (Bas.addE s xs hs == 0) = false := by simpa using ha
                  clear hrs hsz9 hkp9
                  generalize Bas.addE s xs hs = ae at *
                  go_wp2_with fail
                  exact ⟨⟨k + 1, by omega, by go_num, H9⟩, by simp only [intOf]; omega⟩
            have e1 : ((t : Int) == 1) = false := by simp; omega
            by_cases t2 : t = 2
            · as_aux_lemma =>
                have e2 : ((t : Int) == 2) = true := by simp; omega
                go_wp2_with (go_at_call 22; refine (C8.out w7 (HBc.out.below B7.out)).mono ?_; rintro e w9 ⟨⟨r1, rfl⟩, h9⟩; have H9 := hid h9; clear h9)
                exact ⟨⟨k + 1, by omega, by go_num, H9⟩, by simp only [intOf]; omega⟩
            have e2 : ((t : Int) == 2) = false := by simp; omega
            by_cases t3 : t = 3
            · as_aux_lemma =>
                have e3 : ((t : Int) == 3) = true := by simp; omega
                go_wp2_with (go_at_call 23; refine (C9.out w7 (HBc.out.below B7.out)).mono ?_; rintro e w9 ⟨⟨r1, rfl⟩, h9⟩; have H9 := hid h9; clear h9)
                exact ⟨⟨k + 1, by omega, by go_num, H9⟩, by simp only [intOf]; omega⟩
            have e3 : ((t : Int) == 3) = false := by simp; omega
            by_cases t4 : t = 4
            · as_aux_lemma =>
                have e4 : ((t : Int) == 4) = true := by simp; omega
                go_wp2_with (go_at_call 24; refine (C10.out w7 (HBc.out.below B7.out)).mono ?_; rintro e w9 ⟨⟨r1, rfl⟩, h9⟩; have H9 := hid h9; clear h9)
                exact ⟨⟨k + 1, by omega, by go_num, H9⟩, by simp only [intOf]; omega⟩
            have e4 : ((t : Int) == 4) = false := by simp; omega
            have H9 := hid (SKIP.out w7 (HBX.out.trans (BX7.out.mono HBX.out.size)))
            go_wp2_with fail
            exact ⟨⟨k + 1, by omega, by go_num, H9⟩, by simp only [intOf]; omega⟩
      · as_aux_lemma =>
          obtain rfl : k = na := by omega
          obtain ⟨B, s, hb, hBk, hok, hsd, hvr⟩ := HR.out
          have hss600 := HM.out
          have hle := Bas.nums_le ss k
          obtain ⟨V1, hV1⟩ : ∃ V1, V1 = wr := ⟨wr, rfl⟩
          subst hV1
          have HBW := hid (HBW2.out.trans (hb.bel.mono HBW2.out.size))
          have hbl := hb.bel
          have C18 := hid (fun X (h : Bst w3 bb B s X) => h.entriesC hok.good (by have := hok.last; omega) (by omega) (fun e he => by have := hok.lits e he; omega) (by have := hok.live; omega))
          have C27 := hid (fun X (h : Bst w3 bb B s X) => show Calls Tryz.prog 27 #[.pointer (some ⟨bb, 0, none⟩)] X fun en w' => EmpOut (Bas.emptyOf s.live) X en w' from by
            obtain ⟨M', K', h1, _⟩ := h
            exact empty7 h1 hok.good (by have := hok.last; omega))
          have C17 := hid (fun X lb lc (P0 : Nat → Prop) (hE : EntsN P0 s.live lb X) (hn0 : ∀ g, X.heap.size + 2 ≤ g → P0 g) => irr25 P0 (u : Int) lb s.live.length lc s.live X rfl (by have := hok.live; omega) (fun e he => by have := hok.lits e he; omega) hE hn0)
          have C17b := hid (fun X lb lc (P0 : Nat → Prop) (hE : EntsN P0 s.live lb X) (hn0 : ∀ g, X.heap.size + 2 ≤ g → P0 g) => all17 P0 (u : Int) lb s.live.length lc s.live X rfl (by have := hok.live; omega) (fun e he => by have := hok.lits e he; omega) hE hn0)
          have HBV := hid (fun X (hX : Below V1.heap.size V1 X) => hb.below hX)
          have SF := hid (fun X (hX : Below V1.heap.size V1 X) => show X.cell? ⟨W.heap.size, 0, none⟩ = some (.int .i64 (u : Int)) ∧ Below V1.heap.size V1 X from ⟨(HF.out X (HB2.out.trans ((hbl.trans (hX.mono hbl.size)).mono HB2.out.size))).1, hX⟩)
          have SG := hid (fun X (hX : Below V1.heap.size V1 X) => (HF.out X (HB2.out.trans ((hbl.trans (hX.mono hbl.size)).mono HB2.out.size))).2)
          have hfl : ∀ c ∈ cs, Bas.Lit u c := fun c hc l hl => HFL.out.2.2.2.2 l (List.mem_flatten.2 ⟨c, hc, hl⟩)
          have HLV := hid (Bas.lit_of (vars := (u : Int)) rfl hok.good hvr)
          have HAI := hid (Bas.alike_irr hvr.symm hok.good hfl hsd (2 ^ u))
          have HAA := hid (Bas.alike_all hvr.symm hok.good hfl hsd (2 ^ u))
          have HEM := hid (fun h k => Bas.empty_no (u := u) hfl hsd h k)
          have HFT := hid (Bas.taken_ok (u := u) (by omega) HFL.out.2.2.1 HFL.out.2.2.2.1 hfl)
          have HNL := hid (show s.live.length ≤ 1000 from by have := hok.live; omega)
          have hfa : ∀ L : List Bas.E, (∀ e ∈ L, e ∈ s.live) → L.length ≤ 1000 → (L.map (·.lits)).flatten.length ≤ 16777216 := fun L hL hn => Nat.le_trans (Bas.flat_le (L.map (·.lits)) 1000 (fun x hx => by obtain ⟨e, he, rfl⟩ := List.mem_map.1 hx; have := hok.lits e (hL e he); omega)) (by rw [List.length_map]; have : L.length * 1000 ≤ 1000 * 1000 := Nat.mul_le_mul_right _ hn; omega)
          have HFA := hid hfa
          have HFX := hid hfl
          have BB := hid (Below.refl V1.heap.size V1)
          clear hb hok hBk hle hss600 HR hsd hvr hbl hfa hfl
          go_upto_region 26 with fail
          go_cut [16] from 112 to 116 (fun bv wx => ∃ q9 o9 n9 c9, bv = .pointer (some ⟨q9, 0, none⟩) ∧ Hid (LiveBox V1 (u : Int) ((s.live.filter (fun e => !e.red)).map (·.lits)) q9 o9 n9 c9 wx))
          case first =>
            obtain ⟨p0, _⟩ := SF.out _ BB.out
            go_wp2_with fail
            go_region_held3 (fun X => X.cell? ⟨W.heap.size, 0, none⟩ = some (.int .i64 (u : Int)) ∧ Below V1.heap.size V1 X)
              (exact SF.out _ (by repeat' (first | exact BB.out | exact hb5 | exact hb6 | exact Nat.le_refl _ | exact hb5.size | exact hb6.size | refine Below.drew ?_ | refine bla ?_ _ | refine Below.setCell ?_ ?_ _)))
              (first
                | (go_at_call 18; refine (C18.out _ (HBV.out _ (by repeat (first | exact BB.out | refine Below.drew ?_ | refine bla ?_ _)))).mono ?_; rintro e w5 ⟨hen, _⟩; obtain ⟨lb, lc, rfl, hents, hB5⟩ := hen.entsN; have hb5 : Below V1.heap.size V1 w5 := bel_next (by repeat (first | exact BB.out | refine Below.drew ?_ | refine bla ?_ _)) hB5; (try have n5 : w5.heap[V1.heap.size]? = some (.cells #[.int .i64 0, .slice none 0 0] 24 (0, 0)) := (hB5.block _ (by simp)).trans (heap_alloc_new _ _)))
                | (go_at_call 25; (first
                    | refine (C17.out _ lb lc (fun g => V1.heap.size ≤ g ∧ g ≠ V1.heap.size) (hents.mono0 (fun b hb => ⟨by have := hb.1; simp at this; omega, by have := hb.1; simp at this; omega⟩)) (fun g hg => by have := hb5.size; omega)).mono ?_
                    | refine (C17.out _ lb lc (fun g => V1.heap.size ≤ g ∧ g ≠ w5.heap.size) (hents.mono0 (fun b hb => ⟨by have := hb.1; simp at this; omega, by have := hb.2; omega⟩)) (fun g hg => by have := hb5.size; omega)).mono ?_
                    | refine (C17.out _ lb lc (fun g => V1.heap.size ≤ g ∧ g ≠ w5.heap.size) ((hents.below (below_box _ _)).mono0 (fun b hb => ⟨by have := hb.1; simp at this; omega, by have := hb.2; omega⟩)) (fun g hg => by have := hb5.size; simp at hg; omega)).mono ?_); rintro e w6 ⟨o6, c6, rfl, hcl6, hB6⟩; have hb6 : Below V1.heap.size V1 w6 := bel_next (by repeat (first | exact hb5 | refine Below.drew ?_ | refine bla ?_ _)) hB6
                   (try have n6 : w6.heap[V1.heap.size]? = some (.cells #[.int .i64 0, .slice none 0 0] 24 (0, 0)) := (hB6.block _ (lt_of_blk n5)).trans n5)
                   (try have n6 : w6.heap[w5.heap.size]? = some (.cells #[.int .i64 0, .slice none 0 0] 24 (0, 0)) := (hB6.block _ (by simp)).trans (heap_alloc_new _ _))
                   (try have m0 := row_cell n6 0)
                   (try have m1 := row_cell n6 1)
                   (try have m2 := row_frozen n6 0)
                   (try have m3 := row_frozen n6 1)))
            all_goals go_wp2_with fail
            all_goals go_meet
            all_goals case rel =>
              first
                | exact ⟨V1.heap.size, o6, _, c6, rfl, hid ⟨Nat.le_refl _, by simp, heap_set_row (heap_set_row n6 _) _, (hcl6.keep (by simp [World.setCell]) (fun g hg _ => (heap_other _ _ hg.2).trans (heap_other _ _ hg.2))).mono0 (fun g hg => hg.1), (by repeat' (first | exact BB.out | exact hb5 | exact hb6 | exact Nat.le_refl _ | exact hb5.size | exact hb6.size | refine Below.drew ?_ | refine bla ?_ _ | refine Below.setCell ?_ ?_ _))⟩⟩
                | exact ⟨w5.heap.size, o6, _, c6, rfl, hid ⟨hb5.size, by simp, heap_set_row (heap_set_row n6 _) _, (hcl6.keep (by simp [World.setCell]) (fun g hg _ => (heap_other _ _ hg.2).trans (heap_other _ _ hg.2))).mono0 (fun g hg => hg.1), (by repeat' (first | exact BB.out | exact hb5 | exact hb6 | exact Nat.le_refl _ | exact hb5.size | exact hb6.size | refine Below.drew ?_ | refine bla ?_ _ | refine Below.setCell ?_ ?_ _))⟩⟩
                | exact ⟨w6.heap.size, o6, _, c6, rfl, hid ⟨hb6.size, by simp, heap_alloc_new _ _, (hcl6.below (below_box _ _)).mono0 (fun g hg => hg.1), (by repeat' (first | exact BB.out | exact hb5 | exact hb6 | exact Nat.le_refl _ | exact hb5.size | exact hb6.size | refine Below.drew ?_ | refine bla ?_ _ | refine Below.setCell ?_ ?_ _))⟩⟩
          case rest =>
            obtain ⟨q9, o9, n9, c9, rfl, HLB⟩ := hcut
            have h9 := HLB.out
            obtain ⟨p0, _⟩ := SF.out wc h9.bel
            have p1 := SG.out wc h9.bel
            have y0 : wc.cell? ⟨q9, 0, none⟩ = some (.int .i64 (u : Int)) := row_cell h9.blk 0
            have y1 : wc.cell? ⟨q9, 1, none⟩ = some (.slice o9 n9 c9) := row_cell h9.blk 1
            have hW : Below W.heap.size W wc := HBW.out.trans (h9.bel.mono HBW.out.size)
            have hli : ∀ c ∈ ((s.live.filter (fun e => !e.red)).map (fun e : Bas.E => e.lits)), Bas.Lit u c := fun c hc => by obtain ⟨e, he, rfl⟩ := List.mem_map.1 hc; exact HLV.out e (List.mem_filter.1 he).1
            have hla : ∀ c ∈ s.live.map (fun e : Bas.E => e.lits), Bas.Lit u c := fun c hc => by obtain ⟨e, he, rfl⟩ := List.mem_map.1 hc; exact HLV.out e he
            have hfi : ((s.live.filter (fun e => !e.red)).map (fun e : Bas.E => e.lits)).flatten.length ≤ 16777216 := HFA.out _ (fun e he => (List.mem_filter.1 he).1) (Nat.le_trans (List.length_filter_le _ _) HNL.out)
            have hfa2 : (s.live.map (fun e : Bas.E => e.lits)).flatten.length ≤ 16777216 := HFA.out _ (fun e he => he) HNL.out
            have hni : n9 ≤ 1048576 := by rw [← h9.num, List.length_map]; exact Nat.le_trans (List.length_filter_le _ _) (by have := HNL.out; omega)
            have hnl : s.live.length ≤ 1048576 := by have := HNL.out; omega
            have hcn : n ≤ 1048576 := by rw [← HN.out]; exact HFL.out.2.2.1
            have C26 := Tr.alike16 u a o9 n cap n9 c9 cs ((s.live.filter (fun e => !e.red)).map (fun e : Bas.E => e.lits)) wc HN.out (cls_tr (HC.out.below hW)) h9.num (cls_tr h9.cls.cls) HFT.out (Bas.taken_ok (by omega) (by rw [h9.num]; exact hni) hfi hli) (by omega) hcn HFL.out.2.2.2.1 hni hfi HFX.out hli
            have hai := HAI.out
            rw [show Tru.alikeTo cs ((s.live.filter (fun e => !e.red)).map (fun e : Bas.E => e.lits)) u (2 ^ u) = true from hai] at C26
            have C26 := hid C26
            have C26b := hid (fun X (o : Option Addr) (c : Nat) (hX : Below V1.heap.size V1 X) (hcl : ClsN (fun _ => True) X o (s.live.map (fun e : Bas.E => e.lits))) => show Calls Tryz.prog 26 #[.agg #[.int .i64 (u : Int), .slice a n cap], .agg #[.int .i64 (u : Int), .slice o s.live.length c]] X fun e w' => e = .returned (.tuple #[.bool true, .int .i64 0]) ∧ Below X.heap.size X w' from by
              have h := Tr.alike16 u a o n cap s.live.length c cs (s.live.map (fun e : Bas.E => e.lits)) X HN.out (cls_tr (HC.out.below (HBW.out.trans (hX.mono HBW.out.size)))) (by simp) (cls_tr hcl.cls) HFT.out (Bas.taken_ok (by omega) (by simpa using hnl) hfa2 hla) (by omega) hcn HFL.out.2.2.2.1 hnl hfa2 HFX.out hla
              rw [show Tru.alikeTo cs (s.live.map (fun e : Bas.E => e.lits)) u (2 ^ u) = true from HAA.out] at h
              exact h)
            have C28 := hid (fun X (hX : Below V1.heap.size V1 X) => Tr.find8 u a n cap cs X HN.out (cls_tr (HC.out.below (HBW.out.trans (hX.mono HBW.out.size)))) HFT.out (by omega) hcn HFL.out.2.2.2.1 HFX.out)
            have SH := hid (fun X (hX : Below V1.heap.size V1 X) => show X.cell? ⟨W.heap.size, 0, none⟩ = some (.int .i64 (u : Int)) ∧ X.cell? ⟨W.heap.size, 1, none⟩ = some (.slice a n cap) ∧ Below V1.heap.size V1 X from ⟨(SF.out X hX).1, SG.out X hX, hX⟩)
            have B9 := hid h9.bel
            clear h9 hW hli hla hfi hfa2 hni hnl hai HAI HAA HFT HFA HFX HLV hcn C17 SF SG HFL
            go_wp2_with (go_at_call 26; refine C26.out.mono ?_; clear C26; rintro e w7 ⟨rfl, hb7⟩; have B7 := hid (bel_next B9.out hb7); clear hb7)
            have B7d := hid (B7.out.drew)
            go_region_held3 (fun X => X.cell? ⟨W.heap.size, 0, none⟩ = some (.int .i64 (u : Int)) ∧ X.cell? ⟨W.heap.size, 1, none⟩ = some (.slice a n cap) ∧ Below V1.heap.size V1 X)
              (first | exact SH.out _ B7d.out | exact SH.out _ B7.out | exact SH.out _ hb8 | exact SH.out _ hb9 | exact SH.out _ hb10)
              (first
                | (go_at_call 18; refine (C18.out _ (HBV.out _ B7d.out)).mono ?_; rintro e w8 ⟨hen, _⟩; obtain ⟨lb, lc, rfl, hents, hB8⟩ := hen.entsN; have hb8 : Below V1.heap.size V1 w8 := bel_next B7d.out hB8)
                | (go_at_call 17; refine (C17b.out _ lb lc (fun _ => True) (hents.mono0 (fun _ _ => trivial)) (fun _ _ => trivial)).mono ?_; rintro e w9 ⟨o6, c6, rfl, hcl6, hB9⟩; have hb9 : Below V1.heap.size V1 w9 := bel_next hb8 hB9)
                | (go_at_call 26; refine (C26b.out w9 o6 c6 hb9 hcl6).mono ?_; rintro e w10 ⟨rfl, hB10⟩; have hb10 : Below V1.heap.size V1 w10 := bel_next hb9 hB10))
            have B10 := hid hb10
            clear hb8 hb9 hb10 hB8 hB9 hB10 hcl6 hents hen C18 C17b C26b y0 y1 p0 p1
            have C27 := hid (C27.out w10 (HBV.out _ B10.out))
            go_wp2_with fail
            go_at_call 27
            refine C27.out.mono ?_
            clear C27
            rintro e w11 ⟨rfl, hb11⟩
            have B11 := hid (bel_next B10.out hb11)
            have C28 := hid (C28.out w11 B11.out)
            obtain ⟨p0, p1, _⟩ := SH.out w11 B11.out
            clear hb11
            obtain ⟨em, hem⟩ : ∃ em, Bas.emptyOf s.live = em := ⟨_, rfl⟩
            rw [hem] at HEM ⊢
            have FIN := hid (fun w12 (h : Below w11.heap.size w11 w12) => (works20 w12).mono (R' := fun e w' => e = .returned (.bool true) ∧ Below W.heap.size W w') fun e w' ⟨q1, q2⟩ => ⟨q1, HBW.out.trans ((bel_next (bel_next B11.out h) q2).mono HBW.out.size)⟩)
            by_cases he : em = 0
            · have heb : (em != 0) = false := by simpa using he
              clear HEM hem he
              go_wp2_with fail
              go_at_call 28
              refine C28.out.mono ?_
              clear C28
              rintro e w12 ⟨hfo, hb12⟩
              have C10 := hid (FIN.out w12 hb12)
              rcases hfo with ⟨kk, af, cf, _, _, _, rfl, _⟩ | ⟨_, rfl⟩
              · go_wp2_with (go_at_call 10; refine C10.out.mono ?_; clear C10; rintro e w13 ⟨rfl, hb13⟩; have B13 := hid hb13; clear hb13)
                go_ret
                exact ⟨rfl, B13.out⟩
              · go_wp2_with (go_at_call 10; refine C10.out.mono ?_; clear C10; rintro e w13 ⟨rfl, hb13⟩; have B13 := hid hb13; clear hb13)
                go_ret
                exact ⟨rfl, B13.out⟩
            · have heb : (em != 0) = true := by simpa using he
              have HNO := hid (fun k => HEM.out he k)
              clear HEM hem he
              go_wp2_with fail
              go_at_call 28
              refine C28.out.mono ?_
              clear C28
              rintro e w12 ⟨hfo, hb12⟩
              have C10 := hid (FIN.out w12 hb12)
              rcases hfo with ⟨kk, af, cf, _, hs1, _, rfl, _⟩ | ⟨_, rfl⟩
              · exfalso
                have := HNO.out kk
                rw [hs1] at this
                cases this
              · go_wp2_with (go_at_call 10; refine C10.out.mono ?_; clear C10; rintro e w13 ⟨rfl, hb13⟩; have B13 := hid hb13; clear hb13)
                go_ret
                exact ⟨rfl, B13.out⟩
  · as_aux_lemma =>
      have C23 := hid (new23_err vars a n cap cs w3 HN.out (HC.out.below hBW2) hr)
      have hrb : (Cq.right vars cs != 0) = true := by simpa using hr
      generalize Cq.right vars cs = rr at *
      clear hr hn40 hl200 hs40 hs600 hB2 hBW2
      go_wp2_with fail
      go_at_call 8
      refine C23.out.mono ?_
      clear C23
      rintro e w4 ⟨rfl, hb4⟩
      have HB4 := hid (HBW2.out.trans (hb4.mono HBW2.out.size))
      have C20 := hid (works20 w4)
      clear hb4
      go_wp2_with (go_at_call 10; refine C20.out.mono ?_; rintro e w5 ⟨rfl, hb5⟩; have HB5 := hid (HB4.out.trans (hb5.mono HB4.out.size)); clear hb5)
      go_ret
      exact ⟨rfl, HB5.out⟩
end Go.Proofs.YthpebfojkpnojaaGreat

