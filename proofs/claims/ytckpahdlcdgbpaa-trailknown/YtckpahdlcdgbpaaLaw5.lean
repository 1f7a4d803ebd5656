/- TrailBack. -/
import Derived.Test.YtckpahdlcdgbpaaRgz
import Derived.Test.YtckpahdlcdgbpaaRgp
import Derived.Test.YtckpahdlcdgbpaaRgq
namespace Go.Proofs.Ytckpahdlcdgbpaa
open Go.RowKit Go.Maps
set_option linter.unusedVariables false
set_option maxRecDepth 100000

theorem Trx.sub {Q Q' : Nat → Prop} {tb n : Nat} {s : Trl.S} {W : World} (h : Trx Q tb n s W) (hq : ∀ g, Q' g → Q g) : Trx Q' tb n s W := by
  obtain ⟨gv, lv, bv, h1, h2⟩ := h
  exact ⟨gv, lv, bv, ⟨fun g hg => h1.lt g (hq g hg), fun hg => h1.nt (hq _ hg), fun hg => h1.nv (hq _ hg), fun g e hg => h1.nl g e (hq _ hg), fun g e hg => h1.nb g e (hq _ hg), h1.blk, h1.var, h1.lits, h1.begs⟩, h2⟩
/-- A row that was told is kept out from now on. -/
theorem Trx.out {Q : Nat → Prop} {tb n : Nat} {s : Trl.S} {W W' : World} (h : Trx Q tb n s W) (hb : Below W.heap.size W W') (v : Value) (hv : ∀ g, v.ownBlock = some g → W.heap.size ≤ g ∧ g < W'.heap.size) : Trx (fun g => Q g ∨ v.ownBlock = some g) tb n s W' := by
  obtain ⟨gv, lv, bv, h1, h2⟩ := h
  exact ⟨gv, lv, bv, (h1.below hb).more W.heap.size (fun g hg => hg.imp id (hv g)) h1.lts, h2⟩
/-- Some trail of n variables stands at tb; nothing below is turned. -/
def On (N tb n : Nat) (W0 W : World) : Prop := ∃ s, Trx (· < N) tb n s W ∧ Below N W0 W
/-- The trail above s1, of which the row vb was told. -/
structure Up (N tb n : Nat) (s1 : Trl.S) (vb : Value) (W0 : World) (s2 : Trl.S) (wr : World) : Prop where
  tr : Trx (fun g => g < N ∨ vb.ownBlock = some g) tb n s2 wr
  ext : Trl.Ext s1 s2
  below : Below N W0 wr
  row : wr.ownsRow 0 33 1 vb s1.R.length ((s1.R.map (·.lit)).map (Value.int .i32))
theorem Up.did {N tb n : Nat} {s1 : Trl.S} {vb : Value} {W0 : World} {s2 s3 : Trl.S} {wr w' : World} (h : Up N tb n s1 vb W0 s2 wr) (hN : N ≤ W0.heap.size) (hd : Did (fun g => g < N ∨ vb.ownBlock = some g) tb n wr s3 w') (he : Trl.Ext s1 s3) : Up N tb n s1 vb W0 s3 w' :=
  ⟨hd.1, he, h.below.trans (hd.2.below (Nat.le_trans hN h.below.size) (fun g hg => .inl hg)), own_q h.row hd.2 (fun g e => .inr e)⟩
theorem Up.kept {N tb n : Nat} {s1 : Trl.S} {vb : Value} {W0 : World} {s2 : Trl.S} {wr w' : World} (h : Up N tb n s1 vb W0 s2 wr) (hN : N ≤ W0.heap.size) (hb : Below wr.heap.size wr w') : Up N tb n s1 vb W0 s2 w' :=
  h.did hN (Did.below h.tr hb) h.ext
theorem row_at {W : World} {base n : Nat} {o : Option Addr} {c : Nat} {R : List Trl.E} (h : W.ownsRow base 33 1 (.slice o n c) n ((R.map (·.lit)).map (Value.int .i32))) {j : Nat} (hj : j < R.length) : ∃ g, o = some ⟨g, 0, none⟩ ∧ W.cell? ⟨g, j, none⟩ = some (.int .i32 (Trl.get R j).lit) := by
  have hl : R.length = n := by have := h.1; simpa using this
  obtain ⟨g, c', cur, e1, _⟩ := own_some h (by omega)
  cases e1
  refine ⟨g, rfl, ?_⟩
  rw [h.cellAt j (by omega), List.getElem?_map, List.getElem?_map, Trl.get_at hj]
  rfl
theorem trx21 {Q : Nat → Prop} {tb n : Nat} {s : Trl.S} {W : World} (H : Trx Q tb n s W) : Calls Try.prog 21 #[.pointer (some ⟨tb, 0, none⟩)] W fun e w' => e = .returned (.int .i64 (s.B.length : Nat)) ∧ w' = W := by
  obtain ⟨gv, lv, bv, h1, h2⟩ := H
  exact levels21 h1
/-- What went, as it is told: the last first. -/
theorem row_rev {W : World} {base G : Nat} {o : Option Addr} {c : Nat} {s1 s2 : Trl.S} (h : W.ownsRow base 33 1 (.slice o G c) G ((((s2.R.drop s1.R.length).map Trl.E.lit).reverse).map (Value.int .i32))) (he : Trl.Ext s1 s2) (hG : s2.R.length - s1.R.length = G) {j : Nat} (hj : j < G) : ∃ g, o = some ⟨g, 0, none⟩ ∧ W.cell? ⟨g, j, none⟩ = some (.int .i32 (Trl.get s2.R (s2.R.length - 1 - j)).lit) := by
  obtain ⟨g, c', cur, e1, _⟩ := own_some h (by omega)
  cases e1
  refine ⟨g, rfl, ?_⟩
  obtain ⟨_, _, h3, _, _⟩ := he.left
  rw [h.cellAt j (by omega), List.getElem?_map, List.getElem?_reverse (by simp; omega), List.getElem?_map, List.getElem?_drop]
  have e2 : s1.R.length + (((s2.R.drop s1.R.length).map Trl.E.lit).length - 1 - j) = s2.R.length - 1 - j := by simp; omega
  rw [e2, Trl.get_at (by omega)]
  rfl
set_option maxHeartbeats 8000000 in
theorem law5 (vars : Int) (ab aa : Option Addr) (lb cb la ca : Nat) (zb za : List Trl.Stp) (W : World) (hv : I64 vars) (hlb : zb.length = lb) (hnb : lb ≤ 8796093022208) (wb : Stps W ab zb) (hla : za.length = la) (hna : la ≤ 8796093022208) (wa : Stps W aa za) :
    Calls Try.prog 5 #[.int .i64 vars, .slice ab lb cb, .slice aa la ca] W fun e w' => e = .returned (.bool true) ∧ Below W.heap.size W w' := by
  have C7 := hid (few7 ab lb cb zb W hlb hnb wb)
  have WB := hid wb
  have WA := hid wa
  have HLB := hid hlb
  have HLA := hid hla
  have hshb : lb = 0 ∨ ∃ b off, ab = some ⟨b, off, none⟩ := by rw [← hlb]; exact wb.shape
  have hsha : la = 0 ∨ ∃ b off, aa = some ⟨b, off, none⟩ := by rw [← hla]; exact wa.shape
  clear wb wa hlb hla
  go_enter Try.func5, Try.ntmps5
  go_wp2_with (fail)
  go_at_call 7
  refine C7.out.mono ?_
  clear C7
  rintro e w1 ⟨⟨b1, rfl, hf1⟩, hd1⟩
  cases b1
  · go_wp2
    go_ret
    exact ⟨rfl, hd1.below⟩
  have hlb60 := (hf1 rfl).1
  have C7 := hid (few7 aa la ca za w1 HLA.out hna (WA.out.below hd1.below))
  go_wp2_with (fail)
  go_at_call 7
  refine C7.out.mono ?_
  clear C7
  rintro e w2 ⟨⟨b2, rfl, hf2⟩, hd2⟩
  have hd12 := hd1.below.trans (hd2.below.mono hd1.below.size)
  cases b2
  · go_wp2
    go_ret
    exact ⟨rfl, hd12⟩
  have hla60 := (hf2 rfl).1
  rw [HLB.out] at hlb60
  rw [HLA.out] at hla60
  have C28 := hid (pick28 vars 9 w2 (by decide) (by decide) hv)
  clear hf1 hf2 hd1 hd2
  go_wp2_with (fail)
  go_at_call 28
  refine C28.out.mono ?_
  rintro e w3 ⟨⟨n, hn, rfl⟩, hw3⟩
  rw [hw3]
  clear hw3 C28
  have C8 := hid (new8 n w2 (by omega))
  have HD12 := hid hd12
  clear hd12
  go_wp2_with (fail)
  go_at_call 8
  refine C8.out.mono ?_
  clear C8
  rintro e w4 ⟨tb, rfl, hT4, hb4⟩
  have hB4 := HD12.out.trans (hb4.mono HD12.out.size)
  have ON4 := hid (show On W.heap.size tb n W w4 from ⟨_, hT4.sub (fun g hg => Nat.lt_of_lt_of_le hg HD12.out.size), hB4⟩)
  clear hT4 hb4 hB4 HD12
  go_wp2_with (fail)
  go_loopw [9] (fun i wr => ∃ k : Nat, k ≤ lb ∧ i = .int .i64 k ∧ Hid (On W.heap.size tb n W wr)) (fun i _ => lb - (intOf i).toNat)
  case atStart => exact ⟨0, Nat.zero_le _, rfl, ON4⟩
  case round =>
    clear ON4
    obtain ⟨k, hk, rfl, HO⟩ := hrel
    obtain ⟨s, hT, hB⟩ := HO.out
    clear HO
    by_cases hlt : k < lb
    · have hlt' : (k : Int) < lb := by omega
      have hks : k < zb.length := by rw [HLB.out]; exact hlt
      obtain ⟨b, off, a', c', rfl, hok, x0, x1, x2, x3⟩ := (WB.out.below hB).at hks
      have C29 := hid (put29 hT zb[k].kind zb[k].l zb[k].n a' zb[k].to.length c' hok.kind hok.l hok.n)
      have HB := hid hB
      clear hok hT hB hshb hsha
      generalize zb[k].to.length = tl at *
      generalize zb[k].kind = kd at *
      generalize zb[k].l = ll at *
      generalize zb[k].n = nn at *
      go_wp2_with (go_at_call 29; refine C29.out.mono ?_; rintro e w5 ⟨rfl, hw5⟩)
      exact ⟨⟨k + 1, by omega, by go_num, hid ⟨_, hw5.1, HB.out.trans (hw5.2.below HB.out.size (fun g hg => hg))⟩⟩, by simp only [intOf]; omega⟩
    · have hge : ¬ (k : Int) < lb := by omega
      obtain ⟨wA, hwA⟩ : ∃ wA, wA = wr := ⟨wr, rfl⟩
      subst hwA
      have hok1 := hT.ok
      obtain ⟨gv, lv, bv, h1, h2⟩ := hT
      have C21 := hid (fun w' hb => levels21 (h1.below (W' := w') hb))
      have C22 := hid (fun w' (hb : Below wA.heap.size wA w') => lits22 (⟨gv, lv, bv, h1.below hb, h2⟩ : Trx (· < W.heap.size) tb n s w'))
      have HT := hid (show Trx (· < W.heap.size) tb n s wA from ⟨gv, lv, bv, h1, h2⟩)
      have HB := hid hB
      clear h1 h2 hB
      go_wp2_with (fail)
      go_at_call 21
      refine (C21.out _ (Below.refl _ _)).mono ?_
      rintro e v5 ⟨rfl, hw5⟩
      rw [hw5]
      clear hw5 C21
      go_wp2_with (fail)
      go_at_call 22
      refine (C22.out _ (Below.refl _ _)).mono ?_
      clear C22
      rintro e wB ⟨ob, cbf, rfl, hob, hbB⟩
      have UP := hid (show Up W.heap.size tb n s (.slice ob s.R.length cbf) W s wB from ⟨HT.out.out hbB _ (fun g e => by obtain ⟨h1, cu, h2⟩ := own_blk hob e; exact ⟨h1, lt_of_blk h2⟩), Trl.Ext.refl s, HB.out.trans (hbB.mono HB.out.size), own_base hob (Nat.zero_le _)⟩)
      have hRl := hok1.len
      have hBl := hok1.bl
      have HOK1 := hid hok1
      clear hob hbB HT HB hok1
      go_wp2_with (fail)
      go_loopw [12, 13] (fun fv i wr => ∃ (k : Nat) (s2 : Trl.S), k ≤ la ∧ i = .int .i64 k ∧ fv = .bool ((s2.B.length : Int) == s.B.length) ∧ Hid (Up W.heap.size tb n s (.slice ob s.R.length cbf) W s2 wr)) (fun _ i _ => la - (intOf i).toNat)
      case atStart => exact ⟨0, s, Nat.zero_le _, rfl, by simp, UP⟩
      case round =>
        clear UP
        obtain ⟨k2, s2, hk2, rfl, rfl, HU⟩ := hrel
        have hok2 := HU.out.tr.ok
        have hRl2 := hok2.len
        have hBl2 := hok2.bl
        by_cases hlt : k2 < la
        · have hlt' : (k2 : Int) < la := by omega
          have hks : k2 < za.length := by rw [HLA.out]; exact hlt
          obtain ⟨b, off, a', c', rfl, hok, x0, x1, x2, x3⟩ := (WA.out.below HU.out.below).at hks
          obtain ⟨kk, hkk⟩ : ∃ kk : Int, kk = if (s2.B.length : Int) = s.B.length then 0 else za[k2].kind := ⟨_, rfl⟩
          have hkI : I64 kk := by rw [hkk]; split; exact ⟨by decide, by decide⟩; exact hok.kind
          obtain ⟨V, hV⟩ : ∃ V, wr.alloc (.cells #[.int .i64 kk, .int .i32 za[k2].l, .int .i64 za[k2].n, .slice a' za[k2].to.length c'] 36) = V := ⟨_, rfl⟩
          have hbV : Below wr.heap.size wr V := by rw [← hV]; exact below_box _ _
          have hnew : V.heap[wr.heap.size]? = some (.cells #[.int .i64 kk, .int .i32 za[k2].l, .int .i64 za[k2].n, .slice a' za[k2].to.length c'] 36 (0, 0)) := by rw [← hV]; exact heap_alloc_new wr _
          have y0 : V.cell? ⟨wr.heap.size, 0, none⟩ = some (.int .i64 kk) := row_cell hnew 0
          have y1 : V.cell? ⟨wr.heap.size, 1, none⟩ = some (.int .i32 za[k2].l) := row_cell hnew 1
          have y2 : V.cell? ⟨wr.heap.size, 2, none⟩ = some (.int .i64 za[k2].n) := row_cell hnew 2
          have y3 : V.cell? ⟨wr.heap.size, 3, none⟩ = some (.slice a' za[k2].to.length c') := row_cell hnew 3
          clear hnew
          have HUV := hid (HU.out.kept (Nat.le_refl _) hbV)
          have C29 := hid (put29 HUV.out.tr kk za[k2].l za[k2].n a' za[k2].to.length c' hkI hok.l hok.n)
          have HEX := hid (show Trl.Ext s (Trl.putS n s2 kk za[k2].l za[k2].n) from HU.out.ext.putS kk _ _ (fun e => by rw [hkk, if_pos (by omega)]))
          generalize za[k2].to.length = tl at *
          generalize za[k2].kind = kd at *
          generalize za[k2].l = ll at *
          generalize za[k2].n = nn at *
          have HC := hid (fun (w6 : World) (hw6 : Did (fun g => g < W.heap.size ∨ (Value.slice ob s.R.length cbf).ownBlock = some g) tb n V (Trl.putS n s2 kk ll nn) w6) => (show Up W.heap.size tb n s (.slice ob s.R.length cbf) W (Trl.putS n s2 kk ll nn) w6 ∧ Calls Try.prog 21 #[.pointer (some ⟨tb, 0, none⟩)] w6 fun e w' => e = .returned (.int .i64 (Trl.putS n s2 kk ll nn).B.length) ∧ w' = w6 from by
            refine ⟨HUV.out.did (Nat.le_refl _) hw6 HEX.out, ?_⟩
            obtain ⟨gv, lv, bv, h1, h2⟩ := hw6.1
            exact levels21 h1))
          clear hok hshb hsha HU HUV hbV HEX hok2
          generalize Trl.putS n s2 kk ll nn = s3 at *
          by_cases hfst : (s2.B.length : Int) = s.B.length
          · have hdf : ((s2.B.length : Int) == s.B.length) = true := by simpa using hfst
            rw [if_pos hfst] at hkk
            subst hkk
            rw [hdf]
            clear hfst hdf
            go_wp2_with (fail)
            go_at_call 29
            refine C29.out.mono ?_
            rintro e w6 ⟨rfl, hw6⟩
            obtain ⟨hU6, hC6⟩ := HC.out _ hw6
            have HU6 := hid hU6
            have C21 := hid hC6
            clear hw6 hU6 hC6 HC C29 y0 y1 y2 y3 hV x0 x1 x2 x3
            go_wp2_with (go_at_call 21; refine C21.out.mono ?_; rintro e w7 ⟨rfl, hw7⟩; rw [hw7]; clear hw7)
            exact ⟨⟨k2 + 1, s3, by omega, by go_num, rfl, HU6⟩, by simp only [intOf]; omega⟩
          · have hdf : ((s2.B.length : Int) == s.B.length) = false := by simpa using hfst
            rw [if_neg hfst] at hkk
            subst hkk
            rw [hdf]
            clear hfst hdf
            go_wp2_with (fail)
            go_at_call 29
            refine C29.out.mono ?_
            rintro e w6 ⟨rfl, hw6⟩
            obtain ⟨hU6, hC6⟩ := HC.out _ hw6
            have HU6 := hid hU6
            have C21 := hid hC6
            clear hw6 hU6 hC6 HC C29 y0 y1 y2 y3 hV x0 x1 x2 x3
            go_wp2_with (go_at_call 21; refine C21.out.mono ?_; rintro e w7 ⟨rfl, hw7⟩; rw [hw7]; clear hw7)
            exact ⟨⟨k2 + 1, s3, by omega, by go_num, rfl, HU6⟩, by simp only [intOf]; omega⟩
        · have hge2 : ¬ (k2 : Int) < la := by omega
          obtain ⟨wC, hwC⟩ : ∃ wC, wC = wr := ⟨wr, rfl⟩
          subst hwC
          have C22 := hid (lits22 HU.out.tr)
          have HOK2 := hid hok2
          clear hok2
          go_wp2_with (fail)
          go_at_call 22
          refine C22.out.mono ?_
          clear C22
          rintro e wD ⟨oa, caa, rfl, hoa, hbD⟩
          have HUD := hid (HU.out.kept (Nat.le_refl _) hbD)
          have HOA := hid hoa
          have HTD := hid (HU.out.tr.out hbD _ (fun g e => by obtain ⟨h1, cu, h2⟩ := own_blk hoa e; exact ⟨h1, lt_of_blk h2⟩))
          clear hoa hbD HU
          have HROW := hid (fun (X : World) (hX : Below wD.heap.size wD X) (j : Nat) (hj : j < s2.R.length) => row_at (own_below HOA.out hX) hj)
          have C24 := hid (fun (X : World) (hX : Below wD.heap.size wD X) (l : Int) (hl : I32 l) => (value24 (HTD.out.below hX) l hl).mono (fun e w' hw => (⟨hw.1, hX.trans (hw.2.mono hX.size)⟩ : _ ∧ Below wD.heap.size wD w')))
          have C27 := hid (fun (X : World) (hX : Below wD.heap.size wD X) (v : Int) => (place27 (HTD.out.below hX) v).mono (fun e w' hw => (⟨hw.1, hX.trans (hw.2.mono hX.size)⟩ : _ ∧ Below wD.heap.size wD w')))
          have C25 := hid (fun (X : World) (hX : Below wD.heap.size wD X) (v : Int) => (level25 (HTD.out.below hX) v).mono (fun e w' hw => (⟨hw.1, hX.trans (hw.2.mono hX.size)⟩ : _ ∧ Below wD.heap.size wD w')))
          have C21 := hid (fun (X : World) (hX : Below wD.heap.size wD X) => trx21 (HTD.out.below hX))
          go_wp2_with (fail)
          go_loopw [16] (fun i wr => ∃ j : Nat, j ≤ s2.R.length ∧ i = .int .i64 j ∧ Hid (Below wD.heap.size wD wr)) (fun i _ => s2.R.length - (intOf i).toNat)
          case atStart => exact ⟨0, Nat.zero_le _, rfl, hid (Below.refl _ _)⟩
          case round =>
            obtain ⟨j, hj, rfl, HX⟩ := hrel
            by_cases hjl : j < s2.R.length
            · have hjl' : (j : Int) < s2.R.length := by omega
              obtain ⟨t1, t2, t3, t4⟩ := Trl.tells_at HOK2.out hjl
              have hlit := HOK2.out.lits _ (Trl.get_mem hjl)
              have hlv := HOK2.out.lev _ (Trl.get_mem hjl)
              obtain ⟨ga, rfl, _⟩ := HROW.out _ (Below.refl _ _) j hjl
              have HCL := hid (fun (X : World) (hX : Below wD.heap.size wD X) => show X.cell? ⟨ga, j, none⟩ = some (.int .i32 (Trl.get s2.R j).lit) from by obtain ⟨g', e, hc⟩ := HROW.out X hX j hjl; cases e; exact hc)
              have cj := HCL.out _ HX.out
              obtain ⟨L, hL⟩ : ∃ L, (Trl.get s2.R j).lit = L := ⟨_, rfl⟩
              rw [hL] at t1 t2 t3 t4 hlit HCL cj
              have hLb : -1048576 ≤ L ∧ L ≤ 1048576 := by unfold Trl.vr at hlit; split at hlit <;> omega
              have hL32 : I32 L := ⟨by omega, by omega⟩
              have D16 := hid (fun (X : World) => var16 L X hL32)
              have D24 := hid (fun (X : World) hX => C24.out X hX L hL32)
              have D24n := hid (fun (X : World) hX => C24.out X hX (-L) ⟨by omega, by omega⟩)
              rw [t1] at D24
              rw [t2] at D24n
              obtain ⟨vL, hvL⟩ : ∃ vL, Trl.vr L = vL := ⟨_, rfl⟩
              rw [hvL] at t3 t4 D16
              have D27 := hid (fun (X : World) hX => C27.out X hX vL)
              have D25 := hid (fun (X : World) hX => C25.out X hX vL)
              rw [t3] at D27
              rw [t4] at D25
              have hLb1 := hLb.1
              have hLb2 := hLb.2
              obtain ⟨lj, hlj⟩ : ∃ lj, (Trl.get s2.R j).lev = lj := ⟨_, rfl⟩
              rw [hlj] at D25 hlv
              have hlv' : ¬ ((s2.B.length : Nat) : Int) < (lj : Int) := by omega
              clear t1 t2 t3 t4 hlit hL hvL hLb C24 C27
              rcases Nat.eq_zero_or_pos j with h0 | hjp
              · subst h0
                clear HROW C25 hlj
                go_wp2_with (go_at_call 16; refine (D16.out _).mono ?_; rintro e v7 ⟨rfl, hw7⟩; rw [hw7]; clear hw7)
                refine reg25z (Below wD.heap.size wD) tb ga s2.R.length caa 0 L vL lj s2.B.length HX.out.drew (by omega) hjl' hLb1 hLb2 (by omega) HCL.out D24.out D24n.out D27.out D25.out C21.out (by decide) _ _ _ _ _ _ _ _ _ _ _ _ _ _ _ _ _ _ _ _ _ _ _ _ _ _ _ _ _ _ _ _ _ _ _ _ _ _ _ _ _ _ _ _ _ _ _ _ _ _ _ _ _ _ _ _ _ _ _ _ _ _ _ _ _ _ _ _ _ _ _ _ _ _ _ _ _ _ _ _ _ _ _ _ _ _ _ _ _ _ _ _ _ _ _ _ _ _ _ _ _ _ _ _ _ _ _ _ _ _ _ _ _ _ _ _ _ _ _ _ _ _ _ _ _ _ _ _ _ _ _ _ _ _ _ _ _ _ _ _ _ _ _ _ _ _ _ _ _ _ _ _ _ _ _ _ _ _ _ _ _ _ _ _ _ _ _ _ _ _ _ _ _ _ _ _ _ _ _ _ _ _ _ _ _ _ _ _ _ _ _ _ _ _ _ _ _ _ _ _ _ ?_
                · intro v85 v86 v87 v88 v89 v90 v91 v92 v93 v94 v95 v96 v97 v98 v99 v100 v101 v102 v103 v104 v105 v106 v107 v108 v109 v110 v111 v112 v113 v114 v115 v116 v117 v118 v119 v120 v121 v122 v123 v124 v125 v126 v127 v128 v129 v130 v131 v132 v133 w' hw'
                  clear D16 D24 D24n D27 D25
                  dsimp only
                  go_wp2
                  exact ⟨⟨0 + 1, by omega, by go_num, hid hw'⟩, by simp only [intOf]; omega⟩
              · obtain ⟨j1, rfl⟩ : ∃ j1, j = j1 + 1 := ⟨j - 1, by omega⟩
                have hj1l : j1 < s2.R.length := by omega
                have HCP := hid (fun (X : World) (hX : Below wD.heap.size wD X) => show X.cell? ⟨ga, j1, none⟩ = some (.int .i32 (Trl.get s2.R j1).lit) from by obtain ⟨g', e, hc⟩ := HROW.out X hX j1 hj1l; cases e; exact hc)
                have hmono := Trl.lev_mono HOK2.out (Nat.le_succ j1) hjl
                obtain ⟨q1, q2, q3, q4⟩ := Trl.tells_at HOK2.out hj1l
                have hlitp := HOK2.out.lits _ (Trl.get_mem hj1l)
                obtain ⟨LP, hLP⟩ : ∃ LP, (Trl.get s2.R j1).lit = LP := ⟨_, rfl⟩
                rw [hLP] at HCP q4 hlitp
                have hLP32 : I32 LP := by unfold Trl.vr at hlitp; unfold I32; split at hlitp <;> omega
                have D16p := hid (fun (X : World) => var16 LP X hLP32)
                have D25p := hid (fun (X : World) hX => C25.out X hX (Trl.vr LP))
                rw [q4] at D25p
                obtain ⟨lp, hlp⟩ : ∃ lp, (Trl.get s2.R j1).lev = lp := ⟨_, rfl⟩
                rw [hlp] at D25p hmono
                rw [show (Trl.get s2.R (Nat.succ j1)).lev = lj from hlj] at hmono
                have hlpj : ¬ (lj : Int) < (lp : Int) := by omega
                have hj1c : ((j1 + 1 : Nat) : Int) - 1 = (j1 : Nat) := by omega
                have hj1M : (j1 : Int) < s2.R.length := by omega
                have hj0c : (0 : Int) < ((j1 + 1 : Nat) : Int) := by omega
                clear HROW C25 hlj q1 q2 q3 q4 hlitp hLP hlp hmono
                generalize Trl.vr LP = vP at *
                go_wp2_with (go_at_call 16; refine (D16.out _).mono ?_; rintro e v7 ⟨rfl, hw7⟩; rw [hw7]; clear hw7)
                refine reg25p (Below wD.heap.size wD) tb ga s2.R.length caa (j1 + 1) L vL lj s2.B.length j1 LP vP lp HX.out.drew (by omega) hjl' hLb1 hLb2 (by omega) HCL.out D24.out D24n.out D27.out D25.out C21.out hj0c hj1c hj1M (by omega) HCP.out D16p.out D25p.out _ _ _ _ _ _ _ _ _ _ _ _ _ _ _ _ _ _ _ _ _ _ _ _ _ _ _ _ _ _ _ _ _ _ _ _ _ _ _ _ _ _ _ _ _ _ _ _ _ _ _ _ _ _ _ _ _ _ _ _ _ _ _ _ _ _ _ _ _ _ _ _ _ _ _ _ _ _ _ _ _ _ _ _ _ _ _ _ _ _ _ _ _ _ _ _ _ _ _ _ _ _ _ _ _ _ _ _ _ _ _ _ _ _ _ _ _ _ _ _ _ _ _ _ _ _ _ _ _ _ _ _ _ _ _ _ _ _ _ _ _ _ _ _ _ _ _ _ _ _ _ _ _ _ _ _ _ _ _ _ _ _ _ _ _ _ _ _ _ _ _ _ _ _ _ _ _ _ _ _ _ _ _ _ _ _ _ _ _ _ _ _ _ _ _ _ _ _ _ _ _ ?_
                · intro v85 v86 v87 v88 v89 v90 v91 v92 v93 v94 v95 v96 v97 v98 v99 v100 v101 v102 v103 v104 v105 v106 v107 v108 v109 v110 v111 v112 v113 v114 v115 v116 v117 v118 v119 v120 v121 v122 v123 v124 v125 v126 v127 v128 v129 v130 v131 v132 v133 w' hw'
                  clear D16 D24 D24n D27 D25 D16p D25p
                  dsimp only
                  go_wp2
                  exact ⟨⟨j1 + 1 + 1, by omega, by go_num, hid hw'⟩, by simp only [intOf]; omega⟩
            · have hge3 : ¬ (j : Int) < s2.R.length := by omega
              obtain rfl : j = s2.R.length := by omega
              obtain ⟨wE, hwE⟩ : ∃ wE, wE = wr := ⟨wr, rfl⟩
              subst hwE
              obtain ⟨f1, f2, f3, f4, f5⟩ := HUD.out.ext.left
              obtain ⟨k1, k2', k3⟩ := HUD.out.ext.backS
              have C13 := hid (back13 (HTD.out.below HX.out) (s.B.length : Nat))
              have hno : ¬ ((s.B.length : Int) < 0 ∨ (s2.B.length : Int) < (s.B.length : Int)) := by omega
              rw [show Trl.backE s2 (s.B.length : Nat) = 0 by unfold Trl.backE; rw [if_neg hno], show Trl.backS s2 (s.B.length : Nat) = Trl.back s2 s.B.length by unfold Trl.backS; rw [if_neg hno, Int.toNat_natCast], show Trl.goneL s2 (s.B.length : Nat) = ((s2.R.drop s.R.length).map Trl.E.lit).reverse by unfold Trl.goneL; rw [if_neg hno, Int.toNat_natCast, k3]] at C13
              have HRB := hid (own_below HUD.out.row HX.out)
              have HRA := hid (own_below HOA.out HX.out)
              have HBE := hid (HUD.out.below.trans (HX.out.mono HUD.out.below.size))
              have HEXT := hid HUD.out.ext
              have hgl : (((s2.R.drop s.R.length).map Trl.E.lit).reverse).length = s2.R.length - s.R.length := by simp
              obtain ⟨s4, hs4⟩ : ∃ s4, Trl.back s2 s.B.length = s4 := ⟨_, rfl⟩
              rw [hs4] at C13 k1 k2'
              have HK1 := hid k1
              have HK2 := hid k2'
              clear HUD HTD HROW C24 C27 C25 C21 HX HOA k1 k2' k3 hs4 hno
              go_wp2_with (fail)
              go_at_call 13
              refine C13.out.mono ?_
              clear C13
              rintro e wF ⟨og, kg, rfl, hog, hDF⟩
              obtain ⟨G, hG⟩ : ∃ G : Nat, s2.R.length - s.R.length = G := ⟨_, rfl⟩
              rw [hG] at hgl
              rw [hgl] at hog ⊢
              have hGi : (G : Int) = (s2.R.length : Int) - (s.R.length : Int) := by omega
              have hT4 := hDF.1
              have hrow4 := own_row (own_q HRB.out hDF.2 (fun g e => .inl (.inr e))) (Trl.Ok.i32 HOK1.out)
              have hrowA := own_q HRA.out hDF.2 (fun g e => .inr e)
              have HBF := hid (HBE.out.trans (hDF.2.below HBE.out.size (fun g hg => .inl (.inl hg))))
              have C22 := hid (lits22 hT4)
              rw [HK1.out] at C22
              have HT4 := hid hT4
              have HR4 := hid hrow4
              have HRA4 := hid hrowA
              have HOG := hid hog
              clear hDF hT4 hrow4 hrowA hog HRB HRA HBE hgl f1 f4 f5
              go_wp2_with (fail)
              go_at_call 22
              refine C22.out.mono ?_
              clear C22
              rintro e wG ⟨ol, kl, rfl, hol, hbG⟩
              have C30 := hid (same30 ol ob s.R.length kl cbf (s.R.map (·.lit)) wG (by simp) (by omega) (own_row hol (Trl.Ok.i32 HOK1.out)) (HR4.out.below hbG))
              have HBG := hid hbG
              clear hol hbG HR4
              go_wp2_with (fail)
              go_at_call 30
              refine C30.out.mono ?_
              clear C30
              rintro e wH ⟨rfl, hbH⟩
              have hbFH := HBG.out.trans (hbH.mono HBG.out.size)
              have C21 := hid (trx21 (HT4.out.below hbFH))
              rw [HK2.out] at C21
              have HFH := hid hbFH
              clear hbH hbFH HBG
              go_wp2_with (go_at_call 21; refine C21.out.mono ?_; rintro e v9 ⟨rfl, hw9⟩; rw [hw9]; clear hw9)
              have HROW := hid (fun (X : World) (hX : Below wF.heap.size wF X) (j : Nat) (hj : j < s2.R.length) => row_at (own_below HRA4.out hX) hj)
              have HROG := hid (fun (X : World) (hX : Below wF.heap.size wF X) (j : Nat) (hj : j < G) => row_rev (own_below HOG.out hX) HEXT.out hG hj)
              have C24 := hid (fun (X : World) (hX : Below wF.heap.size wF X) (l : Int) (hl : I32 l) => (value24 (HT4.out.below hX) l hl).mono (fun e w' hw => (⟨hw.1, hX.trans (hw.2.mono hX.size)⟩ : _ ∧ Below wF.heap.size wF w')))
              have C25 := hid (fun (X : World) (hX : Below wF.heap.size wF X) (v : Int) => (level25 (HT4.out.below hX) v).mono (fun e w' hw => (⟨hw.1, hX.trans (hw.2.mono hX.size)⟩ : _ ∧ Below wF.heap.size wF w')))
              rw [HK1.out] at C24 C25
              clear C21 HRA4 HOG HT4
              go_loopw [20] (fun i wr => ∃ j : Nat, j ≤ G ∧ i = .int .i64 j ∧ Hid (Below wF.heap.size wF wr)) (fun i _ => G - (intOf i).toNat)
              case atStart => exact ⟨0, Nat.zero_le _, rfl, HFH⟩
              case round =>
                clear HFH
                obtain ⟨j, hj, rfl, HX⟩ := hrel
                by_cases hjl : j < G
                · have hjl' : (j : Int) < G := by omega
                  obtain ⟨g1, g2⟩ := Trl.gone_tells HOK2.out HEXT.out (i := j) (by omega)
                  have hjr : s2.R.length - 1 - j < s2.R.length := by omega
                  have hlit := HOK2.out.lits _ (Trl.get_mem hjr)
                  obtain ⟨gg, rfl, _⟩ := HROG.out _ (Below.refl _ _) j hjl
                  obtain ⟨ga, rfl, _⟩ := HROW.out _ (Below.refl _ _) (s2.R.length - 1 - j) hjr
                  have HCG := hid (fun (X : World) (hX : Below wF.heap.size wF X) => show X.cell? ⟨gg, j, none⟩ = some (.int .i32 (Trl.get s2.R (s2.R.length - 1 - j)).lit) from by obtain ⟨g', e, hc⟩ := HROG.out X hX j hjl; cases e; exact hc)
                  have HCA := hid (fun (X : World) (hX : Below wF.heap.size wF X) => show X.cell? ⟨ga, s2.R.length - 1 - j, none⟩ = some (.int .i32 (Trl.get s2.R (s2.R.length - 1 - j)).lit) from by obtain ⟨g', e, hc⟩ := HROW.out X hX (s2.R.length - 1 - j) hjr; cases e; exact hc)
                  obtain ⟨L, hL⟩ : ∃ L, (Trl.get s2.R (s2.R.length - 1 - j)).lit = L := ⟨_, rfl⟩
                  rw [hL] at g1 g2 hlit HCG HCA
                  have hL32 : I32 L := by unfold Trl.vr at hlit; unfold I32; split at hlit <;> omega
                  have D16 := hid (fun (X : World) => var16 L X hL32)
                  have D24 := hid (fun (X : World) hX => C24.out X hX L hL32)
                  have D25 := hid (fun (X : World) hX => C25.out X hX (Trl.vr L))
                  rw [g1] at D24
                  rw [g2] at D25
                  obtain ⟨jr, hjr2⟩ : ∃ jr, s2.R.length - 1 - j = jr := ⟨_, rfl⟩
                  rw [hjr2] at HCA hjr
                  have hjri : (s2.R.length : Int) - 1 - (j : Nat) = (jr : Nat) := by omega
                  have hjrl : (jr : Int) < s2.R.length := by omega
                  generalize Trl.vr L = vL at *
                  clear g1 g2 hlit HROW HROG C24 C25 hL hjr2
                  go_wp2_with (fail)
                  refine reg33 (Below wF.heap.size wF) tb ga gg s2.R.length caa G kg j jr L vL HX.out.drew hjl' (by omega) hjri hjrl HCG.out HCA.out D24.out D16.out D25.out _ _ _ _ _ _ _ _ _ _ _ _ _ _ _ _ _ _ _ _ _ _ _ _ _ _ _ _ _ _ _ _ _ _ _ _ _ _ _ _ _ _ _ _ _ _ _ _ _ _ _ _ _ _ _ _ _ _ _ _ _ _ _ _ _ _ _ _ _ _ _ _ _ _ _ _ _ _ _ _ _ _ _ _ _ _ _ _ _ _ _ _ _ _ _ _ _ _ _ _ _ _ _ _ _ _ _ _ _ _ _ _ _ _ _ _ _ _ _ _ _ _ _ _ _ _ _ _ _ _ _ _ _ _ _ _ _ _ _ _ _ _ _ _ _ _ _ _ _ _ _ _ _ _ _ _ _ _ _ _ _ _ _ _ _ _ _ _ _ _ _ _ _ _ _ _ _ _ _ _ _ _ _ _ _ _ _ _ _ _ _ _ _ _ _ _ _ _ _ _ _ ?_
                  intro v172 v173 v174 v175 v176 v177 v178 v179 v180 v181 v182 v183 v184 v185 v186 v187 v188 v189 v190 v191 v192 v193 v194 v195 v196 v197 v198 v199 v200 v201 v202 w' hw'
                  clear D16 D24 D25 HCG HCA
                  dsimp only
                  go_wp2
                  exact ⟨⟨j + 1, by omega, by go_num, hid hw'⟩, by simp only [intOf]; omega⟩
                · have hge4 : ¬ (j : Int) < G := by omega
                  have C10 := hid (works10 wr)
                  have HBW := hid (HBF.out.trans (HX.out.mono HBF.out.size))
                  go_wp2_with (go_at_call 10; refine C10.out.mono ?_; rintro e w9 ⟨rfl, hb9⟩)
                  go_ret
                  exact ⟨rfl, HBW.out.trans (hb9.mono HBW.out.size)⟩
end Go.Proofs.Ytckpahdlcdgbpaa
