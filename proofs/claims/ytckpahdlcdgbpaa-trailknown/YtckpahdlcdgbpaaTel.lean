/- What both tell of themselves. -/
import Derived.Test.YtckpahdlcdgbpaaOne
import Derived.Test.YtckpahdlcdgbpaaRgt
namespace Go.Proofs.Ytckpahdlcdgbpaa
open Go.RowKit Go.Maps
set_option linter.unusedVariables false
set_option maxRecDepth 100000
def Trl.mdl (n : Nat) (s : Trl.S) : List Bool := if s.R.length = n then Trl.model n s.R else []
theorem Trl.model_len (n : Nat) (R : List Trl.E) : (Trl.model n R).length = n := by simp [Trl.model]
theorem trx20 {Q : Nat → Prop} {tb n : Nat} {s : Trl.S} {W : World} (H : Trx Q tb n s W) : Calls Try.prog 20 #[.pointer (some ⟨tb, 0, none⟩)] W fun e w' => e = .returned (.int .i64 (n : Nat)) ∧ w' = W := by
  obtain ⟨gv, lv, bv, h1, h2⟩ := H
  exact vars20 h1
theorem trxb21 {Q : Nat → Prop} {tb n : Nat} {s : Trl.S} {W : World} (H : Trx Q tb n s W) : Calls Try.prog 21 #[.pointer (some ⟨tb, 0, none⟩)] W fun e w' => e = .returned (.int .i64 (s.B.length : Nat)) ∧ w' = W := by
  obtain ⟨gv, lv, bv, h1, h2⟩ := H
  exact levels21 h1
theorem trx23 {Q : Nat → Prop} {tb n : Nat} {s : Trl.S} {W : World} (H : Trx Q tb n s W) : Calls Try.prog 23 #[.pointer (some ⟨tb, 0, none⟩)] W fun e w' => e = .returned (.int .i64 (s.R.length : Nat)) ∧ w' = W := by
  obtain ⟨gv, lv, bv, h1, h2⟩ := H
  exact len23 h1
theorem model15 {Q : Nat → Prop} {tb n : Nat} {s : Trl.S} {W : World} (H : Trx Q tb n s W) :
    Calls Try.prog 15 #[.pointer (some ⟨tb, 0, none⟩)] W fun e w' => ModelOut W (Trl.mdl n s) (Trl.mdl n s).length (decide (s.R.length = n)) e w' := by
  unfold Trl.mdl
  by_cases h : s.R.length = n
  · rw [if_pos h, decide_eq_true h, Trl.model_len]
    exact model15_ok H h
  · rw [if_neg h, decide_eq_false h]
    exact model15_no H h
theorem model37 {B db n : Nat} {s : Trl.S} {W : World} (H : Dtx B db n s W) :
    Calls Try.prog 37 #[.pointer (some ⟨db, 0, none⟩)] W fun e w' => ModelOut W (Trl.mdl n s) (Trl.mdl n s).length (decide (s.R.length = n)) e w' := by
  unfold Trl.mdl
  by_cases h : s.R.length = n
  · rw [if_pos h, decide_eq_true h, Trl.model_len]
    exact model37_ok H h
  · rw [if_neg h, decide_eq_false h]
    exact model37_no H h
theorem Trl.far {n : Nat} {s : Trl.S} (h : Trl.Ok n s) (v : Int) (hv : 1048576 < v) : (Trl.know s.R v).lit = 0 :=
  (Trl.know_lit h v).2 (Trl.idx_no (fun e he hh => by have h1 := (h.lits e he).2; have h2 := h.n; omega))
theorem Trl.far_value {n : Nat} {s : Trl.S} (h : Trl.Ok n s) : Trl.valueOf s.R (-2147483648) = 0 := by
  unfold Trl.valueOf
  rw [if_pos (Trl.far h _ (by decide))]
theorem Trl.far_level {n : Nat} {s : Trl.S} (h : Trl.Ok n s) : Trl.levelOf s.R 4611686018427387904 = -1 := by
  unfold Trl.levelOf
  rw [if_pos (Trl.far h _ (by decide))]
/-- While what was answered is spoilt. -/
def Sp (W : World) (ol oa : Option Addr) (r kl m ka : Nat) (wr : World) : Prop :=
  Below W.heap.size W wr ∧ (∃ cs, wr.ownsRow W.heap.size 33 1 (.slice ol r kl) r cs) ∧ ∃ ds : List Bool, wr.ownsRow W.heap.size 4 1 (.slice oa m ka) m (ds.map Value.bool)
theorem Sp.setL {W wr : World} {ol oa : Option Addr} {r kl m ka j : Nat} (h : Sp W ol oa r kl m ka wr) (hj : j < r) : ∃ g, ol = some ⟨g, 0, none⟩ ∧ (∃ u, wr.cell? ⟨g, j, none⟩ = some u) ∧ wr.frozen? ⟨g, j, none⟩ = false ∧ ∀ u, Sp W ol oa r kl m ka (wr.setCell ⟨g, j, none⟩ u) := by
  obtain ⟨h1, ⟨cs, h2⟩, ds, h3⟩ := h
  obtain ⟨g, c, cur, e1, q1, q2, q3, q4, q5, q6⟩ := own_some h2 (by omega)
  cases e1
  refine ⟨g, rfl, ⟨cur[j], by rw [row_cell q2]; exact Array.getElem?_eq_getElem (by omega)⟩, row_frozen q2 j, fun u => ⟨h1.setCell (by show W.heap.size ≤ g; omega) _, ⟨_, own_mk q1 (heap_set_row q2 _) q3 q4 (by simpa using q5) rfl⟩, ds, own_keep h3 (Ne.symm (own_type h3 q2 (by decide))) _⟩⟩
theorem Sp.setA {W wr : World} {ol oa : Option Addr} {r kl m ka j : Nat} (h : Sp W ol oa r kl m ka wr) (hj : j < m) : ∃ g, oa = some ⟨g, 0, none⟩ ∧ (∃ b : Bool, wr.cell? ⟨g, j, none⟩ = some (.bool b)) ∧ wr.frozen? ⟨g, j, none⟩ = false ∧ ∀ b, Sp W ol oa r kl m ka (wr.setCell ⟨g, j, none⟩ (.bool b)) := by
  obtain ⟨h1, ⟨cs, h2⟩, ds, h3⟩ := h
  have hl : ds.length = m := by have := h3.1; simpa using this
  obtain ⟨g, c, cur, e1, q1, q2, q3, q4, q5, q6⟩ := own_some h3 (by omega)
  cases e1
  have hc := h3.cellAt j (by omega)
  rw [List.getElem?_map, List.getElem?_eq_getElem (by omega)] at hc
  refine ⟨g, rfl, ⟨ds[j], hc⟩, row_frozen q2 j, fun b => ⟨h1.setCell (by show W.heap.size ≤ g; omega) _, ⟨cs, own_keep h2 (Ne.symm (own_type h2 q2 (by decide))) _⟩, ds.set j b, own_mk q1 (heap_set_row q2 _) q3 q4 (by simpa using q5) ?_⟩⟩
  rw [Array.toList_setIfInBounds, List.take_set, q6, List.map_set]
set_option maxHeartbeats 8000000 in
theorem tells12 {N tb db n : Nat} {s : Trl.S} {W0 W : World} (hP : Pr N tb db n s W0 W) (hN : N ≤ W0.heap.size) :
    Calls Try.prog 12 #[.pointer (some ⟨tb, 0, none⟩), .pointer (some ⟨db, 0, none⟩)] W fun e w' => e = .returned (.bool true) ∧ Pr N tb db n s W0 w' := by
  have C22 := hid (lits22 hP.t)
  have C15 := hid (fun (w' : World) (hb : Below W.heap.size W w') => model15 (hP.t.below hb))
  have C37 := hid (fun (w' : World) (hb : Below W.heap.size W w') => model37 (hP.d.below hb))
  generalize hml : Trl.mdl n s = ml at C15 C37
  generalize decide (s.R.length = n) = mk at *
  go_enter Try.func12, Try.ntmps12
  go_wp2_with (fail)
  go_at_call 22
  refine C22.out.mono ?_
  clear C22
  rintro e w1 ⟨ol, kl, rfl, hol, hb1⟩
  have C15' := hid (C15.out _ hb1)
  clear C15
  go_wp2_with (fail)
  go_at_call 15
  refine C15'.out.mono ?_
  clear C15'
  rintro e w2 ⟨oa, ka, rfl, hoa, hb2⟩
  have hb12 := hb1.trans (hb2.mono hb1.size)
  have C37' := hid (C37.out _ hb12)
  clear C37
  go_wp2_with (fail)
  go_at_call 37
  refine C37'.out.mono ?_
  clear C37'
  rintro e w3 ⟨ob, kb, rfl, hob, hb3⟩
  have hb13 := hb12.trans (hb3.mono hb12.size)
  have HP3 := hid (hP.below hN hb13)
  have HL3 := hid (own_below (own_below hol hb2) hb3)
  have HA3 := hid (own_below hoa hb3)
  have HB3 := hid hob
  have HML := hid (show ml.length ≤ 35184372088832 by have h1 := hP.t.ok.n; rw [← hml]; unfold Trl.mdl; split <;> simp [Trl.model_len]; omega)
  obtain ⟨rv, hD3⟩ := HP3.out.d
  obtain ⟨oR, cR, rfl, hsh⟩ := hD3.shape
  have HI := hid (Trl.Ok.i32 hP.t.ok)
  have HRL := hid (show s.R.length ≤ 35184372088832 by have := hP.t.ok.len; have := hP.t.ok.n; omega)
  have HD3 := hid hD3
  have HSZ := hid (show W.heap.size ≤ w3.heap.size from hb13.size)
  have HW3 := hid hb13
  have HS1 := hid (show W.heap.size ≤ w1.heap.size from hb1.size)
  have HP0 := hid hP
  have D38 := hid (fun (Y : World) (h : Below w3.heap.size w3 Y) => (lits38 (HP3.out.d.below h)).mono (R' := fun e w' => ∃ o k, e = .returned (.slice o s.R.length k) ∧ (w'.ownsRow w3.heap.size 33 1 (.slice o s.R.length k) s.R.length ((s.R.map (·.lit)).map (Value.int .i32)) ∧ Below w3.heap.size w3 w')) (by rintro e w' ⟨o, k, e1, h1, h2⟩; exact ⟨o, k, e1, own_base h1 h.size, h.trans (h2.mono h.size)⟩))
  have D30 := hid (fun (o : Option Addr) (k : Nat) (Y : World) (h : Y.ownsRow w3.heap.size 33 1 (.slice o s.R.length k) s.R.length ((s.R.map (·.lit)).map (Value.int .i32)) ∧ Below w3.heap.size w3 Y) => (same30 ol o s.R.length kl k (s.R.map (·.lit)) Y (by simp) HRL.out (own_row (own_below HL3.out h.2) HI.out) (own_row h.1 HI.out)).mono (R' := fun e w' => e = .returned (.bool true) ∧ Below w3.heap.size w3 w') (fun e w' hh => ⟨hh.1, h.2.trans (hh.2.mono h.2.size)⟩))
  have D20 := hid (fun (Y : World) (h : Below w3.heap.size w3 Y) => trx20 (HP3.out.t.below h))
  have D21 := hid (fun (Y : World) (h : Below w3.heap.size w3 Y) => trxb21 (HP3.out.t.below h))
  have D23 := hid (fun (Y : World) (h : Below w3.heap.size w3 Y) => trx23 (HP3.out.t.below h))
  have D31 := hid (fun (Y : World) (h : Below w3.heap.size w3 Y) => (sameModel31 oa ob ml.length ml.length ka kb ml ml Y rfl rfl HML.out HML.out (own_bools (own_below HA3.out h)) (own_bools (own_below HB3.out h))).mono (R' := fun e w' => e = .returned (.bool true) ∧ Below w3.heap.size w3 w') (fun e w' hh => ⟨by rw [hh.1]; simp, h.trans (hh.2.below.mono h.size)⟩))
  have HC := hid (fun (Y : World) (h : Below w3.heap.size w3 Y) => show Y.cell? ⟨db, 0, none⟩ = some (.int .i64 (n : Nat)) ∧ Y.cell? ⟨db, 1, none⟩ = some (.slice oR s.R.length cR) ∧ Y.cell? ⟨db, 2, none⟩ = some (.int .i64 (s.B.length : Nat)) from ⟨row_cell (HD3.out.below h).blk 0, row_cell (HD3.out.below h).blk 1, row_cell (HD3.out.below h).blk 2⟩)
  clear hb1 hb2 hb3 hb12 hb13 hol hoa hob hD3 hsh hml
  go_wp2_with (fail)
  refine regT4 (Below w3.heap.size w3) (fun o k Y => Y.ownsRow w3.heap.size 33 1 (.slice o s.R.length k) s.R.length ((s.R.map (·.lit)).map (Value.int .i32)) ∧ Below w3.heap.size w3 Y) tb db n s.B.length s.R.length cR kl ml.length ka kb oR ol oa ob mk (Below.refl _ _).drew HC.out (fun o k Y h => HC.out Y h.2) D38.out D30.out D20.out D21.out D23.out D31.out ?_
  intro u29 u30 u31 u32 u33 u34 u35 u36 u37 u38 u39 u40 u41 u42 u43 u44 u45 u46 u47 u48 u49 u50 u51 u52 u53 u54 u55 u56 u57 u58 u59 u60 u61 u62 u63 u64 u65 u66 u67 u68 u69 u70 w4 hb4
  clear D38 D30 D20 D21 D23 D31 HC
  have HB4 := hid hb4
  clear hb4
  dsimp only
  have C25 := hid (fun (X : World) (hX : Below w3.heap.size w3 X) (v : Int) => (level25 (HP3.out.t.below hX) v).mono (fun e w' hw => (⟨hw.1, hX.trans (hw.2.mono hX.size)⟩ : _ ∧ Below w3.heap.size w3 w')))
  have C26 := hid (fun (X : World) (hX : Below w3.heap.size w3 X) (v : Int) => (reason26 (HP3.out.t.below hX) v).mono (fun e w' hw => (⟨hw.1, hX.trans (hw.2.mono hX.size)⟩ : _ ∧ Below w3.heap.size w3 w')))
  have C27 := hid (fun (X : World) (hX : Below w3.heap.size w3 X) (v : Int) => (place27 (HP3.out.t.below hX) v).mono (fun e w' hw => (⟨hw.1, hX.trans (hw.2.mono hX.size)⟩ : _ ∧ Below w3.heap.size w3 w')))
  have C24 := hid (fun (X : World) (hX : Below w3.heap.size w3 X) (l : Int) (hl : I32 l) => (value24 (HP3.out.t.below hX) l hl).mono (fun e w' hw => (⟨hw.1, hX.trans (hw.2.mono hX.size)⟩ : _ ∧ Below w3.heap.size w3 w')))
  have C40 := hid (fun (X : World) (hX : Below w3.heap.size w3 X) (l : Int) (hl : I32 l) => value40 (HP3.out.d.below hX) l hl)
  have C39 := hid (fun (Y : World) (h : Below w3.heap.size w3 Y) (v : Int) => of39 (HP3.out.d.below h) v)
  go_wp2_with (fail)
  go_loopw [10, 11] (fun g i wr => ∃ v : Int, -1 ≤ v ∧ v ≤ 10 ∧ i = .int .i64 v ∧ g = .bool true ∧ Hid (Below w3.heap.size w3 wr)) (fun g i _ => (10 - intOf i).toNat)
  case atStart => exact ⟨-1, by omega, by omega, rfl, rfl, HB4⟩
  case round =>
    obtain ⟨v, hv1, hv2, rfl, rfl, HX⟩ := hrel
    by_cases hv : v ≤ 9
    · have C39' := hid (C39.out _ HX.out v)
      go_wp2_with (fail)
      go_at_call 39
      refine C39'.out.mono ?_
      rintro e w5 ⟨rfl, hb5⟩
      have HX5 := hid (HX.out.trans (hb5.below.mono HX.out.size))
      clear hb5 C39'
      have hwv : IntKind.i32.wrap v = v := by rw [IntKind.wrap_i32]; omega
      have hwn : IntKind.i32.wrap (-v) = -v := by rw [IntKind.wrap_i32]; omega
      have hI : I32 v := ⟨by omega, by omega⟩
      have hIn : I32 (-v) := ⟨by omega, by omega⟩
      go_wp2_with (fail)
      go_at_call 25
      refine (C25.out _ HX5.out v).mono ?_
      rintro e w6 ⟨rfl, h6⟩
      have HX6 := hid h6
      clear h6
      go_wp2_with (fail)
      go_at_call 26
      refine (C26.out _ HX6.out v).mono ?_
      rintro e w7 ⟨rfl, h7⟩
      have HX7 := hid h7
      clear h7
      go_wp2_with (fail)
      go_at_call 27
      refine (C27.out _ HX7.out v).mono ?_
      rintro e w8 ⟨rfl, h8⟩
      have HX8 := hid h8
      clear h8
      go_wp2_with (fail)
      go_at_call 24
      refine (C24.out _ HX8.out v hI).mono ?_
      rintro e w9 ⟨rfl, h9⟩
      have HX9 := hid h9
      clear h9
      go_wp2_with (fail)
      go_at_call 40
      refine (C40.out _ HX9.out v hI).mono ?_
      rintro e u9 ⟨rfl, hu9⟩
      rw [hu9]
      clear hu9
      go_wp2_with (fail)
      go_at_call 24
      refine (C24.out _ HX9.out (-v) hIn).mono ?_
      rintro e w10 ⟨rfl, h10⟩
      have HX10 := hid h10
      clear h10
      go_wp2_with (fail)
      go_at_call 40
      refine (C40.out _ HX10.out (-v) hIn).mono ?_
      rintro e u10 ⟨rfl, hu10⟩
      rw [hu10]
      clear hu10
      clear C24 C25 C26 C27 C39 C40
      go_wp2
      go_roundw
      case rel => exact ⟨v + 1, by omega, by omega, rfl, rfl, HX10⟩
      case measure => simp only [intOf]; omega
    · clear C24 C25 C26 C27 C39 C40
      have HSP := hid (show Sp W ol oa s.R.length kl ml.length ka wr from ⟨HW3.out.trans (HX.out.mono HSZ.out), ⟨_, own_below HL3.out HX.out⟩, ml, own_base (own_below HA3.out HX.out) HS1.out⟩)
      clear HX HB4 HD3
      go_wp2_with (fail)
      go_loopw [15] (fun i wr => ∃ j : Nat, j ≤ s.R.length ∧ i = .int .i64 j ∧ Hid (Sp W ol oa s.R.length kl ml.length ka wr)) (fun i _ => s.R.length - (intOf i).toNat)
      case atStart => exact ⟨0, Nat.zero_le _, rfl, HSP⟩
      case round =>
        clear HSP
        obtain ⟨j, hj, rfl, HSP⟩ := hrel
        have hrl := HRL.out
        by_cases hjl : j < s.R.length
        · have hjl' : (j : Int) < s.R.length := by omega
          obtain ⟨g, rfl, ⟨u, hu⟩, hf, hset⟩ := HSP.out.setL hjl
          have HSET := hid hset
          clear hset HSP HL3
          go_wp2
          go_roundw
          case rel => exact ⟨j + 1, by omega, by go_num, hid (HSET.out _)⟩
          case measure => simp [intOf]; omega
        · have hjl' : ¬ (j : Int) < s.R.length := by omega
          clear HL3
          go_wp2_with (fail)
          go_loopw [16] (fun i wr => ∃ j : Nat, j ≤ ml.length ∧ i = .int .i64 j ∧ Hid (Sp W ol oa s.R.length kl ml.length ka wr)) (fun i _ => ml.length - (intOf i).toNat)
          case atStart => exact ⟨0, Nat.zero_le _, rfl, HSP⟩
          case round =>
            clear HSP
            obtain ⟨i, hi, rfl, HSP⟩ := hrel
            have hml := HML.out
            by_cases hil : i < ml.length
            · have hil' : (i : Int) < ml.length := by omega
              obtain ⟨g, rfl, ⟨b, hu⟩, hf, hset⟩ := HSP.out.setA hil
              have HSET := hid hset
              clear hset HSP
              go_wp2
              go_roundw
              case rel => exact ⟨i + 1, by omega, by go_num, hid (HSET.out _)⟩
              case measure => simp [intOf]; omega
            · have hil' : ¬ (i : Int) < ml.length := by omega
              have HPE := hid (HP0.out.below hN HSP.out.1)
              have C24e := hid (value24 HPE.out.t (-2147483648) ⟨by decide, by decide⟩)
              rw [Trl.far_value HP0.out.t.ok] at C24e
              have C25e := hid (fun (X : World) (hX : Below wr.heap.size wr X) => level25 (HPE.out.t.below hX) 4611686018427387904)
              rw [Trl.far_level HP0.out.t.ok] at C25e
              go_wp2_with (fail)
              go_at_call 24
              refine C24e.out.mono ?_
              rintro e w20 ⟨rfl, h20⟩
              have C25f := hid (C25e.out _ h20)
              have H20 := hid h20
              clear C24e C25e h20
              go_wp2_with (fail)
              go_at_call 25
              refine C25f.out.mono ?_
              rintro e w21 ⟨rfl, h21⟩
              have HO := hid (HPE.out.below hN (H20.out.trans (h21.mono H20.out.size)))
              clear C25f h21 H20 HPE HSP
              go_wp2
              go_ret
              exact ⟨rfl, HO.out⟩
end Go.Proofs.Ytckpahdlcdgbpaa
