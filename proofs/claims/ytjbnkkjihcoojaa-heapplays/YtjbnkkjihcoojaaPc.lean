/- Both tell the same. -/
import Derived.Test.YtjbnkkjihcoojaaPa
namespace Go.Proofs.Ytjbnkkjihcoojaa
open Go.RowKit Go.Maps
set_option linter.unusedVariables false
set_option maxRecDepth 100000

/-- Both heaps, behind what was done to new memory alone. -/
def Pq (hb mb n : Nat) (s : List Int) (L : List Nat) (V w : World) : Prop := (∃ S, Pw S hb mb n s L s L w) ∧ Below V.heap.size V w
theorem Pq.next {hb mb n : Nat} {s : List Int} {L : List Nat} {V w w' : World} (h : Pq hb mb n s L V w) (hb' : Below w.heap.size w w') : Pq hb mb n s L V w' := by
  obtain ⟨⟨S, h1⟩, h2⟩ := h
  exact ⟨⟨_, h1.below hb'⟩, h2.trans (hb'.mono h2.size)⟩
theorem Pq.hx {hb mb n : Nat} {s : List Int} {L : List Nat} {V w : World} (h : Pq hb mb n s L V w) : ∃ M, Hx M hb n s L w := by
  obtain ⟨⟨S, M1, M2, h1, _⟩, _⟩ := h
  exact ⟨M1, h1⟩
theorem Pq.dx {hb mb n : Nat} {s : List Int} {L : List Nat} {V w : World} (h : Pq hb mb n s L V w) : ∃ M, Dx M mb n s L w := by
  obtain ⟨⟨S, M1, M2, _, h1, _⟩, _⟩ := h
  exact ⟨M2, h1⟩
theorem both_top (hb mb n : Nat) (s : List Int) (L : List Nat) : ∃ (r : Int) (b : Bool), (∀ M w, Hx M hb n s L w → Calls Try.prog 27 #[.pointer (some ⟨hb, 0, none⟩)] w fun e w' => e = .returned (.tuple #[.int .i64 r, .bool b]) ∧ Below w.heap.size w w') ∧ (∀ M w, Dx M mb n s L w → Calls Try.prog 36 #[.pointer (some ⟨mb, 0, none⟩)] w fun e w' => e = .returned (.tuple #[.int .i64 r, .bool b]) ∧ w' = w) := by
  cases L with
  | nil => exact ⟨0, false, fun M w h => (top27_no h).mono fun e w' ⟨he, hw⟩ => ⟨he, by first | exact hw.below | (rw [hw]; exact Below.refl _ _)⟩, fun M w h => top36_no h⟩
  | cons u L => exact ⟨_, true, fun M w h => (top27_ok h).mono fun e w' ⟨he, hw⟩ => ⟨he, by first | exact hw.below | (rw [hw]; exact Below.refl _ _)⟩, fun M w h => top36_ok h⟩
theorem both_has (hb mb n : Nat) (s : List Int) (L : List Nat) (v : Int) : ∃ (b : Bool), (∀ M w, Hx M hb n s L w → Calls Try.prog 22 #[.pointer (some ⟨hb, 0, none⟩), .int .i64 v] w fun e w' => e = .returned (.bool b) ∧ w' = w) ∧ (∀ M w, Dx M mb n s L w → Calls Try.prog 37 #[.pointer (some ⟨mb, 0, none⟩), .int .i64 v] w fun e w' => e = .returned (.bool b) ∧ w' = w) := by
  rcases var_or n v with hv | ⟨u, hu, rfl⟩
  · refine ⟨false, fun M w h => has22_no h v hv, fun M w h => has37 h v false ⟨fun h => absurd h (by decide), fun ⟨u, hu, e⟩ => ?_⟩⟩
    have := h.gx.lt u hu
    omega
  · exact ⟨decide (u ∈ L), fun M w h => has22_ok h hu, fun M w h => has37 h _ _ (by rw [decide_eq_true_iff]; exact mem_iff_int.symm)⟩
theorem both_score (hb mb n : Nat) (s : List Int) (L : List Nat) (v : Int) : ∃ (b : Int), (∀ M w, Hx M hb n s L w → Calls Try.prog 23 #[.pointer (some ⟨hb, 0, none⟩), .int .i64 v] w fun e w' => e = .returned (.int .i64 b) ∧ Drawn w w') ∧ (∀ M w, Dx M mb n s L w → Calls Try.prog 38 #[.pointer (some ⟨mb, 0, none⟩), .int .i64 v] w fun e w' => e = .returned (.int .i64 b) ∧ w' = w) := by
  rcases var_or n v with hv | ⟨u, hu, rfl⟩
  · exact ⟨0, fun M w h => (score23_no h v hv).mono fun e w' ⟨he, hw⟩ => ⟨he, by rw [hw]; exact Drawn.refl _⟩, fun M w h => score38_no h v hv⟩
  · exact ⟨_, fun M w h => score23_ok h hu, fun M w h => score38_ok h hu⟩
set_option maxHeartbeats 8000000 in
theorem tells15 {S : Nat → Prop} {hb mb n : Nat} {s : List Int} {L : List Nat} {W : World} (h : Pw S hb mb n s L s L W) (kd v by_ : Int) :
    Calls Try.prog 15 #[.pointer (some ⟨hb, 0, none⟩), .pointer (some ⟨mb, 0, none⟩), .agg #[.int .u8 kd, .int .i64 v, .int .i64 by_]] W fun e w' => e = .returned (.bool true) ∧ Below W.heap.size W w' := by
  have hbx := below_box W (.cells #[.int .u8 kd, .int .i64 v, .int .i64 by_] 33)
  have hnd : L.length ≤ n ∧ n ≤ 1048576 := by obtain ⟨M1, M2, h1, _⟩ := h; exact ⟨h1.len.1, h1.len.2.1⟩
  obtain ⟨V, hV⟩ : ∃ V, W.alloc (.cells #[.int .u8 kd, .int .i64 v, .int .i64 by_] 33) = V := ⟨_, rfl⟩
  have HNEW := hid (heap_alloc_new W (.cells #[.int .u8 kd, .int .i64 v, .int .i64 by_] 33))
  have HP := hid (show Pq hb mb n s L V V from ⟨⟨_, by rw [← hV]; exact h.below hbx⟩, Below.refl _ _⟩)
  rw [hV] at HNEW hbx
  have HX := hid (fun (w : World) (hw : Below V.heap.size V w) => show w.cell? ⟨W.heap.size, 1, none⟩ = some (.int .i64 v) from by
    exact row_cell ((hw.block _ (lt_of_blk HNEW.out)).trans HNEW.out) 1)
  have HBX := hid hbx
  obtain ⟨rt, bt, BT1, BT2⟩ := both_top hb mb n s L
  obtain ⟨bh, BH1, BH2⟩ := both_has hb mb n s L v
  obtain ⟨bs, BS1, BS2⟩ := both_score hb mb n s L v
  obtain ⟨t, ht⟩ : ∃ t, L.length = t := ⟨_, rfl⟩
  have HT := hid ht
  have HN := hid (show t ≤ n ∧ n ≤ 1048576 by omega)
  have T1 := hid (fun (w : World) (p : Pq hb mb n s L V w) => by obtain ⟨M, h⟩ := p.hx; exact BT1 M w h)
  have T2 := hid (fun (w : World) (p : Pq hb mb n s L V w) => by obtain ⟨M, h⟩ := p.dx; exact BT2 M w h)
  have A1 := hid (fun (w : World) (p : Pq hb mb n s L V w) => by obtain ⟨M, h⟩ := p.hx; exact BH1 M w h)
  have A2 := hid (fun (w : World) (p : Pq hb mb n s L V w) => by obtain ⟨M, h⟩ := p.dx; exact BH2 M w h)
  have S1 := hid (fun (w : World) (p : Pq hb mb n s L V w) => by obtain ⟨M, h⟩ := p.hx; exact BS1 M w h)
  have S2 := hid (fun (w : World) (p : Pq hb mb n s L V w) => by obtain ⟨M, h⟩ := p.dx; exact BS2 M w h)
  clear h hbx hnd BT1 BT2 BH1 BH2 BS1 BS2 ht
  go_enter Try.func15, Try.ntmps15
  go_wp2_with (fail)
  go_at_call 27
  refine (T1.out _ HP.out).mono ?_
  rintro e w1 ⟨rfl, b1⟩
  have P1 := hid (HP.out.next b1)
  clear b1 T1
  go_wp2_with (fail)
  go_at_call 36
  refine (T2.out _ P1.out).mono ?_
  rintro e w2 ⟨rfl, hw2⟩
  rw [hw2]
  clear hw2 T2
  obtain ⟨gz, cz, HM0⟩ : ∃ gz cz, Hid (∀ w, Below w1.heap.size w1 w → w.cell? ⟨mb, 0, none⟩ = some (.slice (some ⟨gz, 0, none⟩) (n + 1) cz)) := by
    obtain ⟨M, h⟩ := P1.out.dx
    obtain ⟨gs, cs, om, cm, q0, _⟩ := h.cells
    exact ⟨gs, cs, hid fun w hw => (hw.cell (p := ⟨mb, 0, none⟩) (cell_lt q0)).trans q0⟩
  have CO := hid (show Calls Try.prog 20 #[.pointer (some ⟨hb, 0, none⟩)] w1 _ from by obtain ⟨M, h⟩ := P1.out.hx; exact order_n h HT.out)
  go_wp2_with (fail)
  go_at_call 20
  refine CO.out.mono ?_
  rintro e w3 ⟨o, c, rfl, ho, b3⟩
  have P3 := hid (P1.out.next b3)
  have HO := hid ho
  have B3 := hid b3
  have HPD := hid (fun (w : World) (hd : Drawn w3 w) => P3.out.next hd.below)
  obtain ⟨gs, cs, om, cm, HDC⟩ : ∃ gs cs om cm, Hid (w3.cell? ⟨mb, 0, none⟩ = some (.slice (some ⟨gs, 0, none⟩) (n + 1) cs) ∧ w3.cell? ⟨mb, 1, none⟩ = some (.slice om t cm) ∧ w3.ownsRow 0 3 1 (.slice om t cm) t (ivs L)) := by
    obtain ⟨M, h⟩ := P3.out.dx
    obtain ⟨gs, cs, om, cm, q0, q1, _, q3, _⟩ := h.cells
    rw [HT.out] at q1 q3
    exact ⟨gs, cs, om, cm, hid ⟨q0, q1, q3⟩⟩
  have m1 := HDC.out.2.1
  have x1 := HX.out _ P3.out.2
  have CS := hid (fun (w : World) (hd : Drawn w3 w) => show Calls Try.prog 24 #[.slice o t c, .slice om t cm] w fun e w' => e = .returned (.bool true) ∧ Drawn w w' from by
    have := same24 (own_base (own_below HO.out hd.below) (Nat.zero_le _)) (own_below HDC.out.2.2 hd.below) (by have := HN.out; omega)
    rw [decide_eq_true rfl] at this
    exact this)
  have CZ := hid (fun (w : World) (hd : Drawn w3 w) => show Calls Try.prog 21 #[.pointer (some ⟨hb, 0, none⟩)] w fun e w' => e = .returned (.int .i64 (t : Nat)) ∧ w' = w from by
    obtain ⟨M, h⟩ := (HPD.out w hd).hx
    have := size21 h
    rw [HT.out] at this
    exact this)
  clear ho b3 CO
  go_wp2_with (fail)
  go_quiet (first
    | (go_at_call 24; exact Calls.quiet_of (CS.out _ ⟨_, rfl⟩))
    | (go_at_call 21; exact Calls.quiet_of_same (CZ.out _ ⟨_, rfl⟩))
    | (go_at_call 22; exact Calls.quiet_of_same (A1.out _ (HPD.out _ ⟨_, rfl⟩)))
    | (go_at_call 37; exact Calls.quiet_of_same (A2.out _ (HPD.out _ ⟨_, rfl⟩)))
    | (go_at_call 23; exact Calls.quiet_of (S1.out _ (HPD.out _ ⟨_, rfl⟩)))
    | (go_at_call 38; exact Calls.quiet_of_same (S2.out _ (HPD.out _ ⟨_, rfl⟩))))
  go_wp2_with (fail)
  clear m1 x1 CS CZ HPD A1 A2 S1 S2
  go_loopw [12] (fun i wr => ∃ k : Nat, k ≤ t ∧ i = .int .i64 (k : Nat) ∧ Hid (∃ ys, wr.ownsRow w1.heap.size 3 1 (.slice o t c) t ys ∧ Below w1.heap.size w1 wr)) (fun i _ => t - (intOf i).toNat)
  case atStart => exact ⟨0, Nat.zero_le _, rfl, hid ⟨_, own_below HO.out (Drawn.below ⟨_, rfl⟩), B3.out.trans ((Drawn.below ⟨_, rfl⟩).mono B3.out.size)⟩⟩
  case round =>
    obtain ⟨k, hk, rfl, HR⟩ := hrel
    obtain ⟨ys, ho, hb1⟩ := HR.out
    by_cases hlt : k < t
    · have hlt' : (k : Int) < t := by omega
      have hk1 : wrap64 ((k : Int) + 1) = (k : Int) + 1 := wrapS (le_big2 hlt (Nat.le_trans HN.out.1 HN.out.2))
      obtain ⟨g9, c9, cur, e9, hg9, hh9, h4, h5, h6, h7⟩ := own_some ho (Nat.lt_of_le_of_lt (Nat.zero_le _) hlt)
      injection e9 with e91 e92 e93
      subst e91
      clear e92 e93
      have hyl : ys.length = t := by have := ho.1; omega
      have y1 : wr.cell? ⟨g9, k, none⟩ = some (ys.getD k .nilFunc) := by
        rw [row_cell hh9 k, ← Array.getElem?_toList, ← List.getElem?_take_of_lt hlt, h7, List.getD_eq_getElem?_getD, List.getElem?_eq_getElem (by omega)]; rfl
      have f1 := row_frozen hh9 k
      have HN2 := hid (show ∃ ys', World.ownsRow _ w1.heap.size 3 1 (.slice (some ⟨g9, 0, none⟩) t c) t ys' ∧ Below w1.heap.size w1 _ from ⟨_, own_setc ho k (.int .i64 (-1)), hb1.setCell (p := ⟨g9, k, none⟩) hg9 (.int .i64 (-1))⟩)
      generalize ys.getD k .nilFunc = z at y1
      clear ho hb1 hh9 h4 h5 h6 h7 hyl
      go_wp2_with (fail)
      simp only [hk1]
      go_roundw
      case rel => exact ⟨k + 1, hlt, rfl, HN2⟩
      case measure => simp only [intOf]; exact measD hlt
    · have hge : ¬ (k : Int) < t := by omega
      have HP9 := hid (And.intro (P1.out.next hb1) hb1)
      clear ho hb1 HR
      go_wp2_with (fail)
      go_loopw [13] (fun i wr => ∃ j : Nat, j ≤ n + 1 ∧ i = .int .i64 (j : Nat) ∧ Hid (Pq hb mb n s L V wr ∧ Below w1.heap.size w1 wr)) (fun i _ => n + 1 - (intOf i).toNat)
      case atStart => exact ⟨0, Nat.zero_le _, rfl, HP9⟩
      case round =>
        obtain ⟨j, hj, rfl, HJ⟩ := hrel
        have m0 := HM0.out _ HJ.out.2
        obtain ⟨m, hm⟩ : ∃ m, n + 1 = m := ⟨_, rfl⟩
        have HMM := hid hm
        rw [hm] at m0
        by_cases hlt : j < m
        · have hlt' : (j : Int) < m := by omega
          have hk1 : wrap64 ((j : Int) + 1) = (j : Int) + 1 := wrapS (le_big hlt hm HN.out.2)
          obtain ⟨b9, B1, B2⟩ := both_score hb mb n s L (j : Int)
          have D1 := hid (show Calls Try.prog 23 _ wr _ from by obtain ⟨M, h⟩ := HJ.out.1.hx; exact B1 M _ h)
          have D2 := hid (fun (w : World) (hd : Drawn wr w) => show Calls Try.prog 38 _ w _ from by obtain ⟨M, h⟩ := (HJ.out.1.next hd.below).dx; exact B2 M _ h)
          clear B1 B2 hm
          go_wp2_with (fail)
          go_at_call 23
          refine D1.out.mono ?_
          rintro e w8 ⟨rfl, hd8⟩
          have D3 := hid (D2.out _ hd8)
          have HJ8 := hid (show Pq hb mb n s L V w8 ∧ Below w1.heap.size w1 w8 from ⟨HJ.out.1.next hd8.below, HJ.out.2.trans (hd8.below.mono HJ.out.2.size)⟩)
          clear D1 D2 hd8
          go_wp2_with (go_at_call 38; refine D3.out.mono ?_; rintro e w9 ⟨rfl, hw9⟩; rw [hw9]; clear hw9)
          simp only [hk1]
          go_roundw
          case rel => exact ⟨j + 1, by rw [HMM.out]; exact hlt, rfl, HJ8⟩
          case measure => simp only [intOf]; rw [HMM.out]; exact measD hlt
        · have hge2 : ¬ (j : Int) < m := by omega
          have HBF := hid (HBX.out.trans (HJ.out.1.2.mono HBX.out.size))
          clear hm
          go_wp2
          go_ret
          exact ⟨rfl, HBF.out⟩
end Go.Proofs.Ytjbnkkjihcoojaa
