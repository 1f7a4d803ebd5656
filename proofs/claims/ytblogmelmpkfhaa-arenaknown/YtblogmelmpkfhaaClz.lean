/- The statement's clause: both arenas tell the same of a place. -/
import Derived.Test.YtblogmelmpkfhaaDcG
import Derived.Test.YtblogmelmpkfhaaKit
import Derived.Test.YtblogmelmpkfhaaFnC
namespace Go.Proofs.Ytblogmelmpkfhaa
open Go.RowKit Go.Maps
set_option linter.unusedVariables false

theorem get_uni {M : List Arn.It} {r : Int} {e : Ending} {w' : World} (h : GetOut M r e w') : ∃ p q a cap dd, e = .returned (.agg (gv p q (Arn.idOf (Arn.find M r)) a (Arn.litsOf (Arn.find M r)).length cap (Arn.redOf (Arn.find M r)) (Arn.lbdOf (Arn.find M r)) (Arn.usedOf (Arn.find M r)) dd)) ∧ LR w' a (Arn.litsOf (Arn.find M r)) := by
  unfold GetOut at h
  cases hf : Arn.find M r with
  | none =>
    rw [hf] at h
    exact ⟨0, 0, none, 0, false, h, (fun x hx => by cases hx), .inl rfl⟩
  | some x =>
    rw [hf] at h
    obtain ⟨a, cap, h1, h2⟩ := h
    exact ⟨r, _, a, cap, false, h1, h2⟩
theorem own_litsz {base : Nat} {W : World} {o : Option Addr} {c n : Nat} {xs : List Int} (hn : xs.length = n) (h : W.ownsRow base 48 1 (.slice o n c) n (xs.map (Value.int .i32))) (hx : ∀ x ∈ xs, -2147483648 ≤ x ∧ x ≤ 2147483647) : Lits W o xs := by
  refine ⟨hx, ?_⟩
  rcases h.2 with ⟨e, h0⟩ | ⟨g, cap', cur, e, h1, h2, h3, h4, h5, h6⟩
  · left; exact List.eq_nil_of_length_eq_zero (by omega)
  · cases e
    right
    refine ⟨g, 0, rfl, lt_of_blk h2, fun j hj => ?_⟩
    rw [Nat.zero_add, h.cellAt j (by omega), List.getElem?_map, List.getElem?_eq_getElem hj, List.getD, List.getElem?_eq_getElem hj]
    rfl
theorem lits_len {M : List Arn.It} {lim : Nat} (hM : Arn.Oks M) (hs : Arn.size M ≤ 268435456) (r : Int) : (Arn.litsOf (Arn.find M r)).length ≤ 268435456 := by
  cases hf : Arn.find M r with
  | none => simp [Arn.litsOf]
  | some x =>
    obtain ⟨ha, _⟩ := Arn.find_some.1 hf
    have := Arn.at_lt hM ha
    have := this.2.2.fits
    show x.lits.length ≤ _
    omega
set_option maxRecDepth 100000 in
set_option maxHeartbeats 4000000 in
theorem clause37 {n ab n2 db lim lim2 : Nat} {M : List Arn.It} {W : World} (hA : Arx n ab lim M W) (hD : Dcx n2 db lim2 M W) (r : Int) (hr : I64 r) :
    Calls Try.prog 37 #[.pointer (some ⟨ab, 0, none⟩), .pointer (some ⟨db, 0, none⟩), .int .i64 r] W fun e w' => e = .returned (.bool true) ∧ Below W.heap.size W w' := by
  obtain ⟨v, bm, h⟩ := hA
  have C50 := hid (get50 hD r)
  have HLL := hid (lits_len (lim := lim) h.ok (Nat.le_trans h.fit h.lim) r)
  have C20 := hid (fun (X : World) (hX : Below W.heap.size W X) => lits20 (h.below hX) r hr)
  have C15 := hid (fun (X : World) (hX : Below W.heap.size W X) => lbd15 (h.below hX) r hr)
  have C21 := hid (fun (X : World) (hX : Below W.heap.size W X) => len21 (h.below hX) r hr)
  have C23 := hid (fun (X : World) (hX : Below W.heap.size W X) => id23 (h.below hX) r hr)
  have C24 := hid (fun (X : World) (hX : Below W.heap.size W X) => red24 (h.below hX) r hr)
  have C22 := hid (fun (X : World) (hX : Below W.heap.size W X) (i : Int) (hi : I64 i) => lit22 (h.below hX) r hr i hi)
  have HLEN := hid (show Arn.lenOf (Arn.find M r) = ((Arn.litsOf (Arn.find M r)).length : Nat) by cases Arn.find M r <;> rfl)
  rw [HLEN.out] at C21
  clear h hD hr HLEN
  go_enter Try.func37, Try.ntmps37
  go_wp2_with (fail)
  go_at_call 50
  refine C50.out.mono ?_
  rintro e w1 ⟨hg, hb1⟩
  obtain ⟨p, q, a, cap, dd, rfl, hlr⟩ := get_uni hg
  clear hg C50
  unfold gv
  obtain ⟨xs, hxs⟩ : ∃ xs, Arn.litsOf (Arn.find M r) = xs := ⟨_, rfl⟩
  have HXS := hid hxs
  rw [hxs] at C20 C21 HLL hlr
  rw [hxs]
  have HLO := hid (show ∀ i, Arn.litOf (Arn.find M r) i = if 0 ≤ i ∧ i < (xs.length : Nat) then xs.getD i.toNat 0 else 0 from fun i => by rw [← hxs]; rfl)
  generalize Arn.idOf (Arn.find M r) = idv at *
  generalize Arn.redOf (Arn.find M r) = rdv at *
  generalize Arn.lbdOf (Arn.find M r) = lbv at *
  generalize Arn.usedOf (Arn.find M r) = usv at *
  obtain ⟨L, hL⟩ : ∃ L, xs.length = L := ⟨_, rfl⟩
  have HL := hid hL
  rw [hL] at C21 HLL HLO
  rw [hL]
  have hLb := HLL.out
  obtain ⟨w2, hw2⟩ : ∃ w2, w1.alloc (.cells #[.int .i64 p, .int .i64 q, .int .i64 idv, .slice a L cap, .bool rdv, .int .i64 lbv, .int .i64 usv, .bool dd] 92) = w2 := ⟨_, rfl⟩
  have hb2 : Below W.heap.size W w2 := by rw [← hw2]; exact hb1.alloc hb1.size _
  have hxb : w2.heap[w1.heap.size]? = some (.cells #[.int .i64 p, .int .i64 q, .int .i64 idv, .slice a L cap, .bool rdv, .int .i64 lbv, .int .i64 usv, .bool dd] 92 (0, 0)) := by rw [← hw2]; exact heap_alloc_new _ _
  have hla : Lits w2 a xs := by rw [← hw2]; exact hlr.lits.below (below_box _ _)
  have HXB := hid hxb
  have HLA := hid hla
  have HB2 := hid hb2
  have HW2 := hid hw2
  clear hxs hL hlr hb1 hxb hla hb2 hw2 HLL
  go_wp2_with (fail)
  rw [HW2.out]
  go_at_call 20
  refine (C20.out _ HB2.out).mono ?_
  rintro e w3 ⟨⟨cv, rfl, hcv⟩, hb3⟩
  rw [HL.out] at hcv
  obtain ⟨o3, c3, rfl⟩ := own_slc hcv
  have HB3 := hid hb3
  have HCV := hid hcv
  clear hb3 hcv
  have hb03 : Below W.heap.size W w3 := HB2.out.trans (HB3.out.mono HB2.out.size)
  go_wp2_with (fail)
  go_at_call 15
  refine (C15.out _ hb03).mono ?_
  rintro e w4 ⟨rfl, hb4⟩
  have HB4 := hid hb4
  have HB04 := hid (hb03.trans (hb4.mono hb03.size))
  have HLC := hid ((own_litsz HL.out HCV.out HLA.out.1).below hb4)
  have HLA4 := hid ((HLA.out.below HB3.out).below hb4)
  have HXB4 := hid ((hb4.block _ (by have := lt_of_blk HXB.out; have := HB3.out.size; omega)).trans ((HB3.out.block _ (lt_of_blk HXB.out)).trans HXB.out))
  have HSX := hid (fun (X : World) (hX : Below w4.heap.size w4 X) => show X.cell? ⟨w1.heap.size, 2, none⟩ = some (.int .i64 idv) ∧ X.cell? ⟨w1.heap.size, 3, none⟩ = some (.slice a L cap) ∧ X.cell? ⟨w1.heap.size, 4, none⟩ = some (.bool rdv) ∧ X.cell? ⟨w1.heap.size, 5, none⟩ = some (.int .i64 lbv) ∧ X.cell? ⟨w1.heap.size, 6, none⟩ = some (.int .i64 usv) ∧ Below w4.heap.size w4 X from by
    have hx := (hX.block _ (lt_of_blk HXB4.out)).trans HXB4.out
    exact ⟨row_cell hx 2, row_cell hx 3, row_cell hx 4, row_cell hx 5, row_cell hx 6, hX⟩)
  have D28 := hid (fun (X : World) (hX : Below w4.heap.size w4 X) => (same28 o3 a L c3 cap xs X HL.out (by omega) (HLC.out.below hX) (HLA4.out.below hX)).mono (fun e w' hw => (⟨hw.1, hX.trans (hw.2.mono hX.size)⟩ : e = .returned (.bool true) ∧ Below w4.heap.size w4 w')))
  have h04 := HB04.out
  have D21 := hid (fun (X : World) (hX : Below w4.heap.size w4 X) => (C21.out X (h04.trans (hX.mono h04.size))).mono (fun e w' hw => (⟨hw.1, hX.trans (hw.2.mono hX.size)⟩ : _ ∧ Below w4.heap.size w4 w')))
  have D23 := hid (fun (X : World) (hX : Below w4.heap.size w4 X) => (C23.out X (h04.trans (hX.mono h04.size))).mono (fun e w' hw => (⟨hw.1, hX.trans (hw.2.mono hX.size)⟩ : _ ∧ Below w4.heap.size w4 w')))
  have D24 := hid (fun (X : World) (hX : Below w4.heap.size w4 X) => (C24.out X (h04.trans (hX.mono h04.size))).mono (fun e w' hw => (⟨hw.1, hX.trans (hw.2.mono hX.size)⟩ : _ ∧ Below w4.heap.size w4 w')))
  have C4 := hid hb4
  clear hb4 hb03 C20 C15 C21 C23 C24 HW2
  go_wp2_with (fail)
  go_region_held3 (fun X => X.cell? ⟨w1.heap.size, 2, none⟩ = some (.int .i64 idv) ∧ X.cell? ⟨w1.heap.size, 3, none⟩ = some (.slice a L cap) ∧ X.cell? ⟨w1.heap.size, 4, none⟩ = some (.bool rdv) ∧ X.cell? ⟨w1.heap.size, 5, none⟩ = some (.int .i64 lbv) ∧ X.cell? ⟨w1.heap.size, 6, none⟩ = some (.int .i64 usv) ∧ Below w4.heap.size w4 X)
    (first | exact HSX.out _ (Below.refl _ _).drew | exact HSX.out _ hb8 | exact HSX.out _ hb9 | exact HSX.out _ hb10 | exact HSX.out _ hb11)
    (first
      | (go_at_call 28; refine (D28.out _ (Below.refl _ _).drew).mono ?_; rintro e w8 ⟨rfl, hb8⟩)
      | (go_at_call 21; refine (D21.out _ hb8).mono ?_; rintro e w9 ⟨rfl, hb9⟩)
      | (go_at_call 23; refine (D23.out _ hb9).mono ?_; rintro e w10 ⟨rfl, hb10⟩)
      | (go_at_call 24; refine (D24.out _ hb10).mono ?_; rintro e w11 ⟨rfl, hb11⟩))
  have HB8 := hid hb11
  have HC22 := hid (fun (X : World) (hX : Below w4.heap.size w4 X) (i : Int) (hi : I64 i) => (C22.out X (h04.trans (hX.mono h04.size)) i hi).mono (fun e w' hw => (⟨hw.1, hX.trans (hw.2.mono hX.size)⟩ : _ ∧ Below w4.heap.size w4 w')))
  have HOWN := hid (fun (X : World) (hX : Below w4.heap.size w4 X) => own_below (own_below HCV.out (C4.out)) hX)
  clear hb8 hb9 hb10 hb11 C22 D28 D21 D23 D24 h04
  go_wp2_with (fail)
  go_loopw [11, 12, 13] (fun okv iv lv wr => ∃ i : Int, -1 ≤ i ∧ i ≤ L + 1 ∧ okv = .bool true ∧ iv = .int .i64 i ∧ Hid (Below w4.heap.size w4 wr)) (fun _ iv _ _ => ((L : Int) + 1 - intOf iv).toNat)
  case atStart => exact ⟨-1, by omega, by omega, rfl, rfl, HB8⟩
  case round =>
    obtain ⟨i, hi1, hi2, rfl, rfl, HB⟩ := hrel
    obtain ⟨_, x3, _, _, _, _⟩ := HSX.out wr HB.out
    by_cases hle : i ≤ L
    · by_cases hin : 0 ≤ i ∧ i < L
      · obtain ⟨j, rfl⟩ : ∃ j : Nat, i = j := ⟨i.toNat, by omega⟩
        have hj : j < L := by omega
        have hj' : (j : Int) < L := by omega
        have hlo : Arn.litOf (Arn.find M r) j = xs.getD j 0 := by rw [HLO.out, if_pos hin, Int.toNat_natCast]
        have HC := hid (HC22.out wr HB.out j (by constructor <;> omega))
        rw [hlo] at HC
        obtain ⟨b2, o2, rfl, _, hc2, _⟩ := (HLA4.out.below HB.out).at (j := j) (by rw [HL.out]; exact hj)
        generalize xs.getD j 0 = lv at *
        clear hin hlo
        go_wp2_with (go_at_call 22; refine (HC.out).mono ?_; rintro e w9 ⟨rfl, hb9⟩)
        exact ⟨⟨(j : Int) + 1, by omega, by omega, rfl, rfl, hid hb9⟩, by simp only [intOf]; omega⟩
      · have hlo : Arn.litOf (Arn.find M r) i = 0 := by rw [HLO.out, if_neg hin]
        have HC := hid (HC22.out wr HB.out i (by constructor <;> omega))
        rw [hlo] at HC
        by_cases h0 : i < 0
        · clear hin hlo
          go_wp2_with (go_at_call 22; refine (HC.out).mono ?_; rintro e w9 ⟨rfl, hb9⟩)
          exact ⟨⟨i + 1, by omega, by omega, rfl, rfl, hid hb9⟩, by simp only [intOf]; omega⟩
        · have h00 : 0 ≤ i := by omega
          have hge : ¬ i < L := fun h => hin ⟨h00, h⟩
          clear hin hlo
          go_wp2_with (go_at_call 22; refine (HC.out).mono ?_; rintro e w9 ⟨rfl, hb9⟩)
          exact ⟨⟨i + 1, by omega, by omega, rfl, rfl, hid hb9⟩, by simp only [intOf]; omega⟩
    · have HO := hid (HOWN.out _ HB.out)
      have HBW := hid (HB04.out.trans (HB.out.mono HB04.out.size))
      have HBS := hid HB2.out.size
      have hshp : L = 0 ∨ ∃ g3, o3 = some ⟨g3, 0, none⟩ := by
        rcases Nat.eq_zero_or_pos L with h0 | h0
        · exact .inl h0
        · obtain ⟨g3, c9, e9, _⟩ := HO.out.form (by omega)
          cases e9
          exact .inr ⟨g3, rfl⟩
      clear HOWN HB HSX HXB4 HLA4 HLC HC22 HB8 C4 HCV
      rcases hshp with h0 | ⟨g3, rfl⟩
      · go_wp2_with (fail)
        go_loopw [14] (fun iv wx => iv = .int .i64 0 ∧ wx = wr) (fun _ _ => 0)
        case atStart => exact ⟨rfl, rfl⟩
        case round =>
          obtain ⟨rfl, hwx⟩ := hrel
          rw [hwx]
          clear hwx
          have hL0 : ¬ (0 : Int) < L := by omega
          go_wp2
          go_ret
          exact ⟨rfl, HBW.out⟩
      · go_wp2_with (fail)
        go_loopw [14] (fun iv wx => ∃ j : Nat, j ≤ L ∧ iv = .int .i64 j ∧ Hid (∃ ys, wx.ownsRow w2.heap.size 48 1 (.slice (some ⟨g3, 0, none⟩) L c3) L ys) ∧ Hid (Below W.heap.size W wx)) (fun iv _ => L - (intOf iv).toNat)
        case atStart => exact ⟨0, Nat.zero_le _, rfl, hid ⟨_, HO.out⟩, HBW⟩
        case round =>
          obtain ⟨j, hj, rfl, HOX, HBX⟩ := hrel
          by_cases hjL : j < L
          · have hjL' : (j : Int) < L := by omega
            obtain ⟨ys, hys⟩ := HOX.out
            have hyl := hys.1
            have hcj := hys.cellAt j (by omega)
            have hfj := hys.frozenAt j
            have hn := (hys.stored j (.int .i32 77)).1
            have hgg := (own_blk (g := g3) hys rfl).1
            have HN := hid (show ∃ ys, (wr.setCell ⟨g3, j, none⟩ (.int .i32 77)).ownsRow w2.heap.size 48 1 (.slice (some ⟨g3, 0, none⟩) L c3) L ys from ⟨_, hn⟩)
            have HNB := hid (HBX.out.setCell (p := ⟨g3, j, none⟩) (by show W.heap.size ≤ g3; have := HBS.out; omega) (.int .i32 77))
            clear hn hys HOX HBX
            go_wp2
            exact ⟨⟨j + 1, by omega, by go_num, HN, HNB⟩, by simp only [intOf]; omega⟩
          · have hge : ¬ (j : Int) < L := by omega
            go_wp2
            go_ret
            exact ⟨rfl, HBX.out⟩
end Go.Proofs.Ytblogmelmpkfhaa
