/- A step on the page. -/
import Derived.Test.YtmgeoeajnpnadaaDoorLNumb
namespace Lra
def wordB (n : Int) : List UInt8 := Go.Lib.itoa n ++ [32]
def rowB (xs : List Int) : List UInt8 := (xs.map wordB).flatten
/-- A step's line. -/
def lineB (s : Stp) : List UInt8 := wordB s.id ++ (if s.kind = 2 then [100, 32] else rowB s.lits ++ wordB 0) ++ rowB s.hints ++ (Go.Lib.itoa 0 ++ [10])
theorem rowB_take (xs : List Int) (k : Nat) (h : k < xs.length) : rowB (xs.take (k + 1)) = rowB (xs.take k) ++ wordB (xs.getD k 0) := by
  rw [take_snoc xs k h]
  simp [rowB]
end Lra
namespace Go.Proofs.YtmgeoeajnpnadaaDoor
open Go.RowKit
set_option linter.unusedVariables false

/-- The page is at hand. -/
structure On (base pb : Nat) (w0 W : World) (bs : List UInt8) : Prop where
  pg : PgTo base pb W bs
  bl : Below pb w0 W
  sz : base ≤ W.heap.size
theorem On.next {base pb : Nat} {w0 W W' : World} {bs bs' : List UInt8} (h : On base pb w0 W bs) (hp : PgTo base pb W' bs') (hf : Fr pb base W W') : On base pb w0 W' bs' := by
  obtain ⟨p, v, ws, hg⟩ := h.pg
  exact ⟨hp, h.bl.trans ((hf.ex.mono (Nat.le_of_lt hg.lt)).below (Nat.le_refl _)), Nat.le_trans h.sz hf.ex.size⟩
theorem On.box {base pb : Nat} {w0 W : World} {bs : List UInt8} (h : On base pb w0 W bs) (o : Obj) : On base pb w0 (W.alloc o) bs := by
  obtain ⟨p, v, ws, hg⟩ := h.pg
  have hb := below_box W o
  have := (Array.getElem?_eq_some_iff.1 hg.blk).1
  exact ⟨⟨p, v, ws, hg.below hb⟩, h.bl.trans (hb.mono (by omega)), Nat.le_trans h.sz hb.size⟩
theorem num37 {base pb : Nat} {w0 W : World} {bs : List UInt8} (h : On base pb w0 W bs) (hT : Tab pb w0) (n : Int) (c : UInt8) (h0 : -9223372036854775808 ≤ n) (h1 : n ≤ 9223372036854775807) (hl : bs.length + 21 ≤ 1099511627776) :
    Calls Tryd.prog 36 #[.pointer (some ⟨pb, 0, none⟩), .int .i64 n, .int .u8 (c.toNat : Int)] W fun e w' => (∃ r, e = .returned r) ∧ On base pb w0 w' (bs ++ (Lib.itoa n ++ [c])) ∧ Fr pb base W w' :=
  (number37 base pb w0 W bs n c h0 h1 h.pg h.bl hT h.sz hl).mono fun e w' q => ⟨q.1, h.next q.2.1 q.2.2, q.2.2⟩

theorem str38 {base pb : Nat} {w0 W : World} {bs : List UInt8} (h : On base pb w0 W bs) (xs : List UInt8) (hl : bs.length + xs.length ≤ 1099511627776) :
    Calls Tryd.prog 37 #[.pointer (some ⟨pb, 0, none⟩), .string ⟨xs.toArray⟩] W fun e w' => (∃ r, e = .returned r) ∧ On base pb w0 w' (bs ++ xs) ∧ Fr pb base W w' := by
  obtain ⟨p, v, ws, hg⟩ := h.pg
  refine (writeString38 base pb W bs p v ws xs hg h.sz hl).mono ?_
  rintro e w' ⟨hr, ⟨p', v', hp⟩, hf⟩
  exact ⟨hr, h.next ⟨p', v', ws, hp⟩ hf, hf⟩

set_option maxRecDepth 100000 in
set_option maxHeartbeats 4000000 in
theorem step21 (base pb : Nat) (w0 W : World) (bs : List UInt8) (s : Lra.Stp) (a1 : Option Addr) (c1 : Nat) (a2 : Option Addr) (c2 : Nat) (hpb : w0.heap.size = pb) (hs : StpV w0 a1 a2 s) (h : On base pb w0 W bs) (hT : Tab pb w0) (hl : bs.length + 21 * (s.lits.length + s.hints.length + 4) ≤ 1099511627776) :
    Calls Tryd.prog 15 #[.pointer (some ⟨pb, 0, none⟩), sval s a1 c1 a2 c2] W fun e w' => (∃ r, e = .returned r) ∧ On base pb w0 w' (bs ++ Lra.lineB s) ∧ Fr pb base W w' := by
  obtain ⟨kind, id, lits, hints⟩ := s
  obtain ⟨s1, s2, s3, s4, s5⟩ := hs
  simp only at s1 s2 s3 s4 s5 hl
  unfold sval
  simp only
  have hO1 := h.box (.cells #[.int .u8 kind, .int .i64 id, .slice a1 lits.length c1, .slice a2 hints.length c2] 39)
  have hbx := below_box W (.cells #[.int .u8 kind, .int .i64 id, .slice a1 lits.length c1, .slice a2 hints.length c2] 39)
  have hx := heap_alloc_new W (.cells #[.int .u8 kind, .int .i64 id, .slice a1 lits.length c1, .slice a2 hints.length c2] 39)
  have hne : W.heap.size ≠ pb := by
    obtain ⟨p, v, ws, hg⟩ := h.pg
    have := (Array.getElem?_eq_some_iff.1 hg.blk).1
    omega
  have hF1 : Fr pb base W (W.alloc (.cells #[.int .u8 kind, .int .i64 id, .slice a1 lits.length c1, .slice a2 hints.length c2] 39)) := Fr.of_ex (Ex.of_below hbx) h.sz
  obtain ⟨n1, hn1⟩ : ∃ n1, lits.length = n1 := ⟨_, rfl⟩
  obtain ⟨n2, hn2⟩ : ∃ n2, hints.length = n2 := ⟨_, rfl⟩
  rw [hn1, hn2] at hO1 hbx hx hF1 hl s5 ⊢
  generalize hW1 : W.alloc (.cells #[.int .u8 kind, .int .i64 id, .slice a1 n1 c1, .slice a2 n2 c2] 39) = W1 at hO1 hbx hx hF1
  -- the step's box in later worlds
  have BX := hid (fun (X : World) (hf : Fr pb base W1 X) => (hf.ty W.heap.size _ 39 (0, 0) hx (by decide) hne).trans hx)
  have x0 := row_cell hx 0
  have x1 := row_cell hx 1
  simp only [List.getElem?_toArray, List.getElem?_cons_zero, List.getElem?_cons_succ] at x0 x1
  have HO := hid hO1
  have HF := hid hF1
  have HL1 := hid s1
  have HL2 := hid s2
  have HN1 := hid hn1
  have HN2 := hid hn2
  have HT := hid hT
  have HPB := hid hpb
  have C37 := hid (num37 hO1 hT id 32 s4.1 s4.2 (by omega))
  have hI := itoa_le id s4.1 s4.2
  have shp1 : Hid (n1 = 0) ∨ ∃ b off, a1 = some ⟨b, off, none⟩ := by have := s1.shape; rw [hn1] at this; exact this
  have shp2 : Hid (n2 = 0) ∨ ∃ b off, a2 = some ⟨b, off, none⟩ := by have := s2.shape; rw [hn2] at this; exact this
  clear hO1 hbx hx hF1 s1 s2 s3 h hn1 hn2 hT hpb
  by_cases hk : kind = 2
  · subst hk
    have HB0 := hid (show ∀ k, k ≤ n2 → (bs ++ (Lib.itoa id ++ [32]) ++ [100, 32]).length + 21 * k + 21 ≤ 1099511627776 from fun k hk => by simp; omega)
    rcases shp2 with Z2 | ⟨g2, o2, rfl⟩
    all_goals
      go_enter Tryd.func15, Tryd.ntmps15
      go_wp2_with (first
        | (go_at_call 36; refine C37.out.mono ?_; clear C37; rintro e W2 ⟨⟨r, rfl⟩, hO2, hF2⟩
           have hx2 := BX.out W2 hF2
           have y0 := row_cell hx2 0
           simp only [List.getElem?_toArray, List.getElem?_cons_zero] at y0
           have C38 := hid (str38 hO2 [100, 32] (by simp; omega))
           have HF2 := hid hF2
           clear hx2 hO2 hF2 x0 x1)
        | (go_at_call 37; refine C38.out.mono ?_; clear C38; rintro e W3 ⟨⟨r, rfl⟩, hO3, hF3⟩
           have hF := HF2.out.trans hF3
           have hx3 := BX.out W3 hF
           have y3 := row_cell hx3 3
           simp only [List.getElem?_toArray, List.getElem?_cons_zero, List.getElem?_cons_succ] at y3
           have HF3 := hid hF
           have HO3 := hid hO3
           clear hx3 hO3 hF3 hF y0 HF2))
      go_loopw [36] (fun iv wr => ∃ (k : Nat) (bz : List UInt8), iv = .int .i64 k ∧ k ≤ n2 ∧ Hid (bz = (bs ++ (Lib.itoa id ++ [32]) ++ [100, 32]) ++ Lra.rowB (hints.take k)) ∧ Hid (bz.length ≤ (bs ++ (Lib.itoa id ++ [32]) ++ [100, 32]).length + 21 * k) ∧ Hid (On base pb w0 wr bz) ∧ Hid (Fr pb base W1 wr)) (fun iv _ => n2 - (intOf iv).toNat)
      case atStart => exact ⟨0, _, rfl, by omega, hid (by simp [Lra.rowB]), hid (by omega), HO3, HF3⟩
      case round =>
        obtain ⟨k, bz, rfl, hk, HZ, HZL, HOz, HFz⟩ := hrel
        by_cases hlt : k < n2
        · have hlt' : (k : Int) < n2 := by omega
          first
          | (exfalso; have := Z2.out; omega)
          | (obtain ⟨b', off', e, _, hc, u1, u2⟩ := (HL2.out.below (by rw [HPB.out]; exact HOz.out.bl)).at (j := k) (by rw [HN2.out]; exact hlt)
             cases e
             have HRT := hid (Lra.rowB_take hints k (by rw [HN2.out]; exact hlt))
             generalize hints.getD k 0 = x at hc u1 u2 HRT
             have C := hid (num37 HOz.out HT.out x 32 (by omega) (by omega) (by have := HZL.out; have := HB0.out k hk; omega))
             have hxl := itoa_le x (by omega) (by omega)
             go_wp2_with (first
               | (go_at_call 36; refine C.out.mono ?_; clear C; rintro e W5 ⟨⟨r, rfl⟩, hO5, hF5⟩
                  have HO5 := hid hO5
                  have HF5 := hid (HFz.out.trans hF5)
                  clear hO5 hF5))
             go_roundw
             case rel => exact ⟨k + 1, _, by go_num, by omega, hid (by rw [HRT.out, HZ.out, List.append_assoc]; rfl), hid (by have := HZL.out; rw [List.length_append, List.length_append, List.length_singleton]; omega), HO5, HF5⟩
             case measure => simp [intOf]; omega)
        · have hlt' : ¬ (k : Int) < n2 := by omega
          have hze : bz = (bs ++ (Lib.itoa id ++ [32]) ++ [100, 32]) ++ Lra.rowB hints := by
            have := HZ.out
            rwa [List.take_of_length_le (by rw [HN2.out]; omega)] at this
          have HZE := hid hze
          clear hze
          have C9 := hid (num37 HOz.out HT.out 0 10 (by omega) (by omega) (by have := HZL.out; have := HB0.out k hk; omega))
          go_wp2_with (first
            | (go_at_call 36; refine C9.out.mono ?_; clear C9; rintro e W9 ⟨⟨r, rfl⟩, hO9, hF9⟩
               have HO9 := hid hO9
               have HF9 := hid (HFz.out.trans hF9)
               clear hO9 hF9))
          go_end0
          refine ⟨⟨_, rfl⟩, ?_, HF.out.trans HF9.out⟩
          have hO9 := HO9.out
          rw [HZE.out] at hO9
          rw [show bs ++ Lra.lineB ⟨2, id, lits, hints⟩ = bs ++ (Lib.itoa id ++ [32]) ++ [100, 32] ++ Lra.rowB hints ++ (Lib.itoa 0 ++ [10]) by simp [Lra.lineB, Lra.wordB]]
          exact hO9
  · have hkb : (kind == 2) = false := by simpa using hk
    have hkN : Hid (kind ≠ 2) := hid hk
    clear hk
    have HB0 := hid (show ∀ k, k ≤ n1 → (bs ++ (Lib.itoa id ++ [32])).length + 21 * k + 21 ≤ 1099511627776 from fun k hk => by simp; omega)
    rcases shp1 with Z1 | ⟨g1, o1, rfl⟩ <;> rcases shp2 with Z2 | ⟨g2, o2, rfl⟩
    all_goals
      go_enter Tryd.func15, Tryd.ntmps15
      go_wp2_with (first
        | (go_at_call 36; refine C37.out.mono ?_; clear C37; rintro e W2 ⟨⟨r, rfl⟩, hO2, hF2⟩
           have hx2 := BX.out W2 hF2
           have y0 := row_cell hx2 0
           have y2 := row_cell hx2 2
           simp only [List.getElem?_toArray, List.getElem?_cons_zero, List.getElem?_cons_succ] at y0 y2
           have HF2 := hid hF2
           have HO2 := hid hO2
           clear hx2 hO2 hF2 x0 x1))
      go_loopw [22] (fun iv wr => ∃ (k : Nat) (bz : List UInt8), iv = .int .i64 k ∧ k ≤ n1 ∧ Hid (bz = (bs ++ (Lib.itoa id ++ [32])) ++ Lra.rowB (lits.take k)) ∧ Hid (bz.length ≤ (bs ++ (Lib.itoa id ++ [32])).length + 21 * k) ∧ Hid (On base pb w0 wr bz) ∧ Hid (Fr pb base W1 wr)) (fun iv _ => n1 - (intOf iv).toNat)
      case atStart => exact ⟨0, _, rfl, by omega, hid (by simp [Lra.rowB]), hid (by omega), HO2, HF2⟩
      case round =>
        obtain ⟨k, bz, rfl, hk, HZ, HZL, HOz, HFz⟩ := hrel
        by_cases hlt : k < n1
        · have hlt' : (k : Int) < n1 := by omega
          first
          | (exfalso; have := Z1.out; omega)
          | (obtain ⟨b', off', e, _, hc, u1, u2⟩ := (HL1.out.below (by rw [HPB.out]; exact HOz.out.bl)).at (j := k) (by rw [HN1.out]; exact hlt)
             cases e
             have HRT := hid (Lra.rowB_take lits k (by rw [HN1.out]; exact hlt))
             generalize lits.getD k 0 = x at hc u1 u2 HRT
             have C := hid (num37 HOz.out HT.out x 32 (by omega) (by omega) (by have := HZL.out; have := HB0.out k hk; omega))
             have hxl := itoa_le x (by omega) (by omega)
             go_wp2_with (first
               | (go_at_call 36; refine C.out.mono ?_; clear C; rintro e W5 ⟨⟨r, rfl⟩, hO5, hF5⟩
                  have HO5 := hid hO5
                  have HF5 := hid (HFz.out.trans hF5)
                  clear hO5 hF5))
             go_roundw
             case rel => exact ⟨k + 1, _, by go_num, by omega, hid (by rw [HRT.out, HZ.out, List.append_assoc]; rfl), hid (by have := HZL.out; rw [List.length_append, List.length_append, List.length_singleton]; omega), HO5, HF5⟩
             case measure => simp [intOf]; omega)
        · have hlt' : ¬ (k : Int) < n1 := by omega
          have hze : bz = (bs ++ (Lib.itoa id ++ [32])) ++ Lra.rowB lits := by
            have := HZ.out
            rwa [List.take_of_length_le (by rw [HN1.out]; omega)] at this
          have HZE := hid hze
          clear hze
          have C8 := hid (num37 HOz.out HT.out 0 32 (by omega) (by omega) (by have := HZL.out; have := HB0.out k hk; omega))
          have hx8 := BX.out wr HFz.out
          have HB1 := hid (show ∀ q, q ≤ n2 → (bz ++ (Lib.itoa 0 ++ [32])).length + 21 * q + 21 ≤ 1099511627776 from fun q hq => by
            have h1 := HZL.out
            have h2 := itoa_le 0 (by omega) (by omega)
            rw [List.length_append, List.length_append] at h1 ⊢
            simp only [List.length_singleton] at h1 ⊢
            omega)
          have HKZ := hid (Eq.refl k)
          go_wp2_with (first
            | (go_at_call 36; refine C8.out.mono ?_; clear C8; rintro e W3 ⟨⟨r, rfl⟩, hO3, hF3⟩
               have hF := HFz.out.trans hF3
               have hx3 := BX.out W3 hF
               have y3 := row_cell hx3 3
               simp only [List.getElem?_toArray, List.getElem?_cons_zero, List.getElem?_cons_succ] at y3
               have HF3 := hid hF
               have HO3 := hid hO3
               clear hx3 hO3 hF3 hF))
          clear hx8 HKZ HB0
          go_loopw [36] (fun iv wr => ∃ (q : Nat) (by2 : List UInt8), iv = .int .i64 q ∧ q ≤ n2 ∧ Hid (by2 = (bz ++ (Lib.itoa 0 ++ [32])) ++ Lra.rowB (hints.take q)) ∧ Hid (by2.length ≤ (bz ++ (Lib.itoa 0 ++ [32])).length + 21 * q) ∧ Hid (On base pb w0 wr by2) ∧ Hid (Fr pb base W1 wr)) (fun iv _ => n2 - (intOf iv).toNat)
          case atStart => exact ⟨0, _, rfl, by omega, hid (by simp [Lra.rowB]), hid (by omega), HO3, HF3⟩
          case round =>
            obtain ⟨q, by2, rfl, hq, HY, HYL, HOy, HFy⟩ := hrel
            by_cases hl2 : q < n2
            · have hl2' : (q : Int) < n2 := by omega
              first
              | (exfalso; have := Z2.out; omega)
              | (obtain ⟨b', off', e, _, hc, u1, u2⟩ := (HL2.out.below (by rw [HPB.out]; exact HOy.out.bl)).at (j := q) (by rw [HN2.out]; exact hl2)
                 cases e
                 have HRT := hid (Lra.rowB_take hints q (by rw [HN2.out]; exact hl2))
                 generalize hints.getD q 0 = x at hc u1 u2 HRT
                 have C := hid (num37 HOy.out HT.out x 32 (by omega) (by omega) (by have := HYL.out; have := HB1.out q hq; omega))
                 have hxl := itoa_le x (by omega) (by omega)
                 go_wp2_with (first
                   | (go_at_call 36; refine C.out.mono ?_; clear C; rintro e W5 ⟨⟨r, rfl⟩, hO5, hF5⟩
                      have HO5 := hid hO5
                      have HF5 := hid (HFy.out.trans hF5)
                      clear hO5 hF5))
                 go_roundw
                 case rel => exact ⟨q + 1, _, by go_num, by omega, hid (by rw [HRT.out, HY.out, List.append_assoc]; rfl), hid (by have := HYL.out; rw [List.length_append, List.length_append, List.length_singleton]; omega), HO5, HF5⟩
                 case measure => simp [intOf]; omega)
            · have hl2' : ¬ (q : Int) < n2 := by omega
              have hze : by2 = (bz ++ (Lib.itoa 0 ++ [32])) ++ Lra.rowB hints := by
                have := HY.out
                rwa [List.take_of_length_le (by rw [HN2.out]; omega)] at this
              have HYE := hid hze
              clear hze
              have C9 := hid (num37 HOy.out HT.out 0 10 (by omega) (by omega) (by have := HYL.out; have := HB1.out q hq; omega))
              go_wp2_with (first
                | (go_at_call 36; refine C9.out.mono ?_; clear C9; rintro e W9 ⟨⟨r, rfl⟩, hO9, hF9⟩
                   have HO9 := hid hO9
                   have HF9 := hid (HFy.out.trans hF9)
                   clear hO9 hF9))
              go_end0
              refine ⟨⟨_, rfl⟩, ?_, HF.out.trans HF9.out⟩
              have hO9 := HO9.out
              rw [HYE.out] at hO9
              rw [show bs ++ Lra.lineB ⟨kind, id, lits, hints⟩ = bz ++ (Lib.itoa 0 ++ [32]) ++ Lra.rowB hints ++ (Lib.itoa 0 ++ [10]) by rw [HZE.out]; simp [Lra.lineB, Lra.wordB, hkN.out]]
              exact hO9
end Go.Proofs.YtmgeoeajnpnadaaDoor
