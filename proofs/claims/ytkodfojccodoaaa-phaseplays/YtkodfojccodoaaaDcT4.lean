/- The document's Turn: kind 4. -/
import Derived.Test.YtkodfojccodoaaaDcT
import Derived.WalkSmall
namespace Go.Proofs.Ytkodfojccodoaaa
open Go.RowKit Go.Maps
set_option linter.unusedVariables false
set_option linter.unusedSimpArgs false
set_option maxRecDepth 100000
set_option maxHeartbeats 4000000 in
theorem turn31_4 {D : Da} {P : Ph.St} {W : World} (H : Dm D P W) (hk : P.k ≤ 100000) (hus : Us P.s) (hc : Ph.knd P.k = 4) :
    Calls Try.prog 31 #[.pointer (some ⟨D.qb, 0, none⟩)] W fun e w' => TrnD D P W e w' := by
  have C44 := hid (kind44 P.k hk W)
  unfold KinO at C44
  rw [hc] at C44
  have c7 : W.cell? ⟨D.qb, 7, none⟩ = some (.int .i64 (P.k : Int)) := row_cell H.blk 7
  obtain ⟨o, cv, hv⟩ := H.val
  have HV := hid hv
  have HMX := hid H.mx
  have H0 := hid (fun (w : World) (hb : Below W.heap.size W w) => show Dm D { P with s := (Ph.rnd (P.s, P.sv) 0).1, sv := (Ph.rnd (P.s, P.sv) 0).2 } w from H.below hb)
  have hso : Hid (D.n = 0) ∨ ∃ g, o = some ⟨g, 0, none⟩ := by
    rcases Nat.eq_zero_or_pos D.n with h0 | h0
    · exact .inl h0
    · have hs := H.vs
      rw [hv] at hs
      obtain ⟨g, c', cur, e, _⟩ := own_some hs h0
      cases e
      exact .inr ⟨g, rfl⟩
  have HC := hid hc
  have HUS := hid hus
  have HK := hid hk
  obtain ⟨n, hn⟩ : ∃ n, D.n = n := ⟨_, rfl⟩
  have HN := hid hn
  have HNX := hid (show n ≤ 1048576 by rw [← hn]; exact HMX.out)
  rw [hn] at hso
  have hkw : wrap64 ((P.k : Int) + 1) = (P.k : Int) + 1 := by unfold wrap64; omega
  have HKW := hid hkw
  clear H hv hc hk hn hkw
  go_enter Try.func31, Try.ntmps31
  go_wp2_with (fail)
  go_at_call 44
  refine C44.out.mono ?_
  rintro e w1 ⟨rfl, b1⟩
  have HS := hid (show Dm D { P with s := (Ph.rnd (P.s, P.sv) 0).1, sv := (Ph.rnd (P.s, P.sv) 0).2 } w1 ∧ Fd D W w1 from ⟨H0.out _ b1, Fq.of_below b1⟩)
  clear C44 b1 H0 c7
  go_wp2_with (fail)
  go_loopw [4] (fun i wr => ∃ j : Nat, j ≤ n ∧ i = .int .i64 (j : Nat) ∧ Hid (Dm D { P with s := (Ph.rnd (P.s, P.sv) j).1, sv := (Ph.rnd (P.s, P.sv) j).2 } wr ∧ Fd D W wr)) (fun i _ => n - (intOf i).toNat)
  case atStart => exact ⟨0, Nat.zero_le _, rfl, HS⟩
  case round =>
    obtain ⟨j, hj, rfl, HI⟩ := hrel
    obtain ⟨q, f⟩ := HI.out
    have d0 : wr.cell? ⟨D.qb, 0, none⟩ = some (.slice o n cv) := by
      have e := row_cell q.blk 0
      rw [HV.out, HN.out] at e
      exact e
    by_cases hlt : j < n
    · have hlt' : (j : Int) < n := by omega
      have hwk : wrap64 ((j : Int) + 1) = (j : Int) + 1 := by have := HNX.out; unfold wrap64; omega
      rcases hso with Zo | ⟨g, hog⟩
      · exfalso; have := Zo.out; omega
      · subst hog
        have hus := Ph.rnd_us (p := (P.s, P.sv)) HUS.out j
        have hus2 := drw_us hus
        have hbd : Below wr.heap.size wr wr.drew := (Below.refl _ _).drew
        have C32 := hid (draw32 (q.below hbd) ⟨by have := hus.1; show 0 ≤ (Ph.rnd (P.s, P.sv) j).1; omega, hus.2⟩)
        have hst : Ph.rnd (P.s, P.sv) (j + 1) = (drw (Ph.rnd (P.s, P.sv) j).1, (Ph.rnd (P.s, P.sv) j).2.set j (decide (drw (Ph.rnd (P.s, P.sv) j).1 % 2 = 1))) := rfl
        generalize Ph.rnd (P.s, P.sv) j = p1 at *
        obtain ⟨s2, hs2⟩ : ∃ s2, drw p1.1 = s2 := ⟨_, rfl⟩
        simp only [] at C32
        rw [hs2] at C32 hst hus2
        have HFW := hid (f.trans (Fq.of_below hbd))
        have htm : s2.tmod 2 = s2 % 2 := Int.tmod_eq_emod_of_nonneg (by have := hus2.1; omega)
        have hw8 : IntKind.u64.wrap (s2 % 2) = s2 % 2 := by simp [IntKind.wrap, IntKind.bits, IntKind.signed]; omega
        have hw9 : IntKind.u64.wrap (s2.tmod 2) = s2 % 2 := by rw [htm]; exact hw8
        obtain ⟨bv, hbv⟩ : ∃ bv, decide (s2 % 2 = 1) = bv := ⟨_, rfl⟩
        have hbv' : (s2 % 2 == 1) = bv := by rw [← hbv]; by_cases h : s2 % 2 = 1 <;> simp [h]
        rw [hbv] at hst
        have HST := hid hst
        have d0d : wr.drew.cell? ⟨D.qb, 0, none⟩ = some (.slice (some ⟨g, 0, none⟩) n cv) := d0
        have HQ := hid (fun (w : World) (q3 : Dm D { P with s := s2, sv := p1.2 } w) => show w.cell? ⟨D.qb, 0, none⟩ = some (.slice (some ⟨g, 0, none⟩) n cv) ∧ (∃ z, w.cell? ⟨g, j, none⟩ = some (.bool z)) ∧ w.frozen? ⟨g, j, none⟩ = false ∧ (w.setCell ⟨g, j, none⟩ (.bool bv)).cell? ⟨D.qb, 0, none⟩ = some (.slice (some ⟨g, 0, none⟩) n cv) ∧ Dm D { P with s := (Ph.rnd (P.s, P.sv) (j + 1)).1, sv := (Ph.rnd (P.s, P.sv) (j + 1)).2 } (w.setCell ⟨g, j, none⟩ (.bool bv)) ∧ Fd D w (w.setCell ⟨g, j, none⟩ (.bool bv)) from by
          have hvs := q3.vs
          have hlen := q3.len
          rw [HV.out] at hvs
          obtain ⟨y1, y2⟩ := own_cell hvs (k := j) (by rw [HN.out]; exact hlt)
          rw [bls_at (by rw [hlen, HN.out]; exact hlt)] at y1
          obtain ⟨r1, r2⟩ := q3.setS HV.out j bv
          have e1 := row_cell q3.blk 0
          rw [HV.out, HN.out] at e1
          have e2 := row_cell r1.blk 0
          rw [HV.out, HN.out] at e2
          rw [HST.out]
          exact ⟨e1, ⟨_, y1⟩, y2, e2, r1, r2⟩)
        clear hus hus2 hs2 HI HS q f hst hbv hbd
        go_wp2_with (fail)
        go_region_held3 (fun X => X.cell? ⟨D.qb, 0, none⟩ = some (.slice (some ⟨g, 0, none⟩) n cv)) (first | exact d0d | exact y1 | exact y4)
          ((go_at_call 32; refine C32.out.mono ?_; rintro e w3 ⟨rfl, q3, f3⟩; obtain ⟨y1, ⟨z, y2⟩, y3, y4, y5, y6⟩ := HQ.out _ q3))
        all_goals
          have HI2 := hid (And.intro y5 ((HFW.out.trans f3).trans y6))
          clear q3 f3 y1 y2 y3 y4 y5 y6
          go_wp2_with (fail)
          first
            | exact ⟨⟨j + 1, hlt, rfl, HI2⟩, by simp only [intOf]; exact meas hlt⟩
            | (rw [hwk]; exact ⟨⟨j + 1, hlt, rfl, HI2⟩, by simp only [intOf]; exact meas hlt⟩)
    · have hge : ¬ (j : Int) < n := by omega
      have hjn : j = D.n := by rw [HN.out]; omega
      rw [hjn] at q
      obtain ⟨q1, f1⟩ := q.setT0
      have a2 : wr.cell? ⟨D.qb, 2, none⟩ = some (.int .i64 (P.T.length : Int)) := row_cell q.blk 2
      have b2 := row_frozen q.blk 2
      have a3 : (wr.setCell ⟨D.qb, 2, none⟩ (.int .i64 0)).cell? ⟨D.qb, 3, none⟩ = some (.slice D.aT P.T.length D.cT) := row_cell (heap_set_row q.blk _) 3
      have b3 := row_frozen (heap_set_row q.blk (k := 2) (.int .i64 0)) 3
      obtain ⟨Y, hY⟩ : ∃ Y, (wr.setCell ⟨D.qb, 2, none⟩ (.int .i64 0)).setCell ⟨D.qb, 3, none⟩ (.slice none 0 0) = Y := ⟨_, rfl⟩
      rw [hY] at q1 f1
      obtain ⟨q2, f2⟩ := q1.setK
      have a7 : Y.cell? ⟨D.qb, 7, none⟩ = some (.int .i64 (P.k : Int)) := row_cell q1.blk 7
      have b7 : Y.frozen? ⟨D.qb, 7, none⟩ = false := row_frozen q1.blk 7
      have HO := hid (show TrnD D P W (.returned (.int .u8 4)) (Y.setCell ⟨D.qb, 7, none⟩ (.int .i64 ((P.k : Int) + 1))) from by
        refine trn_end (c := 4) (D2 := { D with aT := none, cT := 0 }) HC.out ?_ rfl rfl rfl q2 ((f.trans f1).trans f2) ⟨fun a e => by simp at e, fun a e => .inl e⟩
        rfl)
      have hkw := HKW.out
      generalize P.T.length = lt at *
      generalize (P.k : Int) = kk at *
      clear q f q1 f1 q2 f2 hjn HI HS
      go_wp2_with (fail)
      go_ret
      exact HO.out
end Go.Proofs.Ytkodfojccodoaaa
