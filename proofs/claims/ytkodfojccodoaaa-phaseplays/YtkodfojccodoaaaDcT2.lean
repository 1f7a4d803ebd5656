/- The document's Turn: kind 2. -/
import Derived.Test.YtkodfojccodoaaaDcT
import Derived.WalkSmall
namespace Go.Proofs.Ytkodfojccodoaaa
open Go.RowKit Go.Maps
set_option linter.unusedVariables false
set_option linter.unusedSimpArgs false
set_option maxRecDepth 100000
set_option maxHeartbeats 4000000 in
theorem turn31_2 {D : Da} {P : Ph.St} {W : World} (H : Dm D P W) (hk : P.k ≤ 100000) (hc : Ph.knd P.k = 2) :
    Calls Try.prog 31 #[.pointer (some ⟨D.qb, 0, none⟩)] W fun e w' => TrnD D P W e w' := by
  have C44 := hid (kind44 P.k hk W)
  unfold KinO at C44
  rw [hc] at C44
  have c7 : W.cell? ⟨D.qb, 7, none⟩ = some (.int .i64 (P.k : Int)) := row_cell H.blk 7
  obtain ⟨o, cv, hv⟩ := H.val
  have HV := hid hv
  have HMX := hid H.mx
  have H0 := hid (fun (w : World) (hb : Below W.heap.size W w) => show Dm D { P with sv := Ph.bst P.B P.sv 0 } w from H.below hb)
  have hso : Hid (D.n = 0) ∨ ∃ g, o = some ⟨g, 0, none⟩ := by
    rcases Nat.eq_zero_or_pos D.n with h0 | h0
    · exact .inl h0
    · have hs := H.vs
      rw [hv] at hs
      obtain ⟨g, c', cur, e, _⟩ := own_some hs h0
      cases e
      exact .inr ⟨g, rfl⟩
  have HC := hid hc
  have HK := hid hk
  obtain ⟨n, hn⟩ : ∃ n, D.n = n := ⟨_, rfl⟩
  have HN := hid hn
  have HNX := hid (show n ≤ 1048576 by rw [← hn]; exact HMX.out)
  rw [hn] at hso
  have hkw : wrap64 ((P.k : Int) + 1) = (P.k : Int) + 1 := by unfold wrap64; omega
  have HKW := hid hkw
  clear H hv hc hk hn hkw
  go_enter Try.func31, Try.ntmps31
  go_wp2_with (fail)
  go_at_call 44
  refine C44.out.mono ?_
  rintro e w1 ⟨rfl, b1⟩
  have HS := hid (show Dm D { P with sv := Ph.bst P.B P.sv 0 } w1 ∧ Fd D W w1 from ⟨H0.out _ b1, Fq.of_below b1⟩)
  clear C44 b1 H0 c7
  go_wp2_with (fail)
  go_loopw [4] (fun i wr => ∃ j : Nat, j ≤ n ∧ i = .int .i64 (j : Nat) ∧ Hid (Dm D { P with sv := Ph.bst P.B P.sv j } wr ∧ Fd D W wr)) (fun i _ => n - (intOf i).toNat)
  case atStart => exact ⟨0, Nat.zero_le _, rfl, HS⟩
  case round =>
    obtain ⟨j, hj, rfl, HI⟩ := hrel
    obtain ⟨q, f⟩ := HI.out
    have d0 : wr.cell? ⟨D.qb, 0, none⟩ = some (.slice o n cv) := by
      have e := row_cell q.blk 0
      rw [HV.out, HN.out] at e
      exact e
    by_cases hlt : j < n
    · have hlt' : (j : Int) < n := by omega
      have hwk : wrap64 ((j : Int) + 1) = (j : Int) + 1 := by have := HNX.out; unfold wrap64; omega
      rcases hso with Zo | ⟨g, hog⟩
      · exfalso; have := Zo.out; omega
      · subst hog
        have C42 := hid (fun (ln : Int) => of42 (lw_own q.bs q.rB) q.lb ln (c := D.cB) (show (1 : Int) ≤ (j : Int) + 1 by omega) (show (j : Int) + 1 ≤ 1048576 by have := HNX.out; omega))
        unfold OfO at C42
        simp only [] at C42
        have c4 : wr.cell? ⟨D.qb, 4, none⟩ = some (.int .i64 (P.B.length : Int)) := row_cell q.blk 4
        have c5 : wr.cell? ⟨D.qb, 5, none⟩ = some (.slice D.aB P.B.length D.cB) := row_cell q.blk 5
        have hst : Ph.bst P.B P.sv (j + 1) = match Ph.lastV ((j : Int) + 1) P.B with | some b => (Ph.bst P.B P.sv j).set j b | none => Ph.bst P.B P.sv j := rfl
        have HQ := hid q
        have HFW := hid f
        generalize Ph.lastV ((j : Int) + 1) P.B = oo at *
        generalize P.B.length = lb at *
        clear HI HS q f
        cases oo with
        | none =>
          have HST := hid hst
          clear hst
          go_wp2_with (fail)
          go_at_call 42
          refine (C42.out _).mono ?_
          rintro e w3 ⟨rfl, b3⟩
          have HI2 := hid (show Dm D { P with sv := Ph.bst P.B P.sv (j + 1) } w3 ∧ Fd D W w3 from by rw [HST.out]; exact ⟨HQ.out.below b3, HFW.out.trans (Fq.of_below b3)⟩)
          clear b3 C42
          go_wp2_with (fail)
          first
            | exact ⟨⟨j + 1, hlt, rfl, HI2⟩, by simp only [intOf]; exact meas hlt⟩
            | (rw [hwk]; exact ⟨⟨j + 1, hlt, rfl, HI2⟩, by simp only [intOf]; exact meas hlt⟩)
        | some b =>
          have HST := hid hst
          clear hst
          go_wp2_with (fail)
          go_at_call 42
          refine (C42.out _).mono ?_
          rintro e w3 ⟨rfl, b3⟩
          have q3 := HQ.out.below b3
          have d0 : w3.cell? ⟨D.qb, 0, none⟩ = some (.slice (some ⟨g, 0, none⟩) n cv) := by
            have e := row_cell q3.blk 0
            rw [HV.out, HN.out] at e
            exact e
          have hvs := q3.vs
          have hlen := q3.len
          rw [HV.out] at hvs
          obtain ⟨y1, y2⟩ := own_cell hvs (k := j) (by rw [HN.out]; exact hlt)
          rw [bls_at (by rw [hlen, HN.out]; exact hlt)] at y1
          obtain ⟨r1, r2⟩ := q3.setS HV.out j b
          have HI2 := hid (show Dm D { P with sv := Ph.bst P.B P.sv (j + 1) } (w3.setCell ⟨g, j, none⟩ (.bool b)) ∧ Fd D W (w3.setCell ⟨g, j, none⟩ (.bool b)) from by rw [HST.out]; exact ⟨r1, (HFW.out.trans (Fq.of_below b3)).trans r2⟩)
          simp only [] at y1
          generalize (Ph.bst P.B P.sv j).getD j false = z at *
          clear b3 C42 q3 hvs hlen r1 r2
          go_wp2_with (fail)
          first
            | exact ⟨⟨j + 1, hlt, rfl, HI2⟩, by simp only [intOf]; exact meas hlt⟩
            | (rw [hwk]; exact ⟨⟨j + 1, hlt, rfl, HI2⟩, by simp only [intOf]; exact meas hlt⟩)
    · have hge : ¬ (j : Int) < n := by omega
      have hjn : j = D.n := by rw [HN.out]; omega
      rw [hjn] at q
      obtain ⟨q0, f0⟩ := q.setB0
      have a4 : wr.cell? ⟨D.qb, 4, none⟩ = some (.int .i64 (P.B.length : Int)) := row_cell q.blk 4
      have b4 := row_frozen q.blk 4
      have a5 : (wr.setCell ⟨D.qb, 4, none⟩ (.int .i64 0)).cell? ⟨D.qb, 5, none⟩ = some (.slice D.aB P.B.length D.cB) := row_cell (heap_set_row q.blk _) 5
      have b5 := row_frozen (heap_set_row q.blk (k := 4) (.int .i64 0)) 5
      obtain ⟨V, hVV⟩ : ∃ V, (wr.setCell ⟨D.qb, 4, none⟩ (.int .i64 0)).setCell ⟨D.qb, 5, none⟩ (.slice none 0 0) = V := ⟨_, rfl⟩
      rw [hVV] at q0 f0
      obtain ⟨q1, f1⟩ := q0.setT0
      have a2 : V.cell? ⟨D.qb, 2, none⟩ = some (.int .i64 (P.T.length : Int)) := row_cell q0.blk 2
      have b2 := row_frozen q0.blk 2
      have a3 : (V.setCell ⟨D.qb, 2, none⟩ (.int .i64 0)).cell? ⟨D.qb, 3, none⟩ = some (.slice D.aT P.T.length D.cT) := row_cell (heap_set_row q0.blk _) 3
      have b3 := row_frozen (heap_set_row q0.blk (k := 2) (.int .i64 0)) 3
      obtain ⟨Y, hY⟩ : ∃ Y, (V.setCell ⟨D.qb, 2, none⟩ (.int .i64 0)).setCell ⟨D.qb, 3, none⟩ (.slice none 0 0) = Y := ⟨_, rfl⟩
      rw [hY] at q1 f1
      obtain ⟨q2, f2⟩ := q1.setK
      have a7 : Y.cell? ⟨D.qb, 7, none⟩ = some (.int .i64 (P.k : Int)) := row_cell q1.blk 7
      have b7 : Y.frozen? ⟨D.qb, 7, none⟩ = false := row_frozen q1.blk 7
      have HO := hid (show TrnD D P W (.returned (.int .u8 2)) (Y.setCell ⟨D.qb, 7, none⟩ (.int .i64 ((P.k : Int) + 1))) from by
        refine trn_end (c := 2) (D2 := { { D with aB := none, cB := 0 } with aT := none, cT := 0 }) HC.out ?_ rfl rfl rfl q2 (((f.trans f0).trans f1).trans f2) ⟨fun a e => by simp at e, fun a e => by simp at e⟩
        rfl)
      have hkw := HKW.out
      generalize P.T.length = lt at *
      generalize P.B.length = lb at *
      generalize (P.k : Int) = kk at *
      clear q f q0 f0 q1 f1 q2 f2 hjn HI HS
      go_wp2_with (fail)
      go_ret
      exact HO.out
end Go.Proofs.Ytkodfojccodoaaa
