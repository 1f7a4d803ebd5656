/- The document's Turn. -/
import Derived.Test.YtkodfojccodoaaaDcK
import Derived.Test.YtkodfojccodoaaaTrx
namespace Go.Proofs.Ytkodfojccodoaaa
open Go.RowKit Go.Maps
set_option linter.unusedVariables false
set_option linter.unusedSimpArgs false
set_option maxRecDepth 100000
theorem Dm.setT0 {D : Da} {P : Ph.St} {W : World} (H : Dm D P W) :
    Dm { D with aT := none, cT := 0 } { P with T := [] } ((W.setCell ⟨D.qb, 2, none⟩ (.int .i64 0)).setCell ⟨D.qb, 3, none⟩ (.slice none 0 0)) ∧ Fd D W ((W.setCell ⟨D.qb, 2, none⟩ (.int .i64 0)).setCell ⟨D.qb, 3, none⟩ (.slice none 0 0)) :=
  H.setT (base := 0) (o := none) (k := 0) (l := []) (World.ownsRow_nil _ _ _ _) (fun x hx => by cases hx) (Nat.zero_le _)
theorem Dm.setB0 {D : Da} {P : Ph.St} {W : World} (H : Dm D P W) :
    Dm { D with aB := none, cB := 0 } { P with B := [] } ((W.setCell ⟨D.qb, 4, none⟩ (.int .i64 0)).setCell ⟨D.qb, 5, none⟩ (.slice none 0 0)) ∧ Fd D W ((W.setCell ⟨D.qb, 4, none⟩ (.int .i64 0)).setCell ⟨D.qb, 5, none⟩ (.slice none 0 0)) :=
  H.setB (base := 0) (o := none) (k := 0) (l := []) (World.ownsRow_nil _ _ _ _) (fun x hx => by cases hx) (Nat.zero_le _)
theorem Dm.setK {D : Da} {P : Ph.St} {W : World} (H : Dm D P W) :
    Dm D { P with k := P.k + 1 } (W.setCell ⟨D.qb, 7, none⟩ (.int .i64 ((P.k : Int) + 1))) ∧ Fd D W (W.setCell ⟨D.qb, 7, none⟩ (.int .i64 ((P.k : Int) + 1))) := by
  refine ⟨⟨?_, own_keep H.vs (fun e => H.apart e.symm) _, own_keep H.ts (own_type H.ts H.blk (by decide)).symm _, own_keep H.bs (own_type H.bs H.blk (by decide)).symm _, H.rT, H.rB, H.mx, H.lt, H.lb⟩, Fq.set W _ (fun h => h.1 rfl)⟩
  rw [heap_set_row H.blk]; rfl
def TrnD (D : Da) (P : Ph.St) (W : World) (e : Ending) (w' : World) : Prop :=
  e = .returned (.int .u8 ((Ph.knd P.k : Nat) : Int)) ∧ ∃ D' : Da, D'.qb = D.qb ∧ D'.v = D.v ∧ D'.n = D.n ∧ Dm D' (Ph.turn D.n P) w' ∧ Fd D W w' ∧ Lie D D' W
/-- The end of a turn, as the plain text has it: what the loop left is the kind's. -/
theorem trn_end {D D2 : Da} {P P2 : Ph.St} {W X : World} {c : Nat} (hc : Ph.knd P.k = c) (hP : P2 = { P with s := (Ph.tsv D.n c P).1, sv := (Ph.tsv D.n c P).2, T := [], B := if c = 2 then [] else P.B, k := P.k + 1 }) (h1 : D2.qb = D.qb) (h2 : D2.v = D.v) (h3 : D2.n = D.n) (H : Dm D2 P2 X) (f : Fd D W X) (hL : Lie D D2 W) :
    TrnD D P W (.returned (.int .u8 (c : Int))) X := by
  refine ⟨by rw [hc], D2, h1, h2, h3, ?_, f, hL⟩
  have e : Ph.turn D.n P = P2 := by rw [hP]; unfold Ph.turn; rw [hc]
  rw [e]
  exact H
set_option maxHeartbeats 4000000 in
theorem turn31_0 {D : Da} {P : Ph.St} {W : World} (H : Dm D P W) (hk : P.k ≤ 100000) (hc : Ph.knd P.k = 0) :
    Calls Try.prog 31 #[.pointer (some ⟨D.qb, 0, none⟩)] W fun e w' => TrnD D P W e w' := by
  have C44 := hid (kind44 P.k hk W)
  unfold KinO at C44
  rw [hc] at C44
  have c7 : W.cell? ⟨D.qb, 7, none⟩ = some (.int .i64 (P.k : Int)) := row_cell H.blk 7
  obtain ⟨o, cv, hv⟩ := H.val
  have HV := hid hv
  have HMX := hid H.mx
  have H0 := hid (fun (w : World) (hb : Below W.heap.size W w) => show ∃ sv', All D.n P.st 0 P.sv sv' ∧ Dm D { P with sv := sv' } w from ⟨P.sv, ⟨H.len, fun u hu => by omega⟩, H.below hb⟩)
  have hso : Hid (D.n = 0) ∨ ∃ g, o = some ⟨g, 0, none⟩ := by
    rcases Nat.eq_zero_or_pos D.n with h0 | h0
    · exact .inl h0
    · have hs := H.vs
      rw [hv] at hs
      obtain ⟨g, c', cur, e, _⟩ := own_some hs h0
      cases e
      exact .inr ⟨g, rfl⟩
  have HC := hid hc
  have HK := hid hk
  obtain ⟨n, hn⟩ : ∃ n, D.n = n := ⟨_, rfl⟩
  have HN := hid hn
  have HNX := hid (show n ≤ 1048576 by rw [← hn]; exact HMX.out)
  rw [hn] at hso
  have hkw : wrap64 ((P.k : Int) + 1) = (P.k : Int) + 1 := by unfold wrap64; omega
  have HKW := hid hkw
  clear H hv hc hk hn hkw
  go_enter Try.func31, Try.ntmps31
  go_wp2_with (fail)
  go_at_call 44
  refine C44.out.mono ?_
  rintro e w1 ⟨rfl, b1⟩
  have HS := hid (show (∃ sv', All D.n P.st 0 P.sv sv' ∧ Dm D { P with sv := sv' } w1) ∧ Fd D W w1 from ⟨H0.out _ b1, Fq.of_below b1⟩)
  clear C44 b1 H0 c7
  go_wp2_with (fail)
  go_loopw [4] (fun i wr => ∃ j : Nat, j ≤ n ∧ i = .int .i64 (j : Nat) ∧ Hid ((∃ sv', All D.n P.st j P.sv sv' ∧ Dm D { P with sv := sv' } wr) ∧ Fd D W wr)) (fun i _ => n - (intOf i).toNat)
  case atStart => exact ⟨0, Nat.zero_le _, rfl, HS⟩
  case round =>
    obtain ⟨j, hj, rfl, HI⟩ := hrel
    obtain ⟨⟨sv', ha, q⟩, f⟩ := HI.out
    have d0 : wr.cell? ⟨D.qb, 0, none⟩ = some (.slice o n cv) := by
      have e := row_cell q.blk 0
      rw [HV.out, HN.out] at e
      exact e
    by_cases hlt : j < n
    · have hlt' : (j : Int) < n := by omega
      have hwk : wrap64 ((j : Int) + 1) = (j : Int) + 1 := by have := HNX.out; unfold wrap64; omega
      rcases hso with Zo | ⟨g, hog⟩
      · exfalso; have := Zo.out; omega
      · subst hog
        have hvs := q.vs
        have hlen := q.len
        rw [HV.out] at hvs
        obtain ⟨y1, y2⟩ := own_cell hvs (k := j) (by rw [HN.out]; exact hlt)
        rw [bls_at (by rw [hlen, HN.out]; exact hlt)] at y1
        have d1 : wr.cell? ⟨D.qb, 1, none⟩ = some (.bool P.st) := row_cell q.blk 1
        have hbd : Below wr.heap.size wr wr.drew := (Below.refl _ _).drew
        obtain ⟨r1, r2⟩ := (q.below hbd).setS HV.out j P.st
        have HI2 := hid (show (∃ sv'', All D.n P.st (j + 1) P.sv sv'' ∧ Dm D { P with sv := sv'' } (wr.setCell ⟨g, j, none⟩ (.bool P.st)).drew) ∧ Fd D W (wr.setCell ⟨g, j, none⟩ (.bool P.st)).drew from ⟨⟨_, all_step ha (by rw [HN.out]; exact hlt), r1⟩, (f.trans (Fq.of_below hbd)).trans r2⟩)
        generalize sv'.getD j false = z at *
        clear ha q f hvs hlen hbd r1 r2 HI HS
        go_wp2_with (fail)
        go_region
        all_goals
          go_wp2_with (fail)
          first
            | exact ⟨⟨j + 1, hlt, rfl, HI2⟩, by simp only [intOf]; exact meas hlt⟩
            | (rw [hwk]; exact ⟨⟨j + 1, hlt, rfl, HI2⟩, by simp only [intOf]; exact meas hlt⟩)
    · have hge : ¬ (j : Int) < n := by omega
      have hsv := all_done ha (by rw [HN.out]; omega)
      rw [hsv] at q
      obtain ⟨q1, f1⟩ := q.setT0
      have a2 : wr.cell? ⟨D.qb, 2, none⟩ = some (.int .i64 (P.T.length : Int)) := row_cell q.blk 2
      have b2 := row_frozen q.blk 2
      have a3 : (wr.setCell ⟨D.qb, 2, none⟩ (.int .i64 0)).cell? ⟨D.qb, 3, none⟩ = some (.slice D.aT P.T.length D.cT) := row_cell (heap_set_row q.blk _) 3
      have b3 := row_frozen (heap_set_row q.blk (k := 2) (.int .i64 0)) 3
      obtain ⟨Y, hY⟩ : ∃ Y, (wr.setCell ⟨D.qb, 2, none⟩ (.int .i64 0)).setCell ⟨D.qb, 3, none⟩ (.slice none 0 0) = Y := ⟨_, rfl⟩
      rw [hY] at q1 f1
      obtain ⟨q2, f2⟩ := q1.setK
      have a7 : Y.cell? ⟨D.qb, 7, none⟩ = some (.int .i64 (P.k : Int)) := row_cell q1.blk 7
      have b7 : Y.frozen? ⟨D.qb, 7, none⟩ = false := row_frozen q1.blk 7
      have HO := hid (show TrnD D P W (.returned (.int .u8 0)) (Y.setCell ⟨D.qb, 7, none⟩ (.int .i64 ((P.k : Int) + 1))) from by
        refine trn_end (c := 0) (D2 := { D with aT := none, cT := 0 }) HC.out ?_ rfl rfl rfl q2 ((f.trans f1).trans f2) ⟨fun a e => by simp at e, fun a e => .inl e⟩
        rfl)
      have hkw := HKW.out
      generalize P.T.length = lt at *
      generalize (P.k : Int) = kk at *
      clear ha q f q1 f1 q2 f2 hsv HI HS
      go_wp2_with (fail)
      go_ret
      exact HO.out
set_option maxHeartbeats 4000000 in
theorem turn31_1 {D : Da} {P : Ph.St} {W : World} (H : Dm D P W) (hk : P.k ≤ 100000) (hc : Ph.knd P.k = 1) :
    Calls Try.prog 31 #[.pointer (some ⟨D.qb, 0, none⟩)] W fun e w' => TrnD D P W e w' := by
  have C44 := hid (kind44 P.k hk W)
  unfold KinO at C44
  rw [hc] at C44
  have c7 : W.cell? ⟨D.qb, 7, none⟩ = some (.int .i64 (P.k : Int)) := row_cell H.blk 7
  obtain ⟨o, cv, hv⟩ := H.val
  have HV := hid hv
  have HMX := hid H.mx
  have H0 := hid (fun (w : World) (hb : Below W.heap.size W w) => show ∃ sv', All D.n (!P.st) 0 P.sv sv' ∧ Dm D { P with sv := sv' } w from ⟨P.sv, ⟨H.len, fun u hu => by omega⟩, H.below hb⟩)
  have hso : Hid (D.n = 0) ∨ ∃ g, o = some ⟨g, 0, none⟩ := by
    rcases Nat.eq_zero_or_pos D.n with h0 | h0
    · exact .inl h0
    · have hs := H.vs
      rw [hv] at hs
      obtain ⟨g, c', cur, e, _⟩ := own_some hs h0
      cases e
      exact .inr ⟨g, rfl⟩
  have HC := hid hc
  have HK := hid hk
  obtain ⟨n, hn⟩ : ∃ n, D.n = n := ⟨_, rfl⟩
  have HN := hid hn
  have HNX := hid (show n ≤ 1048576 by rw [← hn]; exact HMX.out)
  rw [hn] at hso
  have hkw : wrap64 ((P.k : Int) + 1) = (P.k : Int) + 1 := by unfold wrap64; omega
  have HKW := hid hkw
  clear H hv hc hk hn hkw
  go_enter Try.func31, Try.ntmps31
  go_wp2_with (fail)
  go_at_call 44
  refine C44.out.mono ?_
  rintro e w1 ⟨rfl, b1⟩
  have HS := hid (show (∃ sv', All D.n (!P.st) 0 P.sv sv' ∧ Dm D { P with sv := sv' } w1) ∧ Fd D W w1 from ⟨H0.out _ b1, Fq.of_below b1⟩)
  clear C44 b1 H0 c7
  go_wp2_with (fail)
  go_loopw [4] (fun i wr => ∃ j : Nat, j ≤ n ∧ i = .int .i64 (j : Nat) ∧ Hid ((∃ sv', All D.n (!P.st) j P.sv sv' ∧ Dm D { P with sv := sv' } wr) ∧ Fd D W wr)) (fun i _ => n - (intOf i).toNat)
  case atStart => exact ⟨0, Nat.zero_le _, rfl, HS⟩
  case round =>
    obtain ⟨j, hj, rfl, HI⟩ := hrel
    obtain ⟨⟨sv', ha, q⟩, f⟩ := HI.out
    have d0 : wr.cell? ⟨D.qb, 0, none⟩ = some (.slice o n cv) := by
      have e := row_cell q.blk 0
      rw [HV.out, HN.out] at e
      exact e
    by_cases hlt : j < n
    · have hlt' : (j : Int) < n := by omega
      have hwk : wrap64 ((j : Int) + 1) = (j : Int) + 1 := by have := HNX.out; unfold wrap64; omega
      rcases hso with Zo | ⟨g, hog⟩
      · exfalso; have := Zo.out; omega
      · subst hog
        have hvs := q.vs
        have hlen := q.len
        rw [HV.out] at hvs
        obtain ⟨y1, y2⟩ := own_cell hvs (k := j) (by rw [HN.out]; exact hlt)
        rw [bls_at (by rw [hlen, HN.out]; exact hlt)] at y1
        have d1 : wr.cell? ⟨D.qb, 1, none⟩ = some (.bool P.st) := row_cell q.blk 1
        have hbd : Below wr.heap.size wr wr.drew := (Below.refl _ _).drew
        obtain ⟨r1, r2⟩ := (q.below hbd).setS HV.out j (!P.st)
        have HI2 := hid (show (∃ sv'', All D.n (!P.st) (j + 1) P.sv sv'' ∧ Dm D { P with sv := sv'' } (wr.setCell ⟨g, j, none⟩ (.bool (!P.st))).drew) ∧ Fd D W (wr.setCell ⟨g, j, none⟩ (.bool (!P.st))).drew from ⟨⟨_, all_step ha (by rw [HN.out]; exact hlt), r1⟩, (f.trans (Fq.of_below hbd)).trans r2⟩)
        generalize sv'.getD j false = z at *
        clear ha q f hvs hlen hbd r1 r2 HI HS
        go_wp2_with (fail)
        go_region
        all_goals
          go_wp2_with (fail)
          first
            | exact ⟨⟨j + 1, hlt, rfl, HI2⟩, by simp only [intOf]; exact meas hlt⟩
            | (rw [hwk]; exact ⟨⟨j + 1, hlt, rfl, HI2⟩, by simp only [intOf]; exact meas hlt⟩)
    · have hge : ¬ (j : Int) < n := by omega
      have hsv := all_done ha (by rw [HN.out]; omega)
      rw [hsv] at q
      obtain ⟨q1, f1⟩ := q.setT0
      have a2 : wr.cell? ⟨D.qb, 2, none⟩ = some (.int .i64 (P.T.length : Int)) := row_cell q.blk 2
      have b2 := row_frozen q.blk 2
      have a3 : (wr.setCell ⟨D.qb, 2, none⟩ (.int .i64 0)).cell? ⟨D.qb, 3, none⟩ = some (.slice D.aT P.T.length D.cT) := row_cell (heap_set_row q.blk _) 3
      have b3 := row_frozen (heap_set_row q.blk (k := 2) (.int .i64 0)) 3
      obtain ⟨Y, hY⟩ : ∃ Y, (wr.setCell ⟨D.qb, 2, none⟩ (.int .i64 0)).setCell ⟨D.qb, 3, none⟩ (.slice none 0 0) = Y := ⟨_, rfl⟩
      rw [hY] at q1 f1
      obtain ⟨q2, f2⟩ := q1.setK
      have a7 : Y.cell? ⟨D.qb, 7, none⟩ = some (.int .i64 (P.k : Int)) := row_cell q1.blk 7
      have b7 : Y.frozen? ⟨D.qb, 7, none⟩ = false := row_frozen q1.blk 7
      have HO := hid (show TrnD D P W (.returned (.int .u8 1)) (Y.setCell ⟨D.qb, 7, none⟩ (.int .i64 ((P.k : Int) + 1))) from by
        refine trn_end (c := 1) (D2 := { D with aT := none, cT := 0 }) HC.out ?_ rfl rfl rfl q2 ((f.trans f1).trans f2) ⟨fun a e => by simp at e, fun a e => .inl e⟩
        rfl)
      have hkw := HKW.out
      generalize P.T.length = lt at *
      generalize (P.k : Int) = kk at *
      clear ha q f q1 f1 q2 f2 hsv HI HS
      go_wp2_with (fail)
      go_ret
      exact HO.out
end Go.Proofs.Ytkodfojccodoaaa
