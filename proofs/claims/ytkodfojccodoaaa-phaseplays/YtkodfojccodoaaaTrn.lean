/- The turns of the schedule. -/
import Derived.Test.YtkodfojccodoaaaPn
import Derived.WalkSmall
namespace Go.Proofs.Ytkodfojccodoaaa.Ph
/-- The kind of a turn. -/
def knd (t : Nat) : Nat := if t < 2 then t else [2, 3, 0, 2, 4, 1].getD ((t - 2) % 6) 0
def bst (B : List Int) (sv : List Bool) : Nat → List Bool
  | 0 => sv
  | k + 1 => match lastV ((k : Int) + 1) B with
    | some b => (bst B sv k).set k b
    | none => bst B sv k
def wlk (p : Int × List Bool) : Nat → Int × List Bool
  | 0 => p
  | k + 1 => let q := wlk p k; let s := drw q.1; (s, if s % 8 = 0 then q.2.set k (!q.2.getD k false) else q.2)
def rnd (p : Int × List Bool) : Nat → Int × List Bool
  | 0 => p
  | k + 1 => let q := rnd p k; let s := drw q.1; (s, q.2.set k (decide (s % 2 = 1)))
theorem bst_len (B : List Int) (sv : List Bool) (k : Nat) : (bst B sv k).length = sv.length := by
  induction k with
  | zero => rfl
  | succ k ih => unfold bst; split <;> simp [ih]
theorem wlk_us {p : Int × List Bool} (h : Us p.1) (k : Nat) : Us (wlk p k).1 := by
  induction k with
  | zero => exact h
  | succ k ih => exact drw_us ih
theorem rnd_us {p : Int × List Bool} (h : Us p.1) (k : Nat) : Us (rnd p k).1 := by
  induction k with
  | zero => exact h
  | succ k ih => exact drw_us ih
/-- A turn of the kind k. -/
def tsv (n k : Nat) (P : St) : Int × List Bool :=
  if k = 0 then (P.s, List.replicate n P.st) else if k = 1 then (P.s, List.replicate n (!P.st)) else if k = 2 then (P.s, bst P.B P.sv n) else if k = 3 then wlk (P.s, P.sv) n else rnd (P.s, P.sv) n
def turn (n : Nat) (P : St) : St := ⟨P.st, (tsv n (knd P.k) P).2, [], if knd P.k = 2 then [] else P.B, (tsv n (knd P.k) P).1, P.k + 1⟩
end Go.Proofs.Ytkodfojccodoaaa.Ph
namespace Go.Proofs.Ytkodfojccodoaaa
open Go.RowKit Go.Maps
set_option linter.unusedVariables false
set_option linter.unusedSimpArgs false
set_option maxRecDepth 100000
section
variable {A : Adr} {st : Bool} {sv : List Bool} {lt : Nat} {nt : Int} {mt : List Int} {lb : Nat} {nb : Int} {mb : List Int} {s : Int} {k : Nat} {W : World}
theorem orig45 (H : Pr A st sv lt nt mt lb nb mb s k W) :
    Calls Try.prog 45 #[.pointer (some ⟨A.pb, 0, none⟩)] W fun e w' => e = .returned (.int .u8 0) ∧ Pr A st (List.replicate A.n st) lt nt mt lb nb mb s k w' ∧ Fa A W w' := by
  have c0 := H.cells.1
  have C := hid (saveAll25 H st)
  clear H
  go_enter Try.func45, Try.ntmps45
  go_wp2_with (go_at_call 25; refine C.out.mono ?_; rintro e w4 ⟨rfl, q, f⟩)
  go_ret
  exact ⟨rfl, q, f⟩
theorem inv46 (H : Pr A st sv lt nt mt lb nb mb s k W) :
    Calls Try.prog 46 #[.pointer (some ⟨A.pb, 0, none⟩)] W fun e w' => e = .returned (.int .u8 1) ∧ Pr A st (List.replicate A.n (!st)) lt nt mt lb nb mb s k w' ∧ Fa A W w' := by
  have c0 := H.cells.1
  have C := hid (saveAll25 H (!st))
  clear H
  go_enter Try.func46, Try.ntmps46
  go_wp2_with (go_at_call 25; refine C.out.mono ?_; rintro e w4 ⟨rfl, q, f⟩)
  go_ret
  exact ⟨rfl, q, f⟩
set_option maxHeartbeats 4000000 in
theorem best47 {B : List Int} (H : Pr A st sv lt nt mt B.length nb mb s k W) (hB : Ph.Mk A.n B nb mb) (hn : nb ≤ 4611686018427387904) :
    Calls Try.prog 47 #[.pointer (some ⟨A.pb, 0, none⟩)] W fun e w' => e = .returned (.int .u8 2) ∧ Pr A st (Ph.bst B sv A.n) lt nt mt 0 nb mb s k w' ∧ Fa A W w' := by
  have c1 := H.cells.2.1
  have HMX := hid H.mx
  have HB := hid (And.intro hB hn)
  have H0 := hid (show Pr A st (Ph.bst B sv 0) lt nt mt B.length nb mb s k W from H)
  obtain ⟨n, hn'⟩ : ∃ n, A.n = n := ⟨_, rfl⟩
  have HN := hid hn'
  rw [hn'] at c1
  rw [hn']
  have HNX := hid (show n ≤ 1048576 by rw [← hn']; exact HMX.out)
  obtain ⟨y, hy⟩ : ∃ y, B.length = y := ⟨_, rfl⟩
  have HY := hid hy
  rw [hy] at H0
  clear H hB hn hn' hy
  go_enter Try.func47, Try.ntmps47
  go_wp2_with (fail)
  go_loopw [11] (fun i wr => ∃ j : Nat, j ≤ n ∧ i = .int .i64 (j : Nat) ∧ Hid (Pr A st (Ph.bst B sv j) lt nt mt y nb mb s k wr ∧ Fa A W wr)) (fun i _ => n - (intOf i).toNat)
  case atStart => exact ⟨0, Nat.zero_le _, rfl, hid ⟨H0.out, Fq.refl _ _⟩⟩
  case round =>
    obtain ⟨j, hj, rfl, HI⟩ := hrel
    by_cases hlt : j < n
    · have hlt' : (j : Int) < n := by omega
      have hwk : wrap64 ((j : Int) + 1) = (j : Int) + 1 := by have := HNX.out; unfold wrap64; omega
      have C38 := hid (value38B HI.out.1 (v := j + 1) (by omega) (by rw [HN.out]; exact hlt) (by have := HB.out.1.lo; have := HB.out.2; omega))
      rw [← HY.out, mk_look HB.out.1 (v := j + 1) (by omega) (by rw [HN.out]; exact hlt)] at C38
      rw [show ((j + 1 : Nat) : Int) = (j : Int) + 1 from rfl] at C38
      have hst : Ph.bst B sv (j + 1) = match Ph.lastV ((j : Int) + 1) B with | some b => (Ph.bst B sv j).set j b | none => Ph.bst B sv j := rfl
      have d1 := HI.out.1.cells.2.1
      rw [HN.out] at d1
      obtain ⟨x1, f1⟩ := HI.out.1.atS (u := j) (by rw [HN.out]; exact hlt)
      generalize Ph.lastV ((j : Int) + 1) B = o at *
      clear H0 c1
      cases o with
      | none =>
        have HI2 := hid (show Pr A st (Ph.bst B sv (j + 1)) lt nt mt y nb mb s k wr ∧ Fa A W wr from by rw [hst]; exact HI.out)
        clear HI hst
        go_wp2_with (go_at_call 38; refine C38.out.mono ?_; rintro e w4 ⟨rfl, hw4⟩; rw [hw4]; clear hw4)
        first
          | exact ⟨⟨j + 1, hlt, rfl, HI2⟩, by simp only [intOf]; exact meas hlt⟩
          | (rw [hwk]; exact ⟨⟨j + 1, hlt, rfl, HI2⟩, by simp only [intOf]; exact meas hlt⟩)
      | some b =>
        obtain ⟨r1, r2⟩ := HI.out.1.setS (u := j) (by rw [HN.out]; exact hlt) b
        have HI2 := hid (show Pr A st (Ph.bst B sv (j + 1)) lt nt mt y nb mb s k (wr.setCell ⟨A.gs, j, none⟩ (.bool b)) ∧ Fa A W (wr.setCell ⟨A.gs, j, none⟩ (.bool b)) from by rw [hst]; exact ⟨r1, HI.out.2.trans r2⟩)
        generalize (Ph.bst B sv j).getD j false = z at *
        clear HI hst r1 r2
        go_wp2_with (go_at_call 38; refine C38.out.mono ?_; rintro e w4 ⟨rfl, hw4⟩; rw [hw4]; clear hw4)
        first
          | exact ⟨⟨j + 1, hlt, rfl, HI2⟩, by simp only [intOf]; exact meas hlt⟩
          | (rw [hwk]; exact ⟨⟨j + 1, hlt, rfl, HI2⟩, by simp only [intOf]; exact meas hlt⟩)
    · have hge : ¬ (j : Int) < n := by omega
      have hjn : j = n := by omega
      have C34 := hid (leave34B HI.out.1)
      rw [hjn] at C34
      have HF := hid HI.out.2
      clear HI H0 c1
      go_wp2_with (go_at_call 34; refine C34.out.mono ?_; rintro e w4 ⟨rfl, q, f⟩)
      go_ret
      exact ⟨rfl, q, HF.out.trans f⟩
set_option maxHeartbeats 4000000 in
theorem walk48 (H : Pr A st sv lt nt mt lb nb mb s k W) (hs : Us s) :
    Calls Try.prog 48 #[.pointer (some ⟨A.pb, 0, none⟩)] W fun e w' => e = .returned (.int .u8 3) ∧ Pr A st (Ph.wlk (s, sv) A.n).2 lt nt mt lb nb mb (Ph.wlk (s, sv) A.n).1 k w' ∧ Fa A W w' := by
  have c1 := H.cells.2.1
  have HMX := hid H.mx
  have H0 := hid (show Pr A st (Ph.wlk (s, sv) 0).2 lt nt mt lb nb mb (Ph.wlk (s, sv) 0).1 k W from H)
  have HS := hid hs
  obtain ⟨n, hn'⟩ : ∃ n, A.n = n := ⟨_, rfl⟩
  have HN := hid hn'
  rw [hn'] at c1
  rw [hn']
  have HNX := hid (show n ≤ 1048576 by rw [← hn']; exact HMX.out)
  clear H hs hn'
  go_enter Try.func48, Try.ntmps48
  go_wp2_with (fail)
  go_loopw [9] (fun i wr => ∃ j : Nat, j ≤ n ∧ i = .int .i64 (j : Nat) ∧ Hid (Pr A st (Ph.wlk (s, sv) j).2 lt nt mt lb nb mb (Ph.wlk (s, sv) j).1 k wr ∧ Fa A W wr)) (fun i _ => n - (intOf i).toNat)
  case atStart => exact ⟨0, Nat.zero_le _, rfl, hid ⟨H0.out, Fq.refl _ _⟩⟩
  case round =>
    obtain ⟨j, hj, rfl, HI⟩ := hrel
    by_cases hlt : j < n
    · have hlt' : (j : Int) < n := by omega
      have hwk : wrap64 ((j : Int) + 1) = (j : Int) + 1 := by have := HNX.out; unfold wrap64; omega
      have hus := Ph.wlk_us (p := (s, sv)) HS.out j
      have C22 := hid (draw22 HI.out.1 ⟨by have := hus.1; omega, hus.2⟩)
      have hus2 := drw_us hus
      have hst : Ph.wlk (s, sv) (j + 1) = (drw (Ph.wlk (s, sv) j).1, if drw (Ph.wlk (s, sv) j).1 % 8 = 0 then (Ph.wlk (s, sv) j).2.set j (!(Ph.wlk (s, sv) j).2.getD j false) else (Ph.wlk (s, sv) j).2) := rfl
      generalize Ph.wlk (s, sv) j = p1 at *
      obtain ⟨s2, hs2⟩ : ∃ s2, drw p1.1 = s2 := ⟨_, rfl⟩
      rw [hs2] at C22 hst hus2
      have HU := hid hus2
      have HFW := hid HI.out.2
      have htm : s2.tmod 8 = s2 % 8 := Int.tmod_eq_emod_of_nonneg (by have := hus2.1; omega)
      have hw8 : IntKind.u64.wrap (s2 % 8) = s2 % 8 := by simp [IntKind.wrap, IntKind.bits, IntKind.signed]; omega
      clear hus hus2 hs2 HI H0 c1
      by_cases h8 : s2 % 8 = 0
      · rw [if_pos h8] at hst
        have h8' : (s2 % 8 == 0) = true := by simp [h8]
        have HST := hid hst
        clear hst h8
        go_wp2_with (fail)
        go_at_call 22
        refine C22.out.mono ?_
        rintro e w3 ⟨rfl, q3, f3⟩
        have d1 := q3.cells.2.1
        rw [HN.out] at d1
        obtain ⟨x1, g1⟩ := q3.atS (u := j) (by rw [HN.out]; exact hlt)
        have hbd : Below w3.heap.size w3 w3.drew := (Below.refl _ _).drew
        obtain ⟨r1, r2⟩ := (q3.below hbd).setS (u := j) (by rw [HN.out]; exact hlt) (!p1.2.getD j false)
        have HI2 := hid (show Pr A st (Ph.wlk (s, sv) (j + 1)).2 lt nt mt lb nb mb (Ph.wlk (s, sv) (j + 1)).1 k (w3.setCell ⟨A.gs, j, none⟩ (.bool (!p1.2.getD j false))).drew ∧ Fa A W (w3.setCell ⟨A.gs, j, none⟩ (.bool (!p1.2.getD j false))).drew from by
          rw [HST.out]; exact ⟨r1, (HFW.out.trans f3).trans ((Fq.of_below hbd).trans r2)⟩)
        generalize p1.2.getD j false = z at *
        clear q3 f3 C22 hbd r1 r2
        go_wp2_with (fail)
        go_region
        all_goals
          go_wp2_with (fail)
          first
            | exact ⟨⟨j + 1, hlt, rfl, HI2⟩, by simp only [intOf]; exact meas hlt⟩
            | (rw [hwk]; exact ⟨⟨j + 1, hlt, rfl, HI2⟩, by simp only [intOf]; exact meas hlt⟩)
      · rw [if_neg h8] at hst
        have h8' : (s2 % 8 == 0) = false := by simp [h8]
        have HST := hid hst
        clear hst h8
        go_wp2_with (fail)
        go_at_call 22
        refine C22.out.mono ?_
        rintro e w3 ⟨rfl, q3, f3⟩
        have HI2 := hid (show Pr A st (Ph.wlk (s, sv) (j + 1)).2 lt nt mt lb nb mb (Ph.wlk (s, sv) (j + 1)).1 k w3 ∧ Fa A W w3 from by
          rw [HST.out]; exact ⟨q3, HFW.out.trans f3⟩)
        clear q3 f3 C22
        go_wp2_with (fail)
        first
          | exact ⟨⟨j + 1, hlt, rfl, HI2⟩, by simp only [intOf]; exact meas hlt⟩
          | (rw [hwk]; exact ⟨⟨j + 1, hlt, rfl, HI2⟩, by simp only [intOf]; exact meas hlt⟩)
    · have hge : ¬ (j : Int) < n := by omega
      have hjn : j = n := by omega
      have HO := hid HI.out
      rw [hjn] at HO
      clear HI H0 c1
      go_wp2
      go_ret
      exact ⟨rfl, HO.out⟩
set_option maxHeartbeats 4000000 in
theorem rand49 (H : Pr A st sv lt nt mt lb nb mb s k W) (hs : Us s) :
    Calls Try.prog 49 #[.pointer (some ⟨A.pb, 0, none⟩)] W fun e w' => e = .returned (.int .u8 4) ∧ Pr A st (Ph.rnd (s, sv) A.n).2 lt nt mt lb nb mb (Ph.rnd (s, sv) A.n).1 k w' ∧ Fa A W w' := by
  have c1 := H.cells.2.1
  have HMX := hid H.mx
  have H0 := hid (show Pr A st (Ph.rnd (s, sv) 0).2 lt nt mt lb nb mb (Ph.rnd (s, sv) 0).1 k W from H)
  have HS := hid hs
  obtain ⟨n, hn'⟩ : ∃ n, A.n = n := ⟨_, rfl⟩
  have HN := hid hn'
  rw [hn'] at c1
  rw [hn']
  have HNX := hid (show n ≤ 1048576 by rw [← hn']; exact HMX.out)
  clear H hs hn'
  go_enter Try.func49, Try.ntmps49
  go_wp2_with (fail)
  go_loopw [9] (fun i wr => ∃ j : Nat, j ≤ n ∧ i = .int .i64 (j : Nat) ∧ Hid (Pr A st (Ph.rnd (s, sv) j).2 lt nt mt lb nb mb (Ph.rnd (s, sv) j).1 k wr ∧ Fa A W wr)) (fun i _ => n - (intOf i).toNat)
  case atStart => exact ⟨0, Nat.zero_le _, rfl, hid ⟨H0.out, Fq.refl _ _⟩⟩
  case round =>
    obtain ⟨j, hj, rfl, HI⟩ := hrel
    by_cases hlt : j < n
    · have hlt' : (j : Int) < n := by omega
      have hwk : wrap64 ((j : Int) + 1) = (j : Int) + 1 := by have := HNX.out; unfold wrap64; omega
      have hus := Ph.rnd_us (p := (s, sv)) HS.out j
      have C22d := hid (draw22 (HI.out.1.below (W' := wr.drew) ((Below.refl _ _).drew)) ⟨by have := hus.1; omega, hus.2⟩)
      have hus2 := drw_us hus
      have d1 := HI.out.1.cells.2.1
      rw [HN.out] at d1
      have hst : Ph.rnd (s, sv) (j + 1) = (drw (Ph.rnd (s, sv) j).1, (Ph.rnd (s, sv) j).2.set j (decide (drw (Ph.rnd (s, sv) j).1 % 2 = 1))) := rfl
      generalize Ph.rnd (s, sv) j = p1 at *
      obtain ⟨s2, hs2⟩ : ∃ s2, drw p1.1 = s2 := ⟨_, rfl⟩
      rw [hs2] at C22d hst hus2
      have HFW := hid HI.out.2
      have hand : bits BinOp.and IntKind.u64 s2 1 = s2 % 2 := and_one_u64 s2 (by have := hus2.1; omega) (by have := hus2.2; omega)
      obtain ⟨b, hb⟩ : ∃ b, decide (s2 % 2 = 1) = b := ⟨_, rfl⟩
      have hb' : (s2 % 2 == 1) = b := by rw [← hb]; by_cases h : s2 % 2 = 1 <;> simp [h]
      rw [hb] at hst
      have HST := hid hst
      clear hus hus2 hs2 HI H0 c1 hst hb
      have hbd : Below wr.heap.size wr wr.drew := (Below.refl _ _).drew
      have HQ := hid (fun (w : World) (q : Pr A st p1.2 lt nt mt lb nb mb s2 k w) => show w.cell? ⟨A.pb, 1, none⟩ = some (sls A.gs n A.cs) ∧ (∃ z, w.cell? ⟨A.gs, j, none⟩ = some (.bool z)) ∧ w.frozen? ⟨A.gs, j, none⟩ = false ∧ (w.setCell ⟨A.gs, j, none⟩ (.bool b)).cell? ⟨A.pb, 1, none⟩ = some (sls A.gs n A.cs) ∧ Pr A st (Ph.rnd (s, sv) (j + 1)).2 lt nt mt lb nb mb (Ph.rnd (s, sv) (j + 1)).1 k (w.setCell ⟨A.gs, j, none⟩ (.bool b)) ∧ Fa A w (w.setCell ⟨A.gs, j, none⟩ (.bool b)) from by
        obtain ⟨x1, g1⟩ := q.atS (u := j) (by rw [HN.out]; exact hlt)
        obtain ⟨r1, r2⟩ := q.setS (u := j) (by rw [HN.out]; exact hlt) b
        have e1 := q.cells.2.1
        have e2 := r1.cells.2.1
        rw [HN.out] at e1 e2
        rw [HST.out]
        exact ⟨e1, ⟨_, x1⟩, g1, e2, r1, r2⟩)
      have CD := hid (show Calls Try.prog 22 #[.pointer (some ⟨A.pb, 0, none⟩)] wr.drew fun e w' => e = .returned (.int .u64 s2) ∧ Pr A st p1.2 lt nt mt lb nb mb s2 k w' ∧ Fa A wr w' from by
        refine (C22d.out).mono ?_
        rintro e w' ⟨e1, e2, e3⟩
        exact ⟨e1, e2, (Fq.of_below hbd).trans e3⟩)
      clear C22d hbd
      go_wp2_with (fail)
      go_region_held3 (fun X => X.cell? ⟨A.pb, 1, none⟩ = some (sls A.gs n A.cs)) (first | exact d1 | exact y1 | exact y4)
        ((go_at_call 22; refine CD.out.mono ?_; rintro e w3 ⟨rfl, q3, f3⟩; obtain ⟨y1, ⟨z, y2⟩, y3, y4, y5, y6⟩ := HQ.out _ q3))
      all_goals
        have HI2 := hid (And.intro y5 ((HFW.out.trans f3).trans y6))
        clear q3 f3 y1 y2 y3 y4 y5 y6
        go_wp2_with (fail)
        first
          | exact ⟨⟨j + 1, hlt, rfl, HI2⟩, by simp only [intOf]; exact meas hlt⟩
          | (rw [hwk]; exact ⟨⟨j + 1, hlt, rfl, HI2⟩, by simp only [intOf]; exact meas hlt⟩)
    · have hge : ¬ (j : Int) < n := by omega
      have hjn : j = n := by omega
      have HO := hid HI.out
      rw [hjn] at HO
      clear HI H0 c1
      go_wp2
      go_ret
      exact ⟨rfl, HO.out⟩
end
end Go.Proofs.Ytkodfojccodoaaa
