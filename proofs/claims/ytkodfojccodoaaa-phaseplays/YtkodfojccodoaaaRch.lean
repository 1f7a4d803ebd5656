/- A row reached. -/
import Derived.Test.YtkodfojccodoaaaLps
import Derived.StillTailTactics
namespace Go.Proofs.Ytkodfojccodoaaa
open Go.RowKit Go.Maps
set_option linter.unusedVariables false
set_option maxRecDepth 100000

section
variable {A : Adr} {st : Bool} {sv : List Bool} {lt : Nat} {nt : Int} {mt : List Int} {lb : Nat} {nb : Int} {mb : List Int} {s : Int} {k : Nat} {W : World}

def RchT (A : Adr) (st : Bool) (sv : List Bool) (lt : Nat) (nt : Int) (mt : List Int) (lb : Nat) (nb : Int) (mb : List Int) (s : Int) (k : Nat) (W : World) (l : List Int) (e : Ending) (w' : World) : Prop :=
  e = .returned (.bool true) ∧ (∃ m', Pr A st sv l.length (nt + 1) m' lb nb mb s k w' ∧ Ph.Mk A.n l (nt + 1) m') ∧ Fa A W w'
set_option maxHeartbeats 4000000 in
theorem reach39T_no (H : Pr A st sv lt nt mt lb nb mb s k W) {a : Option Addr} {t c : Nat} (ht : t ≤ lt) :
    Calls Try.prog 39 #[.pointer (some ⟨A.pb, 2, none⟩), .slice a t c] W fun e w' => e = .returned (.bool false) ∧ w' = W := by
  have c2 := H.cells.2.2.1
  have hlt : (t : Int) ≤ lt := by omega
  clear H ht
  go_enter Try.func39, Try.ntmps39
  go_wp2
  go_ret
  exact ⟨rfl, rfl⟩
set_option maxHeartbeats 8000000 in
theorem reach39T (H : Pr A st sv lt nt mt lb nb mb s k W) {L : List Int} (hM : Ph.Mk A.n L nt mt) (hn : nt ≤ 4611686018427387904) {a : Option Addr} {c : Nat} {l : List Int} (h : Lw W a l) (hap : ∀ b off, a = some ⟨b, off, none⟩ → 0 < l.length → ¬ A.own b) (hl : l.length ≤ maxLen) (hm : Ph.may A.n l = true) (hlt : lt < l.length) :
    Calls Try.prog 39 #[.pointer (some ⟨A.pb, 2, none⟩), .slice a l.length c] W fun e w' => RchT A st sv lt nt mt lb nb mb s k W l e w' := by
  have c2 := H.cells.2.2.1
  have f2 := H.froz 2
  obtain ⟨H1, F1⟩ := H.setLT l.length
  have c3 := H1.cells.2.2.2.1
  have f3 := H1.froz 3
  obtain ⟨H2, F2⟩ := H1.setNT (nt + 1)
  obtain ⟨b, off, hab⟩ : ∃ b off, a = some ⟨b, off, none⟩ := by
    rcases h.shape with h | h
    · omega
    · exact h
  subst hab
  have HL := hid (fun (w : World) (hf : Fa A W w) (j : Nat) (hj : j < l.length) => (h.fq hf (fun b off e => hap b off e)).at hj)
  have HM := hid (fun (j : Nat) (hj : j < l.length) => Ph.may_mem hm hj)
  have H0 := hid (show ∃ m', Pr A st sv l.length (nt + 1) m' lb nb mb s k ((W.setCell ⟨A.pb, 2, none⟩ (.int .i64 (l.length : Int))).setCell ⟨A.pb, 3, none⟩ (.int .i64 (nt + 1))) ∧ Ph.Md A.n l 0 (nt + 1) m' from ⟨_, H2, Ph.Md.begin hM l⟩)
  have HF0 := hid (F1.trans F2)
  have hw : wrap64 (nt + 1) = nt + 1 := by have := hM.lo; unfold wrap64; omega
  have HMX := hid H.mx
  have HNB := hid (show 0 ≤ nt + 1 ∧ nt + 1 ≤ 4611686018427387905 by have := hM.lo; omega)
  obtain ⟨t, ht⟩ : ∃ t, l.length = t := ⟨_, rfl⟩
  have HT := hid ht
  have HTB := hid (show (t : Int) ≤ 9223372036854775807 by rw [ht] at hl; unfold maxLen at hl; omega)
  rw [ht] at hlt HL HM H0 HF0 c3 f3 ⊢
  have hge : ¬ (t : Int) ≤ lt := by omega
  clear H H1 H2 F1 F2 hM hn h hap hl hm hlt ht
  go_enter Try.func39, Try.ntmps39
  go_wp2_with (fail)
  go_loopw [28] (fun i wr => ∃ j : Nat, j ≤ t ∧ i = .int .i64 (j : Nat) ∧ Hid (∃ m', Pr A st sv t (nt + 1) m' lb nb mb s k wr ∧ Ph.Md A.n l j (nt + 1) m') ∧ Hid (Fa A W wr)) (fun i _ => t - (intOf i).toNat)
  case atStart => exact ⟨0, Nat.zero_le _, rfl, H0, HF0⟩
  case round =>
    obtain ⟨j, hj, rfl, HI, HF⟩ := hrel
    by_cases hlt : j < t
    · have hlt' : (j : Int) < t := by omega
      have hwk : wrap64 ((j : Int) + 1) = (j : Int) + 1 := by have := HTB.out; unfold wrap64; omega
      obtain ⟨x0, x1, x2⟩ := HL.out wr HF.out j hlt
      have hvr := HM.out j hlt
      obtain ⟨m', q1, q2⟩ := HI.out
      have q3 := q2.step (by rw [HT.out]; exact hlt) hvr
      have hbd : Below wr.heap.size wr wr.drew := (Below.refl _ _).drew
      have q1d := q1.below hbd
      have C36 := hid (variable36 (l.getD j 0) wr.drew x1 x2)
      have C50 := hid (markOf50T q1d (l.getD j 0) HNB.out)
      have hvn : Ph.vr (l.getD j 0) - 1 < A.n := by omega
      have d4 := q1.cells.2.2.2.2.1
      obtain ⟨y1, y2⟩ := q1.atT hvn
      obtain ⟨r1, r2⟩ := q1d.setT hvn (Ph.mark (nt + 1) (l.getD j 0))
      have HI2 := hid (show ∃ m', Pr A st sv t (nt + 1) m' lb nb mb s k (wr.setCell ⟨A.gt, Ph.vr (l.getD j 0) - 1, none⟩ (.int .i64 (Ph.mark (nt + 1) (l.getD j 0)))).drew ∧ Ph.Md A.n l (j + 1) (nt + 1) m' from ⟨_, r1, q3⟩)
      have HF2 := hid (show Fa A W (wr.setCell ⟨A.gt, Ph.vr (l.getD j 0) - 1, none⟩ (.int .i64 (Ph.mark (nt + 1) (l.getD j 0)))).drew from (HF.out.trans (Fq.of_below hbd)).trans r2)
      generalize Ph.mark (nt + 1) (l.getD j 0) = z at *
      generalize l.getD j 0 = x at *
      generalize Ph.vr x = v at *
      generalize m'.getD (v - 1) 0 = y at *
      obtain ⟨hv1, hv2⟩ := hvr
      have hvx : (v : Int) ≤ 1048576 := by have := HMX.out; omega
      have hvb : (v : Int) - 1 < A.n := by omega
      have hv1' : (1 : Int) ≤ (v : Int) := by omega
      have e1 : IntKind.i64.wrap ((v : Int) - 1) = (v : Int) - 1 := by rw [IntKind.wrap_i64]; omega
      obtain ⟨n', hn'⟩ : ∃ n', A.n = n' := ⟨_, rfl⟩
      rw [hn'] at d4 hvb
      clear hn'
      clear q1 q1d q2 q3 r1 r2 HI HF H0 HF0 c2 c3 f2 f3 hbd
      go_wp2_with (fail)
      refine wp_region_still_tail 11 (by kernel_rfl) (by kernel_rfl) ?_
      simp only [List.take_succ_cons, List.take_zero, List.drop_succ_cons, List.drop_zero]
      iterate 5 still_step
      still_call C36.out
      iterate 3 still_step
      still_call C50.out
      iterate 1 still_step
      refine wpStill_nil ?_
      go_wp2_with (fail)
      rw [hwk]
      exact ⟨⟨j + 1, hlt, rfl, HI2, HF2⟩, by simp only [intOf]; exact meas hlt⟩
    · have hge : ¬ (j : Int) < t := by omega
      have HO := hid (show ∃ m', Pr A st sv l.length (nt + 1) m' lb nb mb s k wr ∧ Ph.Mk A.n l (nt + 1) m' from by
        obtain ⟨m', q1, q2⟩ := HI.out
        rw [← HT.out] at q1
        exact ⟨m', q1, q2.done (by rw [HT.out]; omega)⟩)
      clear HI H0
      go_wp2
      go_ret
      exact ⟨rfl, HO.out, HF.out⟩

def RchB (A : Adr) (st : Bool) (sv : List Bool) (lt : Nat) (nt : Int) (mt : List Int) (lb : Nat) (nb : Int) (mb : List Int) (s : Int) (k : Nat) (W : World) (l : List Int) (e : Ending) (w' : World) : Prop :=
  e = .returned (.bool true) ∧ (∃ m', Pr A st sv lt nt mt l.length (nb + 1) m' s k w' ∧ Ph.Mk A.n l (nb + 1) m') ∧ Fa A W w'
set_option maxHeartbeats 4000000 in
theorem reach39B_no (H : Pr A st sv lt nt mt lb nb mb s k W) {a : Option Addr} {t c : Nat} (ht : t ≤ lb) :
    Calls Try.prog 39 #[.pointer (some ⟨A.pb, 5, none⟩), .slice a t c] W fun e w' => e = .returned (.bool false) ∧ w' = W := by
  have c2 := H.cells.2.2.2.2.2.1
  have hlt : (t : Int) ≤ lb := by omega
  clear H ht
  go_enter Try.func39, Try.ntmps39
  go_wp2
  go_ret
  exact ⟨rfl, rfl⟩
set_option maxHeartbeats 8000000 in
theorem reach39B (H : Pr A st sv lt nt mt lb nb mb s k W) {L : List Int} (hM : Ph.Mk A.n L nb mb) (hn : nb ≤ 4611686018427387904) {a : Option Addr} {c : Nat} {l : List Int} (h : Lw W a l) (hap : ∀ b off, a = some ⟨b, off, none⟩ → 0 < l.length → ¬ A.own b) (hl : l.length ≤ maxLen) (hm : Ph.may A.n l = true) (hlt : lb < l.length) :
    Calls Try.prog 39 #[.pointer (some ⟨A.pb, 5, none⟩), .slice a l.length c] W fun e w' => RchB A st sv lt nt mt lb nb mb s k W l e w' := by
  have c2 := H.cells.2.2.2.2.2.1
  have f2 := H.froz 5
  obtain ⟨H1, F1⟩ := H.setLB l.length
  have c3 := H1.cells.2.2.2.2.2.2.1
  have f3 := H1.froz 6
  obtain ⟨H2, F2⟩ := H1.setNB (nb + 1)
  obtain ⟨b, off, hab⟩ : ∃ b off, a = some ⟨b, off, none⟩ := by
    rcases h.shape with h | h
    · omega
    · exact h
  subst hab
  have HL := hid (fun (w : World) (hf : Fa A W w) (j : Nat) (hj : j < l.length) => (h.fq hf (fun b off e => hap b off e)).at hj)
  have HM := hid (fun (j : Nat) (hj : j < l.length) => Ph.may_mem hm hj)
  have H0 := hid (show ∃ m', Pr A st sv lt nt mt l.length (nb + 1) m' s k ((W.setCell ⟨A.pb, 5, none⟩ (.int .i64 (l.length : Int))).setCell ⟨A.pb, 6, none⟩ (.int .i64 (nb + 1))) ∧ Ph.Md A.n l 0 (nb + 1) m' from ⟨_, H2, Ph.Md.begin hM l⟩)
  have HF0 := hid (F1.trans F2)
  have hw : wrap64 (nb + 1) = nb + 1 := by have := hM.lo; unfold wrap64; omega
  have HMX := hid H.mx
  have HNB := hid (show 0 ≤ nb + 1 ∧ nb + 1 ≤ 4611686018427387905 by have := hM.lo; omega)
  obtain ⟨t, ht⟩ : ∃ t, l.length = t := ⟨_, rfl⟩
  have HT := hid ht
  have HTB := hid (show (t : Int) ≤ 9223372036854775807 by rw [ht] at hl; unfold maxLen at hl; omega)
  rw [ht] at hlt HL HM H0 HF0 c3 f3 ⊢
  have hge : ¬ (t : Int) ≤ lb := by omega
  clear H H1 H2 F1 F2 hM hn h hap hl hm hlt ht
  go_enter Try.func39, Try.ntmps39
  go_wp2_with (fail)
  go_loopw [28] (fun i wr => ∃ j : Nat, j ≤ t ∧ i = .int .i64 (j : Nat) ∧ Hid (∃ m', Pr A st sv lt nt mt t (nb + 1) m' s k wr ∧ Ph.Md A.n l j (nb + 1) m') ∧ Hid (Fa A W wr)) (fun i _ => t - (intOf i).toNat)
  case atStart => exact ⟨0, Nat.zero_le _, rfl, H0, HF0⟩
  case round =>
    obtain ⟨j, hj, rfl, HI, HF⟩ := hrel
    by_cases hlt : j < t
    · have hlt' : (j : Int) < t := by omega
      have hwk : wrap64 ((j : Int) + 1) = (j : Int) + 1 := by have := HTB.out; unfold wrap64; omega
      obtain ⟨x0, x1, x2⟩ := HL.out wr HF.out j hlt
      have hvr := HM.out j hlt
      obtain ⟨m', q1, q2⟩ := HI.out
      have q3 := q2.step (by rw [HT.out]; exact hlt) hvr
      have hbd : Below wr.heap.size wr wr.drew := (Below.refl _ _).drew
      have q1d := q1.below hbd
      have C36 := hid (variable36 (l.getD j 0) wr.drew x1 x2)
      have C50 := hid (markOf50B q1d (l.getD j 0) HNB.out)
      have hvn : Ph.vr (l.getD j 0) - 1 < A.n := by omega
      have d4 := q1.cells.2.2.2.2.2.2.2.1
      obtain ⟨y1, y2⟩ := q1.atB hvn
      obtain ⟨r1, r2⟩ := q1d.setB hvn (Ph.mark (nb + 1) (l.getD j 0))
      have HI2 := hid (show ∃ m', Pr A st sv lt nt mt t (nb + 1) m' s k (wr.setCell ⟨A.gb, Ph.vr (l.getD j 0) - 1, none⟩ (.int .i64 (Ph.mark (nb + 1) (l.getD j 0)))).drew ∧ Ph.Md A.n l (j + 1) (nb + 1) m' from ⟨_, r1, q3⟩)
      have HF2 := hid (show Fa A W (wr.setCell ⟨A.gb, Ph.vr (l.getD j 0) - 1, none⟩ (.int .i64 (Ph.mark (nb + 1) (l.getD j 0)))).drew from (HF.out.trans (Fq.of_below hbd)).trans r2)
      generalize Ph.mark (nb + 1) (l.getD j 0) = z at *
      generalize l.getD j 0 = x at *
      generalize Ph.vr x = v at *
      generalize m'.getD (v - 1) 0 = y at *
      obtain ⟨hv1, hv2⟩ := hvr
      have hvx : (v : Int) ≤ 1048576 := by have := HMX.out; omega
      have hvb : (v : Int) - 1 < A.n := by omega
      have hv1' : (1 : Int) ≤ (v : Int) := by omega
      have e1 : IntKind.i64.wrap ((v : Int) - 1) = (v : Int) - 1 := by rw [IntKind.wrap_i64]; omega
      obtain ⟨n', hn'⟩ : ∃ n', A.n = n' := ⟨_, rfl⟩
      rw [hn'] at d4 hvb
      clear hn'
      clear q1 q1d q2 q3 r1 r2 HI HF H0 HF0 c2 c3 f2 f3 hbd
      go_wp2_with (fail)
      refine wp_region_still_tail 11 (by kernel_rfl) (by kernel_rfl) ?_
      simp only [List.take_succ_cons, List.take_zero, List.drop_succ_cons, List.drop_zero]
      iterate 5 still_step
      still_call C36.out
      iterate 3 still_step
      still_call C50.out
      iterate 1 still_step
      refine wpStill_nil ?_
      go_wp2_with (fail)
      rw [hwk]
      exact ⟨⟨j + 1, hlt, rfl, HI2, HF2⟩, by simp only [intOf]; exact meas hlt⟩
    · have hge : ¬ (j : Int) < t := by omega
      have HO := hid (show ∃ m', Pr A st sv lt nt mt l.length (nb + 1) m' s k wr ∧ Ph.Mk A.n l (nb + 1) m' from by
        obtain ⟨m', q1, q2⟩ := HI.out
        rw [← HT.out] at q1
        exact ⟨m', q1, q2.done (by rw [HT.out]; omega)⟩)
      clear HI H0
      go_wp2
      go_ret
      exact ⟨rfl, HO.out, HF.out⟩
end
end Go.Proofs.Ytkodfojccodoaaa
