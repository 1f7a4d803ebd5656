/- The document's Save. -/
import Derived.Test.YtkodfojccodoaaaDcV
namespace Go.Proofs.Ytkodfojccodoaaa
open Go.RowKit Go.Maps
set_option linter.unusedVariables false
set_option linter.unusedSimpArgs false
set_option maxRecDepth 100000
theorem Dm.len {D : Da} {P : Ph.St} {W : World} (H : Dm D P W) : P.sv.length = D.n := by have := H.vs.1; simpa [bls] using this
theorem Dm.setS {D : Da} {P : Ph.St} {W : World} (H : Dm D P W) {g c : Nat} (hv : D.v = .slice (some ⟨g, 0, none⟩) D.n c) (u : Nat) (x : Bool) :
    Dm D { P with sv := P.sv.set u x } (W.setCell ⟨g, u, none⟩ (.bool x)) ∧ Fd D W (W.setCell ⟨g, u, none⟩ (.bool x)) := by
  have hvs := H.vs
  have hap := H.apart
  rw [hv] at hvs hap
  obtain ⟨cu, hcu⟩ := own_hp hvs
  have hq : g ≠ D.qb := fun e => hap (by rw [← e]; rfl)
  refine ⟨⟨?_, ?_, own_keep H.ts (own_type H.ts hcu (by decide)).symm _, own_keep H.bs (own_type H.bs hcu (by decide)).symm _, H.rT, H.rB, H.mx, H.lt, H.lb⟩, Fq.set W _ (fun h => h.2 (by rw [hv]; rfl))⟩
  · rw [heap_other _ _ (Ne.symm hq)]; exact H.blk
  · have := own_setc hvs u (.bool x)
    rw [bls_set] at this
    rw [hv]
    exact this
def SavO (D : Da) (P : Ph.St) (l : List Int) (W : World) (e : Ending) (w' : World) : Prop :=
  e = .returned (.int .i64 (Ph.mE D.n l)) ∧ Dm D (Ph.sP D.n P l) w' ∧ Fd D W w'
set_option maxHeartbeats 4000000 in
theorem save29 {D : Da} {P : Ph.St} {W : World} (H : Dm D P W) {a : Option Addr} {c : Nat} {l : List Int} (h : Lw W a l) (hap : ∀ b off, a = some ⟨b, off, none⟩ → 0 < l.length → b ≠ D.qb ∧ some b ≠ D.v.ownBlock) (hl : l.length ≤ maxLen) :
    Calls Try.prog 29 #[.pointer (some ⟨D.qb, 0, none⟩), .slice a l.length c] W fun e w' => SavO D P l W e w' := by
  have C43 := hid (may43 H (c := c) h hl)
  cases hm : Ph.may D.n l
  · rw [hm] at C43
    have HO := hid (show SavO D P l W (.returned (.int .i64 2)) W from ⟨by simp [Ph.mE, hm], by simpa [Ph.sP, hm] using H, Fq.refl _ _⟩)
    generalize l.length = t at *
    clear H h hap hl hm
    go_enter Try.func29, Try.ntmps29
    go_wp2_with (go_at_call 43; refine C43.out.mono ?_; rintro e w4 ⟨rfl, hw4⟩; rw [hw4]; clear hw4)
    go_ret
    exact HO.out
  · rw [hm] at C43
    have HF := hid (fun (w : World) (q : Dm D { P with sv := Ph.saves l P.sv } w) (f : Fd D W w) => show SavO D P l W (.returned (.int .i64 0)) w from ⟨by simp [Ph.mE, hm], by rw [show Ph.sP D.n P l = Ph.save P l from by simp [Ph.sP, hm]]; exact q, f⟩)
    have hsh : Hid (l.length = 0) ∨ ∃ b off, a = some ⟨b, off, none⟩ := h.shape
    have HL := hid (fun (w : World) (hf : Fd D W w) (b off : Nat) (e : a = some ⟨b, off, none⟩) (j : Nat) (hj : j < l.length) => (e ▸ h.fq hf (fun b off e hp => hap b off e hp) : Lw w (some ⟨b, off, none⟩) l).at hj)
    have HM := hid (fun (j : Nat) (hj : j < l.length) => Ph.may_mem hm hj)
    have HS := hid (fun (j : Nat) (hj : j < l.length) => Ph.saves_take P.sv hj)
    have H0 := hid (show Dm D { P with sv := Ph.saves (l.take 0) P.sv } W from H)
    have HMX := hid H.mx
    have HEND := hid (fun (j : Nat) (hj : l.length ≤ j) => List.take_of_length_le hj)
    obtain ⟨o, cv, hv⟩ := H.val
    have HV := hid hv
    have hso : Hid (D.n = 0) ∨ ∃ g, o = some ⟨g, 0, none⟩ := by
      rcases Nat.eq_zero_or_pos D.n with h0 | h0
      · exact .inl h0
      · have hs := H.vs
        rw [hv] at hs
        obtain ⟨g, c', cur, e, _⟩ := own_some hs h0
        cases e
        exact .inr ⟨g, rfl⟩
    obtain ⟨t, ht⟩ : ∃ t, l.length = t := ⟨_, rfl⟩
    have HTB := hid (show (t : Int) ≤ 9223372036854775807 by rw [ht] at hl; unfold maxLen at hl; omega)
    rw [ht] at C43 hsh HL HM HS HEND ⊢
    have HNN := hid (fun (j : Nat) (hj : j < t) => show D.n ≠ 0 from by have := HM.out j hj; omega)
    clear H h hap hl hm ht hv
    go_enter Try.func29, Try.ntmps29
    go_wp2_with (go_at_call 43; refine C43.out.mono ?_; rintro e w4 ⟨rfl, hw4⟩; rw [hw4]; clear hw4)
    rcases hsh with Z | ⟨b, off, hab⟩
    case' inr => subst hab
    all_goals
      go_loopw [5] (fun i wr => ∃ j : Nat, j ≤ t ∧ i = .int .i64 (j : Nat) ∧ Hid (Dm D { P with sv := Ph.saves (l.take j) P.sv } wr) ∧ Hid (Fd D W wr)) (fun i _ => t - (intOf i).toNat)
      case atStart => exact ⟨0, Nat.zero_le _, rfl, H0, hid (Fq.refl _ _)⟩
      case round =>
        obtain ⟨j, hj, rfl, HI, HG⟩ := hrel
        by_cases hlt : j < t
        · first
            | (exfalso; have := Z.out; omega)
            | (rcases hso with Zo | ⟨g, hog⟩
               · exact absurd Zo.out (HNN.out j hlt)
               · subst hog
                 have hlt' : (j : Int) < t := by omega
                 have hwk : wrap64 ((j : Int) + 1) = (j : Int) + 1 := by have := HTB.out; unfold wrap64; omega
                 obtain ⟨x0, x1, x2⟩ := HL.out wr HG.out b off rfl j hlt
                 have hvr := HM.out j hlt
                 have hsj := HS.out j hlt
                 have hvs := HI.out.vs
                 have hlen := HI.out.len
                 rw [HV.out] at hvs
                 have d0 : wr.cell? ⟨D.qb, 0, none⟩ = some (.slice (some ⟨g, 0, none⟩) D.n cv) := by rw [← HV.out]; exact row_cell HI.out.blk 0
                 have hvn : Ph.vr (l.getD j 0) - 1 < D.n := by omega
                 obtain ⟨y1, y2⟩ := own_cell hvs hvn
                 rw [bls_at (by rw [hlen]; exact hvn)] at y1
                 have hbd : Below wr.heap.size wr wr.drew := (Below.refl _ _).drew
                 obtain ⟨r1, r2⟩ := (HI.out.below hbd).setS HV.out (Ph.vr (l.getD j 0) - 1) (decide (0 < l.getD j 0))
                 simp only [] at r1
                 rw [← hsj] at r1
                 have HI2 := hid (show Dm D { P with sv := Ph.saves (l.take (j + 1)) P.sv } (wr.setCell ⟨g, Ph.vr (l.getD j 0) - 1, none⟩ (.bool (decide (0 < l.getD j 0)))).drew from r1)
                 have HG2 := hid (show Fd D W (wr.setCell ⟨g, Ph.vr (l.getD j 0) - 1, none⟩ (.bool (decide (0 < l.getD j 0)))).drew from (HG.out.trans (Fq.of_below hbd)).trans r2)
                 have hmx := HMX.out
                 clear hbd r1 r2 HI HG H0 hsj hvs hlen
                 generalize (Ph.saves (l.take j) P.sv).getD (Ph.vr (l.getD j 0) - 1) false = y at *
                 generalize l.getD j 0 = x at *
                 obtain ⟨n', hn'⟩ : ∃ n', D.n = n' := ⟨_, rfl⟩
                 rw [hn'] at d0 hvn hvr hmx
                 by_cases hx : 0 < x
                 · have e1 : ((Ph.vr x : Nat) : Int) = x := by have := Ph.vr_int x; omega
                   have hi1 : IntKind.i32.wrap (x - 1) = x - 1 := i32w (by omega) (by omega)
                   have hnt : (x - 1).toNat = Ph.vr x - 1 := by omega
                   have hge : 0 ≤ x - 1 := by omega
                   have hge1 : 1 ≤ x := by omega
                   have hbb : x - 1 < (n' : Int) := by omega
                   rw [decide_eq_true hx] at HI2 HG2
                   generalize Ph.vr x = v at *
                   clear hvr hmx hvn hn'
                   go_wp2_with (fail)
                   go_region
                   all_goals
                     go_wp2_with (fail)
                     first
                       | exact ⟨⟨j + 1, hlt, rfl, HI2, HG2⟩, by simp only [intOf]; exact meas hlt⟩
                       | (rw [hwk]; exact ⟨⟨j + 1, hlt, rfl, HI2, HG2⟩, by simp only [intOf]; exact meas hlt⟩)
                 · have e1 : ((Ph.vr x : Nat) : Int) = -x := by have := Ph.vr_int x; omega
                   have hi0 : IntKind.i32.wrap (-x) = -x := i32w (by omega) (by omega)
                   have hi1 : IntKind.i32.wrap (-x - 1) = -x - 1 := i32w (by omega) (by omega)
                   have hnt : (-x - 1).toNat = Ph.vr x - 1 := by omega
                   have hge : 0 ≤ -x - 1 := by omega
                   have hge1 : 1 ≤ -x := by omega
                   have hbb : -x - 1 < (n' : Int) := by omega
                   rw [decide_eq_false hx] at HI2 HG2
                   generalize Ph.vr x = v at *
                   clear hvr hmx hvn hn'
                   go_wp2_with (fail)
                   go_region
                   all_goals
                     go_wp2_with (fail)
                     first
                       | exact ⟨⟨j + 1, hlt, rfl, HI2, HG2⟩, by simp only [intOf]; exact meas hlt⟩
                       | (rw [hwk]; exact ⟨⟨j + 1, hlt, rfl, HI2, HG2⟩, by simp only [intOf]; exact meas hlt⟩))
        · have hge : ¬ (j : Int) < t := by omega
          have HO := hid (HF.out wr (by have := HI.out; rw [HEND.out j (by omega)] at this; exact this) HG.out)
          clear HI H0
          go_wp2
          go_ret
          exact HO.out
end Go.Proofs.Ytkodfojccodoaaa
