/- The document's may, Kind, Draw. -/
import Derived.Test.YtkodfojccodoaaaDcM
import Derived.Test.YtkodfojccodoaaaTrx
namespace Go.Proofs.Ytkodfojccodoaaa
open Go.RowKit Go.Maps
set_option linter.unusedVariables false
set_option linter.unusedSimpArgs false
set_option maxRecDepth 100000
/-- Nothing is turned but the document's block and its values. -/
abbrev Fd (D : Da) (W W' : World) : Prop := Fq (fun g => g ≠ D.qb ∧ some g ≠ D.v.ownBlock) W W'
theorem Dm.apart {D : Da} {P : Ph.St} {W : World} (H : Dm D P W) : some D.qb ≠ D.v.ownBlock := own_type H.vs H.blk (by decide)
theorem Dm.setD {D : Da} {P : Ph.St} {W : World} (H : Dm D P W) (x : Int) :
    Dm D { P with s := x } (W.setCell ⟨D.qb, 6, none⟩ (.int .u64 x)) ∧ Fd D W (W.setCell ⟨D.qb, 6, none⟩ (.int .u64 x)) := by
  refine ⟨⟨?_, own_keep H.vs (fun e => H.apart e.symm) _, own_keep H.ts (own_type H.ts H.blk (by decide)).symm _, own_keep H.bs (own_type H.bs H.blk (by decide)).symm _, H.rT, H.rB, H.mx, H.lt, H.lb⟩, Fq.set W _ (fun h => h.1 rfl)⟩
  rw [heap_set_row H.blk]; rfl
set_option maxHeartbeats 4000000 in
theorem draw32 {D : Da} {P : Ph.St} {W : World} (H : Dm D P W) (hs : 0 ≤ P.s ∧ P.s < 18446744073709551616) :
    Calls Try.prog 32 #[.pointer (some ⟨D.qb, 0, none⟩)] W fun e w' => e = .returned (.int .u64 (drw P.s)) ∧ Dm D { P with s := drw P.s } w' ∧ Fd D W w' := by
  have c6 : W.cell? ⟨D.qb, 6, none⟩ = some (.int .u64 P.s) := row_cell H.blk 6
  have f6 := row_frozen H.blk 6
  have HO := hid (H.setD (drw P.s))
  obtain ⟨s, hs0⟩ : ∃ s, P.s = s := ⟨_, rfl⟩
  obtain ⟨s1, h1⟩ : ∃ s1, dr1 s = s1 := ⟨_, rfl⟩
  obtain ⟨s2, h2⟩ : ∃ s2, dr2 s1 = s2 := ⟨_, rfl⟩
  obtain ⟨s3, h3⟩ : ∃ s3, dr3 s2 = s3 := ⟨_, rfl⟩
  have hd : drw s = s3 := by unfold drw; rw [h1, h2, h3]
  have e1 : bits BinOp.xor IntKind.u64 s (IntKind.u64.wrap (s * 8192)) = s1 := h1
  have e2 : bits BinOp.xor IntKind.u64 s1 (s1 / 128) = s2 := h2
  have e3 : bits BinOp.xor IntKind.u64 s2 (IntKind.u64.wrap (s2 * 131072)) = s3 := h3
  have d6 := row_cell (HO.out.1.blk) 6
  rw [hs0, hd] at HO
  rw [hs0, hd]
  rw [hs0] at c6
  clear H h1 h2 h3 hd hs d6 hs0
  go_enter Try.func32, Try.ntmps32
  go_wp2_with (fail)
  go_ret
  exact ⟨rfl, HO.out⟩
theorem inR_or (n : Nat) (x : Int) : (Ph.inR n x || Ph.inR n (-x)) = (decide (1 ≤ Ph.vr x) && decide (Ph.vr x ≤ n)) := by
  unfold Ph.inR Ph.vr
  by_cases h : 1 ≤ x.natAbs ∧ x.natAbs ≤ n
  · rw [decide_eq_true h.1, decide_eq_true h.2]
    by_cases hx : 0 < x
    · rw [decide_eq_true (show 1 ≤ x ∧ x ≤ (n : Int) by omega)]; rfl
    · rw [decide_eq_true (show 1 ≤ -x ∧ -x ≤ (n : Int) by omega)]; simp
  · rw [decide_eq_false (show ¬ (1 ≤ x ∧ x ≤ (n : Int)) by omega), decide_eq_false (show ¬ (1 ≤ -x ∧ -x ≤ (n : Int)) by omega)]
    rcases Nat.lt_or_ge n x.natAbs with h2 | h2
    · rw [decide_eq_false (show ¬ x.natAbs ≤ n by omega)]; simp
    · rw [decide_eq_false (show ¬ 1 ≤ x.natAbs by omega)]; simp
set_option maxHeartbeats 4000000 in
theorem may43 {D : Da} {P : Ph.St} {W : World} (H : Dm D P W) {a : Option Addr} {c : Nat} {l : List Int} (h : Lw W a l) (hl : l.length ≤ maxLen) :
    Calls Try.prog 43 #[.pointer (some ⟨D.qb, 0, none⟩), .slice a l.length c] W fun e w' => e = .returned (.bool (Ph.may D.n l)) ∧ w' = W := by
  have C41 := hid (fun v => is41 H v)
  have hsh : Hid (l.length = 0) ∨ ∃ b off, a = some ⟨b, off, none⟩ := h.shape
  have HL := hid (fun (b off : Nat) (e : a = some ⟨b, off, none⟩) (j : Nat) (hj : j < l.length) => (e ▸ h : Lw W (some ⟨b, off, none⟩) l).at hj)
  have HN := hid (fun (j : Nat) (hj : j < l.length) => Ph.may_no (n := D.n) hj)
  have HA := hid (fun hh => Ph.may_all (n := D.n) (l := l) hh)
  obtain ⟨t, ht⟩ : ∃ t, l.length = t := ⟨_, rfl⟩
  have HT := hid ht
  have HTB := hid (show (t : Int) ≤ 9223372036854775807 by rw [ht] at hl; unfold maxLen at hl; omega)
  rw [ht] at hsh HL HN HA ⊢
  obtain ⟨B, hB⟩ : ∃ B, Ph.may D.n l = B := ⟨_, rfl⟩
  rw [hB] at HN HA ⊢
  clear H h hl ht hB
  go_enter Try.func43, Try.ntmps43
  go_wp2_with (fail)
  rcases hsh with Z | ⟨b, off, hab⟩
  case' inr => subst hab
  all_goals
    go_loopw [5] (fun i wr => ∃ k : Nat, k ≤ t ∧ i = .int .i64 (k : Nat) ∧ Hid (∀ j, j < k → 1 ≤ Ph.vr (l.getD j 0) ∧ Ph.vr (l.getD j 0) ≤ D.n) ∧ Hid (wr = W)) (fun i _ => t - (intOf i).toNat)
    case atStart => exact ⟨0, Nat.zero_le _, rfl, hid (fun j hj => by omega), hid rfl⟩
    case round =>
      obtain ⟨k, hk, rfl, HI, HW⟩ := hrel
      rw [HW.out]
      clear HW
      by_cases hlt : k < t
      · first
          | (exfalso; have := Z.out; omega)
          | (have hlt' : (k : Int) < t := by omega
             have hwk : wrap64 ((k : Int) + 1) = (k : Int) + 1 := by have := HTB.out; unfold wrap64; omega
             obtain ⟨x0, x1, x2⟩ := HL.out b off rfl k hlt
             have HNk := hid (HN.out k hlt)
             have HI2 := hid (fun (hv : 1 ≤ Ph.vr (l.getD k 0) ∧ Ph.vr (l.getD k 0) ≤ D.n) => show ∀ j, j < k + 1 → 1 ≤ Ph.vr (l.getD j 0) ∧ Ph.vr (l.getD j 0) ≤ D.n from fun j hj => by
               by_cases e : j = k
               · rw [e]; exact hv
               · exact HI.out j (by omega))
             have hor := inR_or D.n (l.getD k 0)
             generalize l.getD k 0 = x at *
             have hw1 : wrap64 x = x := by unfold wrap64; omega
             have hw2 : wrap64 (-x) = -x := by unfold wrap64; omega
             have CX := hid (C41.out x)
             have CY := hid (C41.out (-x))
             cases h1 : Ph.inR D.n x
             · cases h2 : Ph.inR D.n (-x)
               · rw [h1] at CX
                 rw [h2] at CY
                 have HF := hid (HNk.out (fun hv => by rw [h1, h2, decide_eq_true hv.1, decide_eq_true hv.2] at hor; cases hor))
                 clear HI2 HNk HI hor h1 h2
                 go_wp2_with (fail)
                 go_at_call 41
                 refine CX.out.mono ?_
                 rintro e w4 ⟨rfl, hw4⟩
                 rw [hw4]
                 clear hw4 CX
                 go_wp2_with (fail)
                 go_at_call 41
                 refine CY.out.mono ?_
                 rintro e w4 ⟨rfl, hw4⟩
                 rw [hw4]
                 clear hw4 CY
                 go_wp2_with (fail)
                 go_ret
                 exact ⟨by rw [HF.out]; rfl, rfl⟩
               · rw [h1] at CX
                 rw [h2] at CY
                 have HI3 := hid (HI2.out (by rw [h1, h2] at hor; simpa using hor.symm))
                 clear HI2 HNk HI hor h1 h2
                 go_wp2_with (fail)
                 go_at_call 41
                 refine CX.out.mono ?_
                 rintro e w4 ⟨rfl, hw4⟩
                 rw [hw4]
                 clear hw4 CX
                 go_wp2_with (fail)
                 go_at_call 41
                 refine CY.out.mono ?_
                 rintro e w4 ⟨rfl, hw4⟩
                 rw [hw4]
                 clear hw4 CY
                 go_wp2_with (fail)
                 first
                   | exact ⟨⟨k + 1, hlt, rfl, HI3, by first | exact hid rfl | exact hid trivial⟩, by simp only [intOf]; exact meas hlt⟩
                   | (rw [hwk]; exact ⟨⟨k + 1, hlt, rfl, HI3, by first | exact hid rfl | exact hid trivial⟩, by simp only [intOf]; exact meas hlt⟩)
             · rw [h1] at CX
               have HI3 := hid (HI2.out (by rw [h1] at hor; simpa using hor.symm))
               clear HI2 HNk HI hor h1 CY
               go_wp2_with (fail)
               go_at_call 41
               refine CX.out.mono ?_
               rintro e w4 ⟨rfl, hw4⟩
               rw [hw4]
               clear hw4 CX
               go_wp2_with (fail)
               first
                 | exact ⟨⟨k + 1, hlt, rfl, HI3, by first | exact hid rfl | exact hid trivial⟩, by simp only [intOf]; exact meas hlt⟩
                 | (rw [hwk]; exact ⟨⟨k + 1, hlt, rfl, HI3, by first | exact hid rfl | exact hid trivial⟩, by simp only [intOf]; exact meas hlt⟩))
      · have hge : ¬ (k : Int) < t := by omega
        have HF := hid (HA.out (fun j hj => HI.out j (by omega)))
        clear HI HA HN
        go_wp2
        go_ret
        exact ⟨by rw [HF.out]; rfl, rfl⟩
end Go.Proofs.Ytkodfojccodoaaa
