/- Reach. -/
import Derived.Test.YtkodfojccodoaaaCal
namespace Go.Proofs.Ytkodfojccodoaaa
open Go.RowKit Go.Maps
set_option linter.unusedVariables false
set_option linter.unusedSimpArgs false
set_option maxRecDepth 100000
section
variable {A : Adr} {P : Ph.St} {K : Int} {W : World}
def ReaT (A : Adr) (P : Ph.St) (K : Int) (l : List Int) (W : World) (e : Ending) (w' : World) : Prop :=
  e = .returned (.bool (decide (P.T.length < l.length))) ∧ Px A { P with T := if P.T.length < l.length then l else P.T } (K + 1) w' ∧ Fa A W w'
def ReaB (A : Adr) (P : Ph.St) (K : Int) (l : List Int) (W : World) (e : Ending) (w' : World) : Prop :=
  e = .returned (.bool (decide (P.B.length < l.length))) ∧ Px A { P with B := if P.B.length < l.length then l else P.B } (K + 1) w' ∧ Fa A W w'
theorem reaT (H : Px A P K W) (hK : K + 2 ≤ 4611686018427387904) {a : Option Addr} {c : Nat} {l : List Int} (h : Lw W a l) (hap : ∀ b off, a = some ⟨b, off, none⟩ → 0 < l.length → ¬ A.own b) (hl : l.length ≤ maxLen) (hm : Ph.may A.n l = true) :
    Calls Try.prog 39 #[.pointer (some ⟨A.pb, 2, none⟩), .slice a l.length c] W fun e w' => ReaT A P K l W e w' := by
  obtain ⟨nt, mt, nb, mb, q, hT, hB, k1, k2, k3, k4⟩ := H
  by_cases hlt : P.T.length < l.length
  · refine (reach39T q hT (by omega) (c := c) h hap hl hm hlt).mono ?_
    rintro e w' ⟨rfl, ⟨m', q1, q2⟩, q3⟩
    exact ⟨by rw [decide_eq_true hlt], ⟨nt + 1, m', nb, mb, by rw [if_pos hlt]; exact q1, by rw [if_pos hlt]; exact q2, hB, by omega, by omega, by omega, k4⟩, q3⟩
  · refine (reach39T_no q (a := a) (c := c) (t := l.length) (by omega)).mono ?_
    rintro e w' ⟨rfl, rfl⟩
    exact ⟨by rw [decide_eq_false hlt], ⟨nt, mt, nb, mb, by rw [if_neg hlt]; exact q, by rw [if_neg hlt]; exact hT, hB, by omega, by omega, by omega, k4⟩, Fq.refl _ _⟩
theorem reaB (H : Px A P K W) (hK : K + 2 ≤ 4611686018427387904) {a : Option Addr} {c : Nat} {l : List Int} (h : Lw W a l) (hap : ∀ b off, a = some ⟨b, off, none⟩ → 0 < l.length → ¬ A.own b) (hl : l.length ≤ maxLen) (hm : Ph.may A.n l = true) :
    Calls Try.prog 39 #[.pointer (some ⟨A.pb, 5, none⟩), .slice a l.length c] W fun e w' => ReaB A P K l W e w' := by
  obtain ⟨nt, mt, nb, mb, q, hT, hB, k1, k2, k3, k4⟩ := H
  by_cases hlt : P.B.length < l.length
  · refine (reach39B q hB (by omega) (c := c) h hap hl hm hlt).mono ?_
    rintro e w' ⟨rfl, ⟨m', q1, q2⟩, q3⟩
    exact ⟨by rw [decide_eq_true hlt], ⟨nt, mt, nb + 1, m', by rw [if_pos hlt]; exact q1, hT, by rw [if_pos hlt]; exact q2, by omega, by omega, by omega, k4⟩, q3⟩
  · refine (reach39B_no q (a := a) (c := c) (t := l.length) (by omega)).mono ?_
    rintro e w' ⟨rfl, rfl⟩
    exact ⟨by rw [decide_eq_false hlt], ⟨nt, mt, nb, mb, by rw [if_neg hlt]; exact q, hT, by rw [if_neg hlt]; exact hB, by omega, by omega, by omega, k4⟩, Fq.refl _ _⟩
theorem reach21_no (H : Px A P K W) {a : Option Addr} {c : Nat} {l : List Int} (h : Lw W a l) (hl : l.length ≤ maxLen) (hm : Ph.may A.n l = false) :
    Calls Try.prog 21 #[.pointer (some ⟨A.pb, 0, none⟩), .slice a l.length c] W fun e w' => e = .returned (.tuple #[.bool false, .bool false, .int .i64 2]) ∧ w' = W := by
  obtain ⟨nt, mt, nb, mb, q, _⟩ := H
  have C := hid (hasAll35 q (c := c) h hl)
  rw [hm] at C
  generalize l.length = t at *
  clear q h hl hm
  go_enter Try.func21, Try.ntmps21
  go_wp2_with (go_at_call 35; refine C.out.mono ?_; rintro e w4 ⟨rfl, hw4⟩; rw [hw4]; clear hw4)
  refine bodyPost_ret (results_tmp3 rfl _ _ _) rfl ?_
  exact ⟨rfl, rfl⟩
def ReaOut (A : Adr) (P : Ph.St) (K : Int) (l : List Int) (W : World) (e : Ending) (w' : World) : Prop :=
  e = .returned (.tuple #[.bool (decide (P.T.length < l.length)), .bool (decide (P.B.length < l.length)), .int .i64 0]) ∧ Px A (Ph.reach P l) (K + 2) w' ∧ Fa A W w'
set_option maxHeartbeats 4000000 in
theorem reach21 (H : Px A P K W) (hK : K + 3 ≤ 4611686018427387904) {a : Option Addr} {c : Nat} {l : List Int} (h : Lw W a l) (hap : ∀ b off, a = some ⟨b, off, none⟩ → 0 < l.length → ¬ A.own b) (hl : l.length ≤ maxLen) (hm : Ph.may A.n l = true) :
    Calls Try.prog 21 #[.pointer (some ⟨A.pb, 0, none⟩), .slice a l.length c] W fun e w' => ReaOut A P K l W e w' := by
  have C := hid (show Calls Try.prog 35 #[.pointer (some ⟨A.pb, 0, none⟩), .slice a l.length c] W fun e w' => e = .returned (.bool (Ph.may A.n l)) ∧ w' = W from by
    obtain ⟨nt, mt, nb, mb, q, _⟩ := H
    exact hasAll35 q (c := c) h hl)
  rw [hm] at C
  have hbd : Below W.heap.size W W.drew := (Below.refl _ _).drew
  have HD := hid (Fq.of_below (Q := fun g => ¬ A.own g) hbd)
  have HE : ReaOut A P K l W = fun e w' => e = .returned (.tuple #[.bool (decide (P.T.length < l.length)), .bool (decide (P.B.length < l.length)), .int .i64 0]) ∧ Px A (Ph.reach P l) (K + 2) w' ∧ Fa A W w' := rfl
  rw [show (fun e w' => ReaOut A P K l W e w') = ReaOut A P K l W from rfl, HE]
  obtain ⟨P1, P2, d1, d2, C1, C2, h1, h2, h3⟩ : ∃ (P1 P2 : Ph.St) (d1 d2 : Bool),
      Hid (Calls Try.prog 39 #[.pointer (some ⟨A.pb, 2, none⟩), .slice a l.length c] W.drew fun e w' => e = .returned (.bool d1) ∧ Px A P1 (K + 1) w' ∧ Fa A W.drew w')
      ∧ Hid (∀ X, Px A P1 (K + 1) X → Fa A W X → Calls Try.prog 39 #[.pointer (some ⟨A.pb, 5, none⟩), .slice a l.length c] X fun e w' => e = .returned (.bool d2) ∧ Px A P2 (K + 2) w' ∧ Fa A X w')
      ∧ decide (P.T.length < l.length) = d1 ∧ decide (P.B.length < l.length) = d2 ∧ Ph.reach P l = P2 := by
    refine ⟨_, _, _, _, hid (reaT (H.below hbd) (by omega) (c := c) (h.all hbd) hap hl hm), hid (fun X q f => ?_), rfl, rfl, rfl⟩
    refine (reaB q (by omega) (c := c) (h.fq f (fun b off e => hap b off e)) hap hl hm).mono ?_
    rintro e w' ⟨e1, e2, e3⟩
    rw [show K + 1 + 1 = K + 2 by omega] at e2
    exact ⟨e1, e2, e3⟩
  rw [h1, h2, h3]
  clear h1 h2 h3 HE
  generalize l.length = t at *
  clear H h hap hl hm hbd hK
  go_enter Try.func21, Try.ntmps21
  go_wp2_with (go_at_call 35; refine C.out.mono ?_; rintro e w4 ⟨rfl, hw4⟩; rw [hw4]; clear hw4)
  go_region_held3 (fun X => Fa A W X) (first | exact HD.out | exact F1 | exact F2)
    (first
      | (go_at_call 39; refine C1.out.mono ?_; rintro e w1 ⟨rfl, q1, f1⟩; have F1 := HD.out.trans f1; clear C1)
      | (go_at_call 39; refine (C2.out _ q1 F1).mono ?_; rintro e w2 ⟨rfl, q2, f2⟩; have F2 := F1.trans f2; clear C2))
  all_goals
    have HO2 := hid q2
    have HF := hid F2
    clear q1 q2 f1 f2 F1 F2
    go_wp2_with (fail)
    refine bodyPost_ret (results_tmp3 rfl _ _ _) rfl ?_
    exact ⟨rfl, HO2.out, HF.out⟩
end
end Go.Proofs.Ytkodfojccodoaaa
