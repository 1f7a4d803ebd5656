/- The store's calls: Decide, Save, Reach. -/
import Derived.Test.YtkodfojccodoaaaRch
import Derived.Test.YtkodfojccodoaaaDrw
namespace Go.Proofs.Ytkodfojccodoaaa
open Go.RowKit Go.Maps
set_option linter.unusedVariables false
set_option maxRecDepth 100000

/-- Which turn of the schedule comes. -/
def nx (t : Nat) : Nat := if t < 8 then t else (t - 2) % 6 + 2
/-- The store in memory: K bounds its rows' numbers. -/
def Px (A : Adr) (P : Ph.St) (K : Int) (W : World) : Prop :=
  ∃ nt mt nb mb, Pr A P.st P.sv P.T.length nt mt P.B.length nb mb P.s (nx P.k) W ∧ Ph.Mk A.n P.T nt mt ∧ Ph.Mk A.n P.B nb mb ∧ nt ≤ K ∧ nb ≤ K ∧ K ≤ 4611686018427387904 ∧ Us P.s
section
variable {A : Adr} {P : Ph.St} {K : Int} {W : World}
theorem Px.below {W' : World} (H : Px A P K W) (h : Below W.heap.size W W') : Px A P K W' := by
  obtain ⟨nt, mt, nb, mb, h1, h2⟩ := H
  exact ⟨nt, mt, nb, mb, h1.below h, h2⟩
theorem Px.keep {W' : World} {Q : Nat → Prop} (H : Px A P K W) (hf : Fq Q W W') (hq : ∀ g, A.own g → Q g) : Px A P K W' := by
  obtain ⟨nt, mt, nb, mb, h1, h2⟩ := H
  exact ⟨nt, mt, nb, mb, h1.keep hf hq, h2⟩
theorem Px.mono {K' : Int} (H : Px A P K W) (h : K ≤ K') (h' : K' ≤ 4611686018427387904) : Px A P K' W := by
  obtain ⟨nt, mt, nb, mb, h1, h2, h3, h4, h5, h6, h7⟩ := H
  exact ⟨nt, mt, nb, mb, h1, h2, h3, by omega, by omega, h', h7⟩
theorem Px.len (H : Px A P K W) : P.sv.length = A.n := by obtain ⟨nt, mt, nb, mb, h1, h2⟩ := H; exact h1.ls
theorem Px.mx (H : Px A P K W) : A.n ≤ 1048576 := by obtain ⟨nt, mt, nb, mb, h1, h2⟩ := H; exact h1.mx
theorem mk_look {n : Nat} {L : List Int} {nm : Int} {mk : List Int} (h : Ph.Mk n L nm mk) {v : Nat} (h1 : 1 ≤ v) (h2 : v ≤ n) :
    MvOut nm (mk.getD (v - 1) 0) L.length = .tuple #[.bool ((Ph.lastV (v : Int) L).getD false), .bool (Ph.lastV (v : Int) L).isSome] := by
  have e : (if L.length = 0 then none else Ph.mval nm (mk.getD (v - 1) 0)) = Ph.lastV (v : Int) L := by
    by_cases h0 : L.length = 0
    · rw [if_pos h0, List.eq_nil_of_length_eq_zero h0]; rfl
    · rw [if_neg h0]
      have := h.val (fun e => h0 (by rw [e]; rfl)) (v - 1) (by omega)
      rw [this]
      congr 1
      omega
  unfold MvOut
  rw [e]
theorem decide20_no (H : Px A P K W) (v : Int) (hv : ¬ (1 ≤ v ∧ v ≤ A.n)) :
    Calls Try.prog 20 #[.pointer (some ⟨A.pb, 0, none⟩), .int .i64 v] W fun e w' => e = .returned (.tuple #[.bool false, .int .i64 2]) ∧ w' = W := by
  obtain ⟨nt, mt, nb, mb, h1, h2⟩ := H
  have C := hid (has37 h1 v)
  rw [decide_eq_false hv] at C
  clear h1 h2 hv
  go_enter Try.func20, Try.ntmps20
  go_wp2_with (go_at_call 37; refine C.out.mono ?_; rintro e w4 ⟨rfl, hw4⟩; rw [hw4]; clear hw4)
  go_ret2
  exact ⟨rfl, rfl⟩
set_option maxHeartbeats 4000000 in
theorem decide20 (H : Px A P K W) {v : Nat} (h1 : 1 ≤ v) (h2 : v ≤ A.n) :
    Calls Try.prog 20 #[.pointer (some ⟨A.pb, 0, none⟩), .int .i64 (v : Int)] W fun e w' => e = .returned (.tuple #[.bool (Ph.dec P v), .int .i64 0]) ∧ w' = W := by
  obtain ⟨nt, mt, nb, mb, q, hT, hB, k1, k2, k3, k4⟩ := H
  have C := hid (has37 q v)
  rw [decide_eq_true (show 1 ≤ (v : Int) ∧ (v : Int) ≤ (A.n : Int) by omega)] at C
  have C38 := hid (value38T q h1 h2 (by have := hT.lo; omega))
  rw [mk_look hT h1 h2] at C38
  have c1 := q.cells.2.1
  have x1 := (q.atS (u := v - 1) (by omega)).1
  have hmx := q.mx
  have hv1 : (1 : Int) ≤ v := by omega
  have hvb : (v : Int) - 1 < A.n := by omega
  have hd : Ph.dec P v = (Ph.lastV (v : Int) P.T).getD (P.sv.getD (v - 1) false) := rfl
  rw [hd]
  generalize Ph.lastV (v : Int) P.T = o at *
  generalize P.sv.getD (v - 1) false = y at *
  have hvx : (v : Int) ≤ 1048576 := by omega
  have hvw : wrap64 ((v : Int) - 1) = (v : Int) - 1 := by unfold wrap64; omega
  obtain ⟨n', hn'⟩ : ∃ n', A.n = n' := ⟨_, rfl⟩
  rw [hn'] at c1 hvb
  clear q hT hB k1 k2 k3 k4 hd hn' hmx
  cases o with
  | none =>
    go_enter Try.func20, Try.ntmps20
    go_wp2_with (first
      | (go_at_call 37; refine C.out.mono ?_; rintro e w4 ⟨rfl, hw4⟩; rw [hw4]; clear hw4)
      | (go_at_call 38; refine C38.out.mono ?_; rintro e w4 ⟨rfl, hw4⟩; rw [hw4]; clear hw4))
    go_ret2
    exact ⟨rfl, rfl⟩
  | some b =>
    go_enter Try.func20, Try.ntmps20
    go_wp2_with (first
      | (go_at_call 37; refine C.out.mono ?_; rintro e w4 ⟨rfl, hw4⟩; rw [hw4]; clear hw4)
      | (go_at_call 38; refine C38.out.mono ?_; rintro e w4 ⟨rfl, hw4⟩; rw [hw4]; clear hw4))
    go_ret2
    exact ⟨rfl, rfl⟩
theorem save19_no (H : Px A P K W) {a : Option Addr} {c : Nat} {l : List Int} (h : Lw W a l) (hl : l.length ≤ maxLen) (hm : Ph.may A.n l = false) :
    Calls Try.prog 19 #[.pointer (some ⟨A.pb, 0, none⟩), .slice a l.length c] W fun e w' => e = .returned (.int .i64 2) ∧ w' = W := by
  obtain ⟨nt, mt, nb, mb, q, _⟩ := H
  have C := hid (hasAll35 q (c := c) h hl)
  rw [hm] at C
  generalize l.length = t at *
  clear q h hl hm
  go_enter Try.func19, Try.ntmps19
  go_wp2_with (go_at_call 35; refine C.out.mono ?_; rintro e w4 ⟨rfl, hw4⟩; rw [hw4]; clear hw4)
  go_ret
  exact ⟨rfl, rfl⟩
set_option maxHeartbeats 4000000 in
theorem save19 (H : Px A P K W) {a : Option Addr} {c : Nat} {l : List Int} (h : Lw W a l) (hap : ∀ b off, a = some ⟨b, off, none⟩ → 0 < l.length → ¬ A.own b) (hl : l.length ≤ maxLen) (hm : Ph.may A.n l = true) :
    Calls Try.prog 19 #[.pointer (some ⟨A.pb, 0, none⟩), .slice a l.length c] W fun e w' => e = .returned (.int .i64 0) ∧ Px A (Ph.save P l) K w' ∧ Fa A W w' := by
  obtain ⟨nt, mt, nb, mb, q, hT, hB, k1, k2, k3, k4⟩ := H
  have C := hid (hasAll35 q (c := c) h hl)
  rw [hm] at C
  have hsh : Hid (l.length = 0) ∨ ∃ b off, a = some ⟨b, off, none⟩ := h.shape
  have HL := hid (fun (w : World) (hf : Fa A W w) (b off : Nat) (e : a = some ⟨b, off, none⟩) (j : Nat) (hj : j < l.length) => (e ▸ h.fq hf (fun b off e => hap b off e) : Lw w (some ⟨b, off, none⟩) l).at hj)
  have HM := hid (fun (j : Nat) (hj : j < l.length) => Ph.may_mem hm hj)
  have HS := hid (fun (j : Nat) (hj : j < l.length) => Ph.saves_take P.sv hj)
  have H0 := hid (show Pr A P.st (Ph.saves (l.take 0) P.sv) P.T.length nt mt P.B.length nb mb P.s (nx P.k) W from q)
  have HMX := hid q.mx
  have HF := hid (fun (w : World) (hq : Pr A P.st (Ph.saves l P.sv) P.T.length nt mt P.B.length nb mb P.s (nx P.k) w) => show Px A (Ph.save P l) K w from ⟨nt, mt, nb, mb, hq, hT, hB, k1, k2, k3, k4⟩)
  have HEND := hid (fun (j : Nat) (hj : l.length ≤ j) => List.take_of_length_le hj)
  obtain ⟨t, ht⟩ : ∃ t, l.length = t := ⟨_, rfl⟩
  have HTB := hid (show (t : Int) ≤ 9223372036854775807 by rw [ht] at hl; unfold maxLen at hl; omega)
  rw [ht] at C hsh HL HM HS HEND ⊢
  generalize P.T.length = lt at *
  generalize P.B.length = lb at *
  clear q hT hB k1 k2 k3 k4 h hap hl hm ht
  go_enter Try.func19, Try.ntmps19
  go_wp2_with (go_at_call 35; refine C.out.mono ?_; rintro e w4 ⟨rfl, hw4⟩; rw [hw4]; clear hw4)
  rcases hsh with Z | ⟨b, off, hab⟩
  case' inr => subst hab
  all_goals
    go_loopw [15] (fun i wr => ∃ j : Nat, j ≤ t ∧ i = .int .i64 (j : Nat) ∧ Hid (Pr A P.st (Ph.saves (l.take j) P.sv) lt nt mt lb nb mb P.s (nx P.k) wr) ∧ Hid (Fa A W wr)) (fun i _ => t - (intOf i).toNat)
    case atStart => exact ⟨0, Nat.zero_le _, rfl, H0, hid (Fq.refl _ _)⟩
    case round =>
      obtain ⟨j, hj, rfl, HI, HG⟩ := hrel
      by_cases hlt : j < t
      · first
          | (exfalso; have := Z.out; omega)
          | (have hlt' : (j : Int) < t := by omega
             have hwk : wrap64 ((j : Int) + 1) = (j : Int) + 1 := by have := HTB.out; unfold wrap64; omega
             obtain ⟨x0, x1, x2⟩ := HL.out wr HG.out b off rfl j hlt
             have hvr := HM.out j hlt
             have hsj := HS.out j hlt
             have hbd : Below wr.heap.size wr wr.drew := (Below.refl _ _).drew
             have C36 := hid (variable36 (l.getD j 0) wr.drew x1 x2)
             have hvn : Ph.vr (l.getD j 0) - 1 < A.n := by omega
             have d1 := HI.out.cells.2.1
             obtain ⟨y1, y2⟩ := HI.out.atS hvn
             obtain ⟨r1, r2⟩ := (HI.out.below hbd).setS hvn (decide (0 < l.getD j 0))
             rw [← hsj] at r1
             have HI2 := hid (show Pr A P.st (Ph.saves (l.take (j + 1)) P.sv) lt nt mt lb nb mb P.s (nx P.k) (wr.setCell ⟨A.gs, Ph.vr (l.getD j 0) - 1, none⟩ (.bool (decide (0 < l.getD j 0)))).drew from r1)
             have HG2 := hid (show Fa A W (wr.setCell ⟨A.gs, Ph.vr (l.getD j 0) - 1, none⟩ (.bool (decide (0 < l.getD j 0)))).drew from (HG.out.trans (Fq.of_below hbd)).trans r2)
             generalize (Ph.saves (l.take j) P.sv).getD (Ph.vr (l.getD j 0) - 1) false = y at *
             generalize l.getD j 0 = x at *
             generalize Ph.vr x = v at *
             obtain ⟨hv1, hv2⟩ := hvr
             have hvx : (v : Int) ≤ 1048576 := by have := HMX.out; omega
             have hvb : (v : Int) - 1 < A.n := by omega
             have hv1' : (1 : Int) ≤ (v : Int) := by omega
             obtain ⟨n', hn'⟩ : ∃ n', A.n = n' := ⟨_, rfl⟩
             rw [hn'] at d1 hvb
             clear hn' r1 r2 HI HG H0 hsj
             have e1 : IntKind.i64.wrap ((v : Int) - 1) = (v : Int) - 1 := by rw [IntKind.wrap_i64]; omega
             clear hbd
             go_wp2_with (fail)
             refine wp_region_still_tail 10 (by kernel_rfl) (by kernel_rfl) ?_
             simp only [List.take_succ_cons, List.take_zero, List.drop_succ_cons, List.drop_zero]
             iterate 5 still_step
             still_call C36.out
             iterate 4 still_step
             refine wpStill_nil ?_
             go_wp2_with (fail)
             rw [hwk]
             exact ⟨⟨j + 1, hlt, rfl, HI2, HG2⟩, by simp only [intOf]; exact meas hlt⟩)
      · have hge : ¬ (j : Int) < t := by omega
        have HO := hid (HF.out wr (by have := HI.out; rw [HEND.out j (by omega)] at this; exact this))
        clear HI H0
        go_wp2
        go_ret
        exact ⟨rfl, HO.out, HG.out⟩
end
end Go.Proofs.Ytkodfojccodoaaa
