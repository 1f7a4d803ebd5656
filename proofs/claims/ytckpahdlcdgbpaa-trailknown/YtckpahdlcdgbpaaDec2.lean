/- Decide, Assign: the calls. -/
import Derived.Test.YtckpahdlcdgbpaaDec
namespace Go.Proofs.Ytckpahdlcdgbpaa
open Go.RowKit Go.Maps
set_option linter.unusedVariables false
set_option maxRecDepth 100000

theorem step_append_run {P : Program} {w w' : World} {ops : Array Oper} {o : Oper} {a : Act} {K : Act → World → Prop} {Q : Exit → Act → World → Prop} {E : Prop} (hgd : o.guard = none) (s x : Operand) (t u : TypeId)
    (ho : o.op = .call { callee := .builtin .append, args := #[s, x], argTypes := #[t, u] }) {v xv v' : Value} (hs : a.eval s = v) (hx : a.eval x = xv)
    (hrun : (Builtin.append_ #[t, u] o.type #[v, xv]).run P w = .ok v' w') (h : K (a.put o.dst v') w') :
    if Region.wanted o (yielded ops a.tmps) = true then Oper.wp P o a w K Q else E := by
  have hw : Region.wanted o (yielded ops a.tmps) = true := by simp [Region.wanted, hgd]
  rw [if_pos hw]
  unfold Oper.wp
  simp [execOp, ho, resolve, invoke, builtin, hs, hx, hrun, Result.andThen]
  exact h
theorem ne_dec {n : Nat} {s : Trl.S} {l : Int} (h : Trl.wrongE n s.R l (-1) ≠ 0) : Trl.dec n s l = s := by unfold Trl.dec; rw [if_neg h]
theorem ne_asg {n : Nat} {s : Trl.S} {l r : Int} (h : Trl.wrongE n s.R l r ≠ 0) : Trl.asg n s l r = s := by unfold Trl.asg; rw [if_neg h]
theorem PutOut.trx {Q : Nat → Prop} {tb gv : Nat} {bv : Value} {n : Nat} {s : Trl.S} {l r : Int} {v : Nat} {W w' : World} (h : PutOut Q tb gv bv n (fun u => if u = v then ⟨l, s.B.length, r, s.R.length⟩ else Trl.know s.R ((u : Nat) + 1)) (s.R ++ [⟨l, s.B.length, r⟩]) s.B s.h W w') (hv : Trl.vr l = (v : Int) + 1) (hx : Trl.idx s.R (Trl.vr l) = none) (hok : Trl.Ok n (Trl.put s l r)) : Did Q tb n W (Trl.put s l r) w' := by
  obtain ⟨lv', hT, hF⟩ := h
  refine ⟨⟨gv, lv', bv, ?_, hok⟩, hF⟩
  have he : ∀ u : Nat, (if u = v then ⟨l, s.B.length, r, s.R.length⟩ else Trl.know s.R ((u : Nat) + 1)) = Trl.know (s.R ++ [⟨l, s.B.length, r⟩]) ((u : Nat) + 1) := fun u => by
    rw [Trl.know_snoc (e := ⟨l, s.B.length, r⟩) (Trl.idx_none hx)]
    by_cases e : u = v
    · rw [if_pos e, if_pos (by show ((u : Nat) : Int) + 1 = Trl.vr l; rw [hv, e])]
    · rw [if_neg e, if_neg (by show ¬ ((u : Nat) : Int) + 1 = Trl.vr l; rw [hv]; omega)]
  obtain ⟨cur, q1, q2⟩ := hT.var
  exact ⟨hT.lt, hT.nt, hT.nv, hT.nl, hT.nb, hT.blk, ⟨cur, q1, q2.congr (fun u _ => he u)⟩, hT.lits, hT.begs⟩
set_option maxHeartbeats 4000000 in
theorem assign18 {Q : Nat → Prop} {tb n : Nat} {s : Trl.S} {W : World} (H : Trx Q tb n s W) (l r : Int) (hl : I32 l) (hr : I64 r) :
    Calls Try.prog 18 #[.pointer (some ⟨tb, 0, none⟩), .int .i32 l, .int .i64 r] W fun e w' => e = .returned (.int .i64 (Trl.wrongE n s.R l r)) ∧ Did Q tb n W (Trl.asg n s l r) w' := by
  have C := hid (wrong43 H l r hl)
  by_cases he : Trl.wrongE n s.R l r = 0
  · obtain ⟨h1, h2, h3, h4⟩ := Trl.wrong_ok he
    have HA := hid (show Trl.asg n s l r = Trl.put s l r by unfold Trl.asg; rw [if_pos he])
    obtain ⟨gv, lv, bv, hT, hok⟩ := H
    obtain ⟨v, hv⟩ : ∃ v : Nat, Trl.vr l = (v : Int) + 1 := ⟨(Trl.vr l - 1).toNat, by omega⟩
    have hlen := hok.len
    have hn := hok.n
    have CP := hid (put44 hT hok.n (by omega) l r hl v hv (by omega))
    have HP := hid (fun (w' : World) (h : PutOut Q tb gv bv n (fun u => if u = v then ⟨l, s.B.length, r, s.R.length⟩ else Trl.know s.R ((u : Nat) + 1)) (s.R ++ [⟨l, s.B.length, r⟩]) s.B s.h W w') => h.trx hv h4 (hok.put h1 h2 h3 hr.2 h4))
    rw [he] at C ⊢
    clear hT hok
    go_enter Try.func18, Try.ntmps18
    go_wp2_with (first | (go_at_call 43; refine C.out.mono ?_; rintro e w4 ⟨rfl, hw4⟩; rw [hw4]; clear hw4) | (go_at_call 44; refine CP.out.mono ?_; rintro e w5 ⟨rfl, hw5⟩))
    go_ret
    exact ⟨rfl, by rw [HA.out]; exact HP.out _ hw5⟩
  · have HA := hid (ne_asg he)
    have HD := hid (Did.below H (Below.refl _ _))
    have hne : (Trl.wrongE n s.R l r != 0) = true := by simpa using he
    generalize Trl.wrongE n s.R l r = er at *
    clear H
    go_enter Try.func18, Try.ntmps18
    go_wp2_with (go_at_call 43; refine C.out.mono ?_; rintro e w4 ⟨rfl, hw4⟩; rw [hw4]; clear hw4)
    go_ret
    exact ⟨rfl, by rw [HA.out]; exact HD.out⟩
set_option maxHeartbeats 4000000 in
theorem decide17 {Q : Nat → Prop} {tb n : Nat} {s : Trl.S} {W : World} (H : Trx Q tb n s W) (l : Int) (hl : I32 l) :
    Calls Try.prog 17 #[.pointer (some ⟨tb, 0, none⟩), .int .i32 l] W fun e w' => e = .returned (.int .i64 (Trl.wrongE n s.R l (-1))) ∧ Did Q tb n W (Trl.dec n s l) w' := by
  have C := hid (wrong43 H l (-1) hl)
  by_cases he : Trl.wrongE n s.R l (-1) = 0
  · obtain ⟨h1, h2, h3, h4⟩ := Trl.wrong_ok he
    have HA := hid (show Trl.dec n s l = Trl.put (Trl.open_ s) l (-1) by unfold Trl.dec; rw [if_pos he])
    obtain ⟨gv, lv, bv, hT, hok⟩ := H
    obtain ⟨v, hv⟩ : ∃ v : Nat, Trl.vr l = (v : Int) + 1 := ⟨(Trl.vr l - 1).toNat, by omega⟩
    have hlen := hok.len
    have hn := hok.n
    have hbl := hok.bl
    have hokp := hok.dec_ h1 h2 h4
    have hTd := hT.below (Below.refl W.heap.size W).drew
    obtain ⟨g, c9, X, hr, hc1, hf1, hT2, hF2⟩ := hTd.pushB s.R.length (by omega)
    have CP := hid (show Calls Try.prog 44 #[.pointer (some ⟨tb, 0, none⟩), .int .i32 l, .int .i64 (-1)] (X.setCell ⟨tb, 2, none⟩ (.slice (some ⟨g, 0, none⟩) (s.B.length + 1) c9)) fun e w' => e = .returned (.tuple #[]) ∧ Did Q tb n (X.setCell ⟨tb, 2, none⟩ (.slice (some ⟨g, 0, none⟩) (s.B.length + 1) c9)) (Trl.put (Trl.open_ s) l (-1)) w' from
      (put44 hT2 hok.n (by omega) l (-1) hl v hv (by omega)).mono (fun e w' he => ⟨he.1, PutOut.trx (s := Trl.open_ s) he.2 hv h4 hokp⟩))
    obtain ⟨o, c, rfl⟩ := own_slc hT.lits
    obtain ⟨o2, cc2, rfl⟩ := own_slc hT.begs
    have d1 := row_cell hT.blk 1
    have d2 := row_cell hT.blk 2
    have HRN := hid hr
    have HF := hid ((Fr.of_below (Below.refl W.heap.size W).drew).trans hF2)
    have d3 := fun o' => (World.cell?_of_block (a := ⟨tb, 2, none⟩) ((below_box W o').block tb (lt_of_blk hT.blk))).trans d2
    rw [he] at C ⊢
    clear hT hok hT2 hokp hr hF2 hTd
    go_enter Try.func17, Try.ntmps17
    go_wp2_with (first | (go_at_call 43; refine C.out.mono ?_; rintro e w4 ⟨rfl, hw4⟩; rw [hw4]; clear hw4))
    go_region_law (first
      | (refine step_append_run rfl (.tmp 16) (.tmp 22) 34 34 (by rfl) (by rfl) (by rfl) HRN.out ?_))
    all_goals
      go_wp2_with (go_at_call 44; refine CP.out.mono ?_; rintro e w5 ⟨rfl, hw5⟩)
      go_ret
      exact ⟨rfl, by rw [HA.out]; exact ⟨hw5.1, HF.out.trans hw5.2⟩⟩
  · have HA := hid (ne_dec he)
    have HD := hid (Did.below H (Below.refl _ _))
    have hne : (Trl.wrongE n s.R l (-1) != 0) = true := by simpa using he
    generalize Trl.wrongE n s.R l (-1) = er at *
    clear H
    go_enter Try.func17, Try.ntmps17
    go_wp2_with (go_at_call 43; refine C.out.mono ?_; rintro e w4 ⟨rfl, hw4⟩; rw [hw4]; clear hw4)
    go_ret
    exact ⟨rfl, by rw [HA.out]; exact HD.out⟩
end Go.Proofs.Ytckpahdlcdgbpaa
