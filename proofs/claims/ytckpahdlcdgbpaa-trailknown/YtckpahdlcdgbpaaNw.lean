/- New, Next, what may not come on. -/
import Derived.Test.YtckpahdlcdgbpaaRds
namespace Trl
def nextL (s : S) : Int := if s.h = s.R.length then 0 else (get s.R s.h).lit
def nextB (s : S) : Bool := if s.h = s.R.length then false else true
end Trl
namespace Go.Proofs.Ytckpahdlcdgbpaa
open Go.RowKit Go.Maps
set_option linter.unusedVariables false
set_option maxRecDepth 100000

theorem info74 : (Try.prog.info? 74).map (fun i => (i.zero, i.size, i.bytes)) = some (some (.agg #[.int .i32 0, .int .i64 0, .int .i64 0, .int .i64 0]), 4, 32) := by kernel_rfl
theorem info33 : (Try.prog.info? 33).map (fun i => (i.zero, i.size, i.bytes)) = some (some (.int .i32 0), 1, 4) := by kernel_rfl
theorem info3 : (Try.prog.info? 3).map (fun i => (i.zero, i.size, i.bytes)) = some (some (.int .i64 0), 1, 8) := by kernel_rfl
theorem info4 : (Try.prog.info? 4).map (fun i => (i.zero, i.size, i.bytes)) = some (some (.bool false), 1, 1) := by kernel_rfl
/-- A new trail. -/
def NewOut (W : World) (n : Nat) (e : Ending) (w' : World) : Prop := ∃ tb, e = .returned (.tuple #[.pointer (some ⟨tb, 0, none⟩), .int .i64 0]) ∧ Trx (· < W.heap.size) tb n ⟨[], [], 0⟩ w' ∧ Below W.heap.size W w'
theorem new_out (W : World) (n : Nat) (cur : Array Value) (hn : n ≤ 1048576) (hc : Vr cur n (fun _ => Trl.K0)) :
    NewOut W n (.returned (.tuple #[.pointer (some ⟨W.heap.size + 1, 0, none⟩), .int .i64 0])) ((W.alloc (.cells cur 74)).alloc (.cells #[.slice (some ⟨W.heap.size, 0, none⟩) n n, .slice none 0 0, .slice none 0 0, .int .i64 0] 63)) := by
  refine ⟨_, rfl, ⟨W.heap.size, .slice none 0 0, .slice none 0 0, ⟨?_, ?_, ?_, ?_, ?_, ?_, ?_, World.ownsRow_nil _ _ _ _, World.ownsRow_nil _ _ _ _⟩, Trl.Ok.new n hn⟩, ((Below.refl _ W).alloc (Nat.le_refl _) _).alloc (by simp) _⟩
  · intro g hg; simp; omega
  · omega
  · omega
  · intro g h; cases h
  · intro g h; cases h
  · have := heap_alloc_new (W.alloc (.cells cur 74)) (.cells #[.slice (some ⟨W.heap.size, 0, none⟩) n n, .slice none 0 0, .slice none 0 0, .int .i64 0] 63)
    simpa using this
  · refine ⟨cur, ?_, hc⟩
    exact (Below.heap_alloc _ _ _ (by simp)).trans (heap_alloc_new W _)
theorem made_vr (n : Nat) : Vr (madeCells #[.int .i32 0, .int .i64 0, .int .i64 0, .int .i64 0] (n * 4)) n (fun _ => Trl.K0) := by
  refine ⟨size_madeCells _ _, fun v hv => ?_⟩
  have h0 : v * 4 % 4 = 0 := by omega
  have h1 : (v * 4 + 1) % 4 = 1 := by omega
  have h2 : (v * 4 + 2) % 4 = 2 := by omega
  have h3 : (v * 4 + 3) % 4 = 3 := by omega
  refine ⟨?_, ?_, ?_, ?_⟩ <;> rw [madeCells, Array.getElem?_map, Array.getElem?_range, if_pos (by omega), Option.map_some]
  · show some (#[_, _, _, _][v * 4 % 4]!) = _; rw [h0]; rfl
  · show some (#[_, _, _, _][(v * 4 + 1) % 4]!) = _; rw [h1]; rfl
  · show some (#[_, _, _, _][(v * 4 + 2) % 4]!) = _; rw [h2]; rfl
  · show some (#[_, _, _, _][(v * 4 + 3) % 4]!) = _; rw [h3]; rfl
set_option maxHeartbeats 1000000 in
theorem new8 (n : Nat) (W : World) (hn : n ≤ 1048576) : Calls Try.prog 8 #[.int .i64 n] W fun e w' => NewOut W n e w' := by
  obtain ⟨i0, hi, hz⟩ := Option.map_eq_some_iff.1 info74
  simp only [Prod.mk.injEq] at hz
  have hmk := fun W => run_makeSlice (P := Try.prog) W 61 74 i0 _ Try.underlying61 hi hz.1 .i64 .i64 (n : Int) (n : Int) (by omega) (Int.le_refl _) (by rw [hz.2.1]; omega) (by rw [hz.2.2]; omega) (by omega)
  simp only [hz.2.1, Int.toNat_natCast] at hmk
  have HO := hid (new_out W n _ hn (made_vr n))
  have h1 : ¬ (n : Int) < 0 := by omega
  have h2 : ¬ (1048576 : Int) < n := by omega
  clear hi hz
  go_enter Try.func8, Try.ntmps8
  go_wp2
  go_ret2
  exact HO.out
theorem new8_no (n : Int) (W : World) (hn : n < 0 ∨ 1048576 < n) : Calls Try.prog 8 #[.int .i64 n] W fun e w' => e = .returned (.tuple #[.pointer none, .int .i64 2]) ∧ w' = W := by
  by_cases h1 : n < 0
  · clear hn
    go_enter Try.func8, Try.ntmps8
    go_wp2
    go_ret2
    exact ⟨rfl, rfl⟩
  · have h2 : 1048576 < n := by omega
    clear hn
    go_enter Try.func8, Try.ntmps8
    go_wp2
    go_ret2
    exact ⟨rfl, rfl⟩
theorem wrong43 {Q : Nat → Prop} {tb n : Nat} {s : Trl.S} {W : World} (H : Trx Q tb n s W) (l r : Int) (hl : I32 l) :
    Calls Try.prog 43 #[.pointer (some ⟨tb, 0, none⟩), .int .i32 l, .int .i64 r] W fun e w' => e = .returned (.int .i64 (Trl.wrongE n s.R l r)) ∧ w' = W := by
  obtain ⟨gv, lv, bv, h1, h2⟩ := H
  have C := hid (var16 l W hl)
  have c1 := row_cell h1.blk 0
  have hn := h2.n
  have hp := Trl.vr_pos l
  unfold Trl.wrongE
  by_cases e1 : Trl.vr l < 1 ∨ (n : Int) < Trl.vr l
  · rw [if_pos e1]
    generalize Trl.vr l = v at *
    clear h1 h2
    by_cases e2 : v < 1
    · clear e1
      go_enter Try.func43, Try.ntmps43
      go_wp2_with (go_at_call 16; refine C.out.mono ?_; rintro e w4 ⟨rfl, hw4⟩; rw [hw4]; clear hw4)
      go_ret
      exact ⟨rfl, rfl⟩
    · have e3 : (n : Int) < v := by omega
      clear e1
      go_enter Try.func43, Try.ntmps43
      go_wp2_with (go_at_call 16; refine C.out.mono ?_; rintro e w4 ⟨rfl, hw4⟩; rw [hw4]; clear hw4)
      go_ret
      exact ⟨rfl, rfl⟩
  · rw [if_neg e1]
    obtain ⟨v, hv⟩ : ∃ v : Nat, Trl.vr l = (v : Int) + 1 := ⟨(Trl.vr l - 1).toNat, by omega⟩
    obtain ⟨d0, _⟩ := h1.cells (v := v) (by omega)
    have hkl := Trl.know_lit h2 ((v : Int) + 1)
    rw [hv] at C e1 ⊢
    have a1 : ¬ (v : Int) + 1 < 1 := by omega
    have a2 : ¬ (n : Int) < (v : Int) + 1 := by omega
    have a3 : (v : Int) < n := by omega
    by_cases e2 : r < -1
    · rw [if_pos e2]
      clear h1 h2 e1 hkl d0
      go_enter Try.func43, Try.ntmps43
      go_wp2_with (go_at_call 16; refine C.out.mono ?_; rintro e w4 ⟨rfl, hw4⟩; rw [hw4]; clear hw4)
      go_ret
      exact ⟨rfl, rfl⟩
    · rw [if_neg e2]
      cases hx : Trl.idx s.R ((v : Int) + 1) with
      | none =>
        have hz : (Trl.know s.R ((v : Int) + 1)).lit = 0 := hkl.2 hx
        rw [hz] at d0
        clear h1 h2 e1 hkl hx hz
        go_enter Try.func43, Try.ntmps43
        go_wp2_with (go_at_call 16; refine C.out.mono ?_; rintro e w4 ⟨rfl, hw4⟩; rw [hw4]; clear hw4)
        go_ret
        exact ⟨rfl, rfl⟩
      | some i =>
        have hz : ((Trl.know s.R ((v : Int) + 1)).lit != 0) = true := by
          simp only [bne_iff_ne, ne_eq]
          intro h; rw [hkl.1 h] at hx; cases hx
        generalize (Trl.know s.R ((v : Int) + 1)).lit = kl at *
        clear h1 h2 e1 hkl hx
        go_enter Try.func43, Try.ntmps43
        go_wp2_with (go_at_call 16; refine C.out.mono ?_; rintro e w4 ⟨rfl, hw4⟩; rw [hw4]; clear hw4)
        go_ret
        exact ⟨rfl, rfl⟩
theorem own_keep {W : World} {base e size n tb t : Nat} {v : Value} {xs : List Value} (h : W.ownsRow base e size v n xs) (hne : v.ownBlock ≠ some tb) (u : Value) : (W.setCell ⟨tb, t, none⟩ u).ownsRow base e size v n xs := by
  refine ⟨h.1, h.2.imp id ?_⟩
  rintro ⟨g, c, cur, e1, h1, h2, h3⟩
  refine ⟨g, c, cur, e1, h1, (heap_other W u (fun e => hne ?_)).trans h2, h3⟩
  rw [e1, e]; rfl
theorem Did.drawn {Q : Nat → Prop} {tb n : Nat} {s : Trl.S} {W W' W'' : World} (h : Did Q tb n W s W') (hd : Below W'.heap.size W' W'') : Did Q tb n W s W'' := ⟨h.1.below hd, h.2.trans (Fr.of_below hd)⟩
theorem Did.trans {Q : Nat → Prop} {tb n : Nat} {s s' : Trl.S} {W W' W'' : World} (h : Did Q tb n W s W') (hd : Did Q tb n W' s' W'') : Did Q tb n W s' W'' := ⟨hd.1, h.2.trans hd.2⟩
theorem next14 {Q : Nat → Prop} {tb n : Nat} {s : Trl.S} {W : World} (H : Trx Q tb n s W) :
    Calls Try.prog 14 #[.pointer (some ⟨tb, 0, none⟩)] W fun e w' => e = .returned (.tuple #[.int .i32 (Trl.nextL s), .bool (Trl.nextB s)]) ∧ Did Q tb n W (Trl.next s) w' := by
  have HH := hid H
  obtain ⟨gv, lv, bv, h1, h2⟩ := H
  obtain ⟨o, c, rfl⟩ := own_slc h1.lits
  have hln := h2.len
  have hn := h2.n
  have hh := h2.h
  have c1 := row_cell h1.blk 1
  have c3 := row_cell h1.blk 3
  unfold Trl.nextL Trl.nextB
  by_cases he : s.h = s.R.length
  · rw [if_pos he, if_pos he]
    have HN := hid (show Trl.next s = s by unfold Trl.next; rw [if_pos he])
    rw [he] at c3
    clear h1 h2
    go_enter Try.func14, Try.ntmps14
    go_wp2
    go_quiet (fail)
    go_wp2
    go_ret2
    exact ⟨rfl, by rw [HN.out]; exact Did.below HH.out (Drawn.below ⟨_, rfl⟩)⟩
  · rw [if_neg he, if_neg he]
    have HN := hid (show Trl.next s = ⟨s.R, s.B, s.h + 1⟩ by unfold Trl.next; rw [if_neg he])
    obtain ⟨g, c', cur, e1, _, hg, _, _, _, _⟩ := own_some h1.lits (by omega)
    cases e1
    have hlt : s.h < s.R.length := by omega
    have d0 := h1.lits.cellAt s.h (by omega)
    rw [show (ilits s.R)[s.h]? = some (.int .i32 (Trl.get s.R s.h).lit) by unfold ilits; rw [List.getElem?_map, Trl.get_at hlt]; rfl] at d0
    have hlt' : (s.h : Int) < s.R.length := by omega
    have hne : ((s.h : Int) == s.R.length) = false := by simp; omega
    have f3 := row_frozen h1.blk 3
    have hok := h2.next
    rw [HN.out] at hok
    have HD := hid (show Did Q tb n W ⟨s.R, s.B, s.h + 1⟩ (W.setCell ⟨tb, 3, none⟩ (.int .i64 ((s.h : Int) + 1))) from by
      obtain ⟨n1, n2, n3, n4, n5, n6⟩ := h1.apart
      refine ⟨⟨gv, _, bv, ⟨fun g hg => by rw [show (W.setCell ⟨tb, 3, none⟩ (.int .i64 ((s.h : Int) + 1))).heap.size = W.heap.size by simp [World.setCell]]; exact h1.lt g hg, h1.nt, h1.nv, h1.nl, h1.nb, ?_, ?_, ?_, ?_⟩, hok⟩, Fr.set W _ h1.nt (fun o ho => by rw [h1.blk] at ho; cases ho; exact .inl rfl)⟩
      · rw [heap_set_row h1.blk]; rfl
      · obtain ⟨cur, q1, q2⟩ := h1.var
        exact ⟨cur, (heap_other W _ (fun e => n1 e.symm)).trans q1, q2⟩
      · exact own_keep h1.lits n2 _
      · exact own_keep h1.begs n3 _)
    clear h1 h2 hok
    generalize (Trl.get s.R s.h).lit = l at *
    go_enter Try.func14, Try.ntmps14
    go_wp2
    go_quiet (fail)
    go_wp2
    go_quiet (fail)
    go_wp2
    go_ret2
    exact ⟨rfl, by rw [HN.out]; exact HD.out.drawn (Drawn.below ⟨_, rfl⟩)⟩
end Go.Proofs.Ytckpahdlcdgbpaa
