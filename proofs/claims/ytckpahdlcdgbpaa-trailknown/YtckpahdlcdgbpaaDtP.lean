/- The document's New, Decide, Assign, Next. -/
import Derived.Test.YtckpahdlcdgbpaaDtM
namespace Go.Proofs.Ytckpahdlcdgbpaa
open Go.RowKit Go.Maps
set_option linter.unusedVariables false
set_option maxRecDepth 100000

theorem info84 : (Try.prog.info? 84).map (fun i => (i.zero, i.size, i.bytes)) = some (some (.agg #[.int .i32 0, .int .i64 0, .int .i64 0]), 3, 24) := by kernel_rfl
def NewOutD (W : World) (n : Nat) (e : Ending) (w' : World) : Prop := ∃ db, e = .returned (.tuple #[.pointer (some ⟨db, 0, none⟩), .int .i64 0]) ∧ Dtx W.heap.size db n ⟨[], [], 0⟩ w' ∧ Below W.heap.size W w'
theorem new9 (n : Nat) (W : World) (hn : n ≤ 1048576) : Calls Try.prog 9 #[.int .i64 n] W fun e w' => NewOutD W n e w' := by
  have HO := hid (show NewOutD W n (.returned (.tuple #[.pointer (some ⟨W.heap.size, 0, none⟩), .int .i64 0])) (W.alloc (.cells #[.int .i64 (n : Nat), .slice none 0 0, .int .i64 0, .int .i64 0] 66)) from
    ⟨_, rfl, ⟨.slice none 0 0, ⟨Nat.le_refl _, heap_alloc_new W _, World.ownsRow_nil _ _ _ _, Trl.Ok.new n hn⟩⟩, below_box _ _⟩)
  have h1 : ¬ (n : Int) < 0 := by omega
  have h2 : ¬ (1048576 : Int) < n := by omega
  go_enter Try.func9, Try.ntmps9
  go_wp2
  go_ret2
  exact HO.out
theorem new9_no (n : Int) (W : World) (hn : n < 0 ∨ 1048576 < n) : Calls Try.prog 9 #[.int .i64 n] W fun e w' => e = .returned (.tuple #[.pointer none, .int .i64 2]) ∧ w' = W := by
  by_cases h1 : n < 0
  · clear hn
    go_enter Try.func9, Try.ntmps9
    go_wp2
    go_ret2
    exact ⟨rfl, rfl⟩
  · have h2 : 1048576 < n := by omega
    clear hn
    go_enter Try.func9, Try.ntmps9
    go_wp2
    go_ret2
    exact ⟨rfl, rfl⟩
set_option maxHeartbeats 1000000 in
theorem may52 {B db n : Nat} {s : Trl.S} {W : World} (H : Dtx B db n s W) (l : Int) (hl : I32 l) :
    Calls Try.prog 52 #[.pointer (some ⟨db, 0, none⟩), .int .i32 l] W fun e w' => e = .returned (.int .i64 (Trl.mayE n s.R l)) ∧ Drawn W w' := by
  have CF := hid (fun (w : World) (hd : Drawn W w) => find54 (H.below hd.below) (Trl.vr l))
  have C53 := hid (fun (w : World) => var53 l w hl)
  obtain ⟨rv, h⟩ := H
  have c0 := row_cell h.blk 0
  have hn := h.ok.n
  have hp := Trl.vr_pos l
  unfold Trl.mayE
  clear h
  by_cases h0 : l = 0
  · subst h0
    rw [if_pos (.inl rfl)]
    go_enter Try.func52, Try.ntmps52
    go_wp2_with (fail)
    go_quiet ((go_at_call 53; exact Calls.quiet_of_same (C53.out _)))
    go_wp2
    go_ret
    exact ⟨rfl, _, rfl⟩
  · have hlb : (l == 0) = false := by simpa using h0
    by_cases h1 : (n : Int) < Trl.vr l
    · rw [if_pos (.inr h1)]
      generalize Trl.vr l = vl at *
      go_enter Try.func52, Try.ntmps52
      go_wp2_with (fail)
      go_quiet ((go_at_call 53; exact Calls.quiet_of_same (C53.out _)))
      go_wp2
      go_ret
      exact ⟨rfl, _, rfl⟩
    · rw [if_neg (by omega)]
      generalize Trl.vr l = vl at *
      by_cases h2 : 0 ≤ Trl.idxI s.R vl
      · rw [if_pos h2]
        generalize Trl.idxI s.R vl = fi at *
        go_enter Try.func52, Try.ntmps52
        go_wp2_with (fail)
        go_quiet ((go_at_call 53; exact Calls.quiet_of_same (C53.out _)))
        go_wp2_with (first | (go_at_call 53; refine (C53.out _).mono ?_; rintro e w4 ⟨rfl, hw4⟩; rw [hw4]; clear hw4) | (go_at_call 54; refine (CF.out _ ⟨_, rfl⟩).mono ?_; rintro e w4 ⟨rfl, hw4⟩; rw [hw4]; clear hw4))
        go_ret
        exact ⟨rfl, _, rfl⟩
      · rw [if_neg h2]
        generalize Trl.idxI s.R vl = fi at *
        go_enter Try.func52, Try.ntmps52
        go_wp2_with (fail)
        go_quiet ((go_at_call 53; exact Calls.quiet_of_same (C53.out _)))
        go_wp2_with (first | (go_at_call 53; refine (C53.out _).mono ?_; rintro e w4 ⟨rfl, hw4⟩; rw [hw4]; clear hw4) | (go_at_call 54; refine (CF.out _ ⟨_, rfl⟩).mono ?_; rintro e w4 ⟨rfl, hw4⟩; rw [hw4]; clear hw4))
        go_ret
        exact ⟨rfl, _, rfl⟩
/-- An entry more in the document's row. -/
theorem push3 {B db : Nat} {v : Value} {R : List Trl.E} {n : Nat} {tv hv : Value} {W : World} (hB : B ≤ db) (blk : W.heap[db]? = some (.cells #[.int .i64 (n : Nat), v, tv, hv] 66 (0, 0))) (own : W.ownsRow B 84 3 v R.length (erow R)) (hR : R.length ≤ 1048576) (e : Trl.E) :
    ∃ g c X, (Builtin.append_ #[64, 64] 64 #[v, .slice (some ⟨W.heap.size, 0, none⟩) 1 1]).run Try.prog (W.alloc (.cells (ecell e).toArray 84)) = .ok (.slice (some ⟨g, 0, none⟩) (R.length + 1) c) X ∧ X.cell? ⟨db, 1, none⟩ = some v ∧ X.frozen? ⟨db, 1, none⟩ = false ∧
      (X.setCell ⟨db, 1, none⟩ (.slice (some ⟨g, 0, none⟩) (R.length + 1) c)).heap[db]? = some (.cells #[.int .i64 (n : Nat), .slice (some ⟨g, 0, none⟩) (R.length + 1) c, tv, hv] 66 (0, 0)) ∧
      (X.setCell ⟨db, 1, none⟩ (.slice (some ⟨g, 0, none⟩) (R.length + 1) c)).ownsRow B 84 3 (.slice (some ⟨g, 0, none⟩) (R.length + 1) c) (R.length + 1) (erow (R ++ [e])) ∧
      Fr pD (· < B) W (X.setCell ⟨db, 1, none⟩ (.slice (some ⟨g, 0, none⟩) (R.length + 1) c)) := by
  obtain ⟨i0, hi, hz⟩ := Option.map_eq_some_iff.1 info84
  simp only [Prod.mk.injEq] at hz
  have hal := below_box W (.cells (ecell e).toArray 84)
  have hsz : (W.alloc (.cells (ecell e).toArray 84)).heap.size = W.heap.size + 1 := by simp
  have hdl := lt_of_blk blk
  obtain ⟨g, c, X, hr, ho, hg, hat, hlt⟩ := run_append_lies (P := Try.prog) (W.alloc (.cells (ecell e).toArray 84)) 64 64 B 84 i0 _ 3 24 Try.underlying64 hi hz.1 hz.2.1 hz.2.2 rfl (by decide) v R.length _ (own_below own hal)
    ⟨W.heap.size, 0, none⟩ 1 1 (ecell e) rfl (World.news_of_block (heap_alloc_new W (.cells (ecell e).toArray 84))) (by intro u hu; simp [ecell] at hu; rcases hu with rfl | rfl | rfl <;> rfl) (by decide) (by unfold maxLen; omega) (by omega) (by rw [hsz]; omega) _ hsz
  have hvne : ∀ q, v.ownBlock = some q → q ≠ db := fun q hq e2 => by
    subst e2
    obtain ⟨_, cur, hq2⟩ := own_blk own hq
    rw [hq2] at blk
    injection blk with e3; injection e3 with _ e3; cases e3
  have hblk : X.heap[db]? = some (.cells #[.int .i64 (n : Nat), v, tv, hv] 66 (0, 0)) :=
    (hg.block db (by rw [hsz]; omega) (fun e2 => hvne db e2.symm rfl)).trans ((hal.block db hdl).trans blk)
  obtain ⟨hgn, cur, hgc⟩ := own_blk (g := g) ho rfl
  have hgdb : g ≠ db := by rintro rfl; rw [hblk] at hgc; injection hgc with e3; injection e3 with _ e3; cases e3
  refine ⟨g, c, X, hr, row_cell hblk 1, row_frozen hblk 1, by rw [heap_set_row hblk]; rfl, ?_, ?_⟩
  · rw [erow_append, show erow [e] = ecell e by simp [erow]]
    exact own_other ho (by intro e2; cases e2; exact hgdb rfl) (fun x hx => heap_other X _ hx)
  · refine (Fr.of_below hal).trans ((Fr.grown hg (fun q hq => ?_)).trans (Fr.set X _ (by show ¬ db < B; omega) (fun o ho2 => ?_)))
    · obtain ⟨hq1, cur2, hq2⟩ := own_blk own hq
      refine ⟨by show ¬ q < B; omega, fun o ho2 => ?_⟩
      rw [hal.block q (lt_of_blk hq2), hq2] at ho2
      cases ho2
      exact .inr rfl
    · have : X.heap[db]? = some o := ho2
      rw [hblk] at this; cases this; exact .inl rfl
theorem DidD.pre {B db n : Nat} {s : Trl.S} {W W1 W2 : World} (hd : Drawn W W1) (h : DidD B db n W1 s W2) : DidD B db n W s W2 := ⟨h.1, (Fr.of_below hd.below).trans h.2⟩
set_option maxHeartbeats 4000000 in
theorem assign33 {B db n : Nat} {s : Trl.S} {W : World} (H : Dtx B db n s W) (l r : Int) (hl : I32 l) (hr : I64 r) :
    Calls Try.prog 33 #[.pointer (some ⟨db, 0, none⟩), .int .i32 l, .int .i64 r] W fun e w' => e = .returned (.int .i64 (Trl.wrongE n s.R l r)) ∧ DidD B db n W (Trl.asg n s l r) w' := by
  have C := hid (may52 H l hl)
  rw [Trl.may_wrong] at C
  have HD := hid (fun (w : World) (hd : Drawn W w) => DidD.below H hd.below)
  obtain ⟨rv, h⟩ := H
  have hlen := h.ok.len
  have hn := h.ok.n
  have hbl := h.ok.bl
  by_cases h4 : Trl.vr l < 1 ∨ (n : Int) < Trl.vr l
  · have e1 : Trl.wrongE n s.R l (-1) = 4 := by unfold Trl.wrongE; rw [if_pos h4]
    have e2 : Trl.wrongE n s.R l r = 4 := by unfold Trl.wrongE; rw [if_pos h4]
    have HA := hid (show Trl.asg n s l r = s by unfold Trl.asg; rw [if_neg (by rw [e2]; decide)])
    rw [e1] at C
    rw [e2]
    clear h h4 e1 e2
    go_enter Try.func33, Try.ntmps33
    go_wp2_with (go_at_call 52; refine C.out.mono ?_; rintro e w4 ⟨rfl, hd4⟩)
    go_ret
    exact ⟨rfl, by rw [HA.out]; exact HD.out _ hd4⟩
  · by_cases hrr : r < -1
    · have e1 : (Trl.wrongE n s.R l (-1) != 4) = true := by unfold Trl.wrongE; rw [if_neg h4, if_neg (by decide)]; split <;> decide
      have e2 : Trl.wrongE n s.R l r = 160 := by unfold Trl.wrongE; rw [if_neg h4, if_pos hrr]
      have HA := hid (show Trl.asg n s l r = s by unfold Trl.asg; rw [if_neg (by rw [e2]; decide)])
      rw [e2]
      generalize Trl.wrongE n s.R l (-1) = ww at *
      clear h h4 e2
      go_enter Try.func33, Try.ntmps33
      go_wp2_with (go_at_call 52; refine C.out.mono ?_; rintro e w4 ⟨rfl, hd4⟩)
      go_ret
      exact ⟨rfl, by rw [HA.out]; exact HD.out _ hd4⟩
    · have e3 : Trl.wrongE n s.R l (-1) = Trl.wrongE n s.R l r := by unfold Trl.wrongE; rw [if_neg h4, if_neg h4, if_neg (by decide), if_neg hrr]
      rw [e3] at C
      by_cases he : Trl.wrongE n s.R l r = 0
      · obtain ⟨q1, q2, q3, q4⟩ := Trl.wrong_ok he
        have HA := hid (show Trl.asg n s l r = Trl.put s l r by unfold Trl.asg; rw [if_pos he])
        have hok := hid (h.ok.put q1 q2 q3 hr.2 q4)
        obtain ⟨o, c, rfl, _⟩ := h.shape
        have HT := hid h
        rw [he] at C ⊢
        clear h h4 e3 he
        go_enter Try.func33, Try.ntmps33
        go_wp2_with (fail)
        go_at_call 52
        refine C.out.mono ?_
        rintro e V ⟨rfl, hd4⟩
        have hV := HT.out.below hd4.below
        have d1 := row_cell hV.blk 1
        have d2 := row_cell hV.blk 2
        have hTd := hV.below (Below.refl V.heap.size V).drew
        obtain ⟨g, c9, X, hrn, hc1, hf1, hb1, ho1, hF1⟩ := push3 hV.ndb hTd.blk hTd.own (by omega) ⟨l, s.B.length, r⟩
        have HO := hid (show DidD B db n W (Trl.put s l r) (X.setCell ⟨db, 1, none⟩ (.slice (some ⟨g, 0, none⟩) (s.R.length + 1) c9)) from DidD.pre hd4 ⟨⟨_, ⟨hV.ndb, hb1, by show World.ownsRow _ B 84 3 _ (s.R ++ [_]).length _; rw [List.length_append]; exact ho1, hok.out⟩⟩, (Fr.of_below (Below.refl V.heap.size V).drew).trans hF1⟩)
        have HRN := hid hrn
        have d3 := fun o' => (World.cell?_of_block (a := ⟨db, 1, none⟩) ((below_box V o').block db (lt_of_blk hV.blk))).trans d1
        clear hV hTd hrn hb1 ho1 hF1 hok C HT HD hd4
        go_wp2_with (fail)
        go_region_law (first | (refine step_append_run rfl (.tmp 23) (.tmp 31) 64 64 (by rfl) (by rfl) (by rfl) HRN.out ?_))
        all_goals
          go_wp2
          go_ret
          exact ⟨rfl, by rw [HA.out]; exact HO.out⟩
      · have HA := hid (show Trl.asg n s l r = s by unfold Trl.asg; rw [if_neg he])
        have hne : (Trl.wrongE n s.R l r == 0) = false := by simpa using he
        have e4 : (Trl.wrongE n s.R l r != 4) = true := by unfold Trl.wrongE; rw [if_neg h4, if_neg hrr]; split <;> decide
        generalize Trl.wrongE n s.R l r = ww at *
        clear h h4 e3
        go_enter Try.func33, Try.ntmps33
        go_wp2_with (go_at_call 52; refine C.out.mono ?_; rintro e w4 ⟨rfl, hd4⟩)
        go_ret
        exact ⟨rfl, by rw [HA.out]; exact HD.out _ hd4⟩
set_option maxHeartbeats 4000000 in
theorem decide32 {B db n : Nat} {s : Trl.S} {W : World} (H : Dtx B db n s W) (l : Int) (hl : I32 l) :
    Calls Try.prog 32 #[.pointer (some ⟨db, 0, none⟩), .int .i32 l] W fun e w' => e = .returned (.int .i64 (Trl.wrongE n s.R l (-1))) ∧ DidD B db n W (Trl.dec n s l) w' := by
  have C := hid (may52 H l hl)
  rw [Trl.may_wrong] at C
  have HD := hid (fun (w : World) (hd : Drawn W w) => DidD.below H hd.below)
  obtain ⟨rv, h⟩ := H
  have hlen := h.ok.len
  have hn := h.ok.n
  have hbl := h.ok.bl
  by_cases he : Trl.wrongE n s.R l (-1) = 0
  · obtain ⟨q1, q2, q3, q4⟩ := Trl.wrong_ok he
    have HA := hid (show Trl.dec n s l = Trl.put (Trl.open_ s) l (-1) by unfold Trl.dec; rw [if_pos he])
    have hok := hid (h.ok.dec_ q1 q2 q4)
    obtain ⟨o, c, rfl, _⟩ := h.shape
    have HT := hid h
    rw [he] at C ⊢
    clear h he
    go_enter Try.func32, Try.ntmps32
    go_wp2_with (fail)
    go_at_call 52
    refine C.out.mono ?_
    rintro e V ⟨rfl, hd4⟩
    have hV := HT.out.below hd4.below
    have d2 := row_cell hV.blk 2
    have f2 := row_frozen hV.blk 2
    obtain ⟨V2, hV2⟩ : ∃ V2, V.setCell ⟨db, 2, none⟩ (.int .i64 ((s.B.length : Int) + 1)) = V2 := ⟨_, rfl⟩
    have hblk2 : V2.heap[db]? = some (.cells #[.int .i64 (n : Nat), .slice o s.R.length c, .int .i64 ((s.B.length : Int) + 1), .int .i64 (s.h : Nat)] 66 (0, 0)) := by rw [← hV2, heap_set_row hV.blk]; rfl
    have hnd : (Value.slice o s.R.length c).ownBlock ≠ some db := by
      intro e
      obtain ⟨_, cur, hq⟩ := own_blk hV.own e
      have := hV.blk
      rw [hq] at this
      injection this with e3
      injection e3 with _ e3
      cases e3
    have hown2 : V2.ownsRow B 84 3 (.slice o s.R.length c) s.R.length (erow s.R) := by
      rw [← hV2]
      exact own_other hV.own hnd (fun x hx => heap_other V _ hx)
    have hF2 : Fr pD (· < B) V V2 := by rw [← hV2]; exact Fr.set V _ (by show ¬ db < B; have := hV.ndb; omega) (fun o ho => by rw [hV.blk] at ho; cases ho; exact .inl rfl)
    have y1 := row_cell hblk2 1
    have y2 := row_cell hblk2 2
    obtain ⟨g, c9, X, hrn, hc1, hf1, hb1, ho1, hF1⟩ := push3 (W := V2.drew) hV.ndb hblk2 hown2 (by omega) ⟨l, s.B.length + 1, -1⟩
    have HO := hid (show DidD B db n W (Trl.put (Trl.open_ s) l (-1)) (X.setCell ⟨db, 1, none⟩ (.slice (some ⟨g, 0, none⟩) (s.R.length + 1) c9)) from DidD.pre hd4 ⟨⟨_, ⟨hV.ndb, by
        rw [hb1]
        show _ = some (Obj.cells #[_, _, .int .i64 (((s.B ++ [s.R.length]).length : Nat) : Int), _] 66 (0, 0))
        rw [List.length_append]; rfl, by
        show World.ownsRow _ B 84 3 _ (s.R ++ [_]).length (erow (s.R ++ [⟨l, (s.B ++ [s.R.length]).length, -1⟩]))
        rw [List.length_append, List.length_append]; exact ho1, hok.out⟩⟩, hF2.trans ((Fr.of_below (Below.refl V2.heap.size V2).drew).trans hF1)⟩)
    have HRN := hid hrn
    have y3 := fun o' => (World.cell?_of_block (a := ⟨db, 1, none⟩) ((below_box V2 o').block db (lt_of_blk hblk2))).trans y1
    clear hV hrn hb1 ho1 hF1 hok C HT HD hd4 hblk2 hown2 hF2 hnd
    go_wp2_with (fail)
    go_region_law (first | (refine step_append_run rfl (.tmp 22) (.tmp 29) 64 64 (by rfl) (by rfl) (by rfl) HRN.out ?_))
    all_goals
      go_wp2
      go_ret
      exact ⟨rfl, by rw [HA.out]; exact HO.out⟩
  · have HA := hid (ne_dec he)
    have hne : (Trl.wrongE n s.R l (-1) == 0) = false := by simpa using he
    generalize Trl.wrongE n s.R l (-1) = ww at *
    clear h
    go_enter Try.func32, Try.ntmps32
    go_wp2_with (go_at_call 52; refine C.out.mono ?_; rintro e w4 ⟨rfl, hd4⟩)
    go_ret
    exact ⟨rfl, by rw [HA.out]; exact HD.out _ hd4⟩
end Go.Proofs.Ytckpahdlcdgbpaa
