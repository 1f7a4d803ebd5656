/- The document's Reach. -/
import Derived.Test.YtkodfojccodoaaaDcG
namespace Go.Proofs.Ytkodfojccodoaaa
open Go.RowKit Go.Maps
set_option linter.unusedVariables false
set_option linter.unusedSimpArgs false
set_option maxRecDepth 100000
def ReaD (D : Da) (P : Ph.St) (l : List Int) (W : World) (e : Ending) (w' : World) : Prop :=
  e = .returned (.tuple #[.bool (Ph.rT D.n P l), .bool (Ph.rB D.n P l), .int .i64 (Ph.mE D.n l)]) ∧ ∃ D' : Da, D'.qb = D.qb ∧ D'.v = D.v ∧ D'.n = D.n ∧ Dm D' (Ph.rP D.n P l) w' ∧ Fd D W w' ∧ Lie D D' W
theorem reach30_no {D : Da} {P : Ph.St} {W : World} (H : Dm D P W) {a : Option Addr} {c : Nat} {l : List Int} (h : Lw W a l) (hl : l.length ≤ 16777216) (hm : Ph.may D.n l = false) :
    Calls Try.prog 30 #[.pointer (some ⟨D.qb, 0, none⟩), .slice a l.length c] W fun e w' => ReaD D P l W e w' := by
  have C43 := hid (may43 H (c := c) h (by unfold maxLen; omega))
  rw [hm] at C43
  have HO := hid (show ReaD D P l W (.returned (.tuple #[.bool false, .bool false, .int .i64 2])) W from ⟨by simp [Ph.mE, Ph.rT, Ph.rB, hm], D, rfl, rfl, rfl, by simpa [Ph.rP, hm] using H, Fq.refl _ _, fun a e => .inl e, fun a e => .inl e⟩)
  generalize l.length = t at *
  clear H h hl hm
  go_enter Try.func30, Try.ntmps30
  go_wp2_with (go_at_call 43; refine C43.out.mono ?_; rintro e w4 ⟨rfl, hw4⟩; rw [hw4]; clear hw4)
  refine bodyPost_ret (results_tmp3 rfl _ _ _) rfl ?_
  exact HO.out
set_option maxHeartbeats 4000000 in
theorem reach30_11 {D : Da} {P : Ph.St} {W : World} (H : Dm D P W) {a : Option Addr} {c : Nat} {l : List Int} (h : Lw W a l) (hl : l.length ≤ 16777216) (hm : Ph.may D.n l = true) (h1 : P.T.length < l.length) (h2 : P.B.length < l.length) :
    Calls Try.prog 30 #[.pointer (some ⟨D.qb, 0, none⟩), .slice a l.length c] W fun e w' => ReaD D P l W e w' := by
  have C43 := hid (may43 H (c := c) h (by unfold maxLen; omega))
  rw [hm] at C43
  have hml : l.length ≤ maxLen := by unfold maxLen; omega
  have eT : Ph.rT D.n P l = true := by simp [Ph.rT, hm, h1]
  have eB : Ph.rB D.n P l = true := by simp [Ph.rB, hm, h2]
  have eE : Ph.mE D.n l = 0 := by simp [Ph.mE, hm]
  have eP : Ph.rP D.n P l = { P with T := l, B := l } := by simp [Ph.rP, hm, Ph.reach, h1, h2]
  obtain ⟨o, k, X, hr, ow, bX⟩ := appL (c := c) h hl
  have HR := hid hr
  have HX := H.below bX
  have hbd : Below X.heap.size X X.drew := (Below.refl _ _).drew
  have HXd := HX.below hbd
  have owd := own_below ow hbd
  have FX := (Fq.of_below (Q := fun g => g ≠ D.qb ∧ some g ≠ D.v.ownBlock) bX).trans (Fq.of_below hbd)
  have hbds := lw_bd h
  obtain ⟨V, hV⟩ : ∃ V, X.drew = V := ⟨_, rfl⟩
  rw [hV] at HXd owd FX
  have v2 : V.cell? ⟨D.qb, 2, none⟩ = some (.int .i64 (P.T.length : Int)) := row_cell HXd.blk 2
  have v4 : V.cell? ⟨D.qb, 4, none⟩ = some (.int .i64 (P.B.length : Int)) := row_cell HXd.blk 4
  have c2 : X.cell? ⟨D.qb, 2, none⟩ = some (.int .i64 (P.T.length : Int)) := row_cell HX.blk 2
  have c4 : X.cell? ⟨D.qb, 4, none⟩ = some (.int .i64 (P.B.length : Int)) := row_cell HX.blk 4
  obtain ⟨q1, f1⟩ := HXd.setT owd hbds hml
  have a2 : V.cell? ⟨D.qb, 2, none⟩ = some (.int .i64 (P.T.length : Int)) := row_cell HXd.blk 2
  have b2 := row_frozen HXd.blk 2
  have a3 : (V.setCell ⟨D.qb, 2, none⟩ (.int .i64 (l.length : Int))).cell? ⟨D.qb, 3, none⟩ = some (.slice D.aT P.T.length D.cT) := row_cell (heap_set_row HXd.blk _) 3
  have b3 := row_frozen (heap_set_row HXd.blk (k := 2) (.int .i64 (l.length : Int))) 3
  have ow1 := own_keep (own_keep owd (own_type owd HXd.blk (by decide)).symm (t := 2) (.int .i64 (l.length : Int))) (own_type owd HXd.blk (by decide)).symm (t := 3) (.slice o l.length k)
  obtain ⟨Y, hY⟩ : ∃ Y, (V.setCell ⟨D.qb, 2, none⟩ (.int .i64 (l.length : Int))).setCell ⟨D.qb, 3, none⟩ (.slice o l.length k) = Y := ⟨_, rfl⟩
  rw [hY] at q1 f1 ow1
  obtain ⟨q2, f2⟩ := q1.setB ow1 hbds hml
  have a4 : Y.cell? ⟨D.qb, 4, none⟩ = some (.int .i64 (P.B.length : Int)) := row_cell q1.blk 4
  have b4 := row_frozen q1.blk 4
  have a5 : (Y.setCell ⟨D.qb, 4, none⟩ (.int .i64 (l.length : Int))).cell? ⟨D.qb, 5, none⟩ = some (.slice D.aB P.B.length D.cB) := row_cell (heap_set_row q1.blk _) 5
  have b5 := row_frozen (heap_set_row q1.blk (k := 4) (.int .i64 (l.length : Int))) 5
  obtain ⟨Z, hZ⟩ : ∃ Z, (Y.setCell ⟨D.qb, 4, none⟩ (.int .i64 (l.length : Int))).setCell ⟨D.qb, 5, none⟩ (.slice o l.length k) = Z := ⟨_, rfl⟩
  rw [hZ] at q2 f2
  have HO := hid (show ReaD D P l W (.returned (.tuple #[.bool true, .bool true, .int .i64 0])) Z from
    ⟨by rw [eT, eB, eE], { D with aT := o, cT := k, aB := o, cB := k }, rfl, rfl, rfl, by rw [eP]; exact q2, (FX.trans f1).trans f2, fun a e => .inr (own_new ow a e), fun a e => .inr (own_new ow a e)⟩)
  have t1 : ((P.T.length : Int) < (l.length : Int)) := by omega
  have t2 : ((P.B.length : Int) < (l.length : Int)) := by omega
  generalize P.T.length = lt at *
  generalize P.B.length = lb at *
  generalize l.length = t at *
  clear H h hl hm h1 h2 hml eT eB eE eP hr ow bX HX HXd hbd owd FX hbds q1 f1 ow1 q2 f2
  go_enter Try.func30, Try.ntmps30
  go_wp2_with (first
    | (go_at_call 43; refine C43.out.mono ?_; rintro e w4 ⟨rfl, hw4⟩; rw [hw4]; clear hw4)
    | (at_builtin; refine wpList_append_run rfl (.tmp 14) (.tmp 15) 33 33 rfl rfl rfl HR.out ?_))
  go_region
  all_goals
    clear HR C43
    go_wp2_with (fail)
    refine bodyPost_ret (results_tmp3 rfl _ _ _) rfl ?_
    exact HO.out
set_option maxHeartbeats 4000000 in
theorem reach30_10 {D : Da} {P : Ph.St} {W : World} (H : Dm D P W) {a : Option Addr} {c : Nat} {l : List Int} (h : Lw W a l) (hl : l.length ≤ 16777216) (hm : Ph.may D.n l = true) (h1 : P.T.length < l.length) (h2 : ¬ P.B.length < l.length) :
    Calls Try.prog 30 #[.pointer (some ⟨D.qb, 0, none⟩), .slice a l.length c] W fun e w' => ReaD D P l W e w' := by
  have C43 := hid (may43 H (c := c) h (by unfold maxLen; omega))
  rw [hm] at C43
  have hml : l.length ≤ maxLen := by unfold maxLen; omega
  have eT : Ph.rT D.n P l = true := by simp [Ph.rT, hm, h1]
  have eB : Ph.rB D.n P l = decide (P.B.length < l.length) := by simp [Ph.rB, hm, h2]
  have eE : Ph.mE D.n l = 0 := by simp [Ph.mE, hm]
  have eP : Ph.rP D.n P l = { P with T := l, B := P.B } := by simp [Ph.rP, hm, Ph.reach, h1, h2]
  obtain ⟨o, k, X, hr, ow, bX⟩ := appL (c := c) h hl
  have HR := hid hr
  have HX := H.below bX
  have hbd : Below X.heap.size X X.drew := (Below.refl _ _).drew
  have HXd := HX.below hbd
  have owd := own_below ow hbd
  have FX := (Fq.of_below (Q := fun g => g ≠ D.qb ∧ some g ≠ D.v.ownBlock) bX).trans (Fq.of_below hbd)
  have hbds := lw_bd h
  obtain ⟨V, hV⟩ : ∃ V, X.drew = V := ⟨_, rfl⟩
  rw [hV] at HXd owd FX
  have v2 : V.cell? ⟨D.qb, 2, none⟩ = some (.int .i64 (P.T.length : Int)) := row_cell HXd.blk 2
  have v4 : V.cell? ⟨D.qb, 4, none⟩ = some (.int .i64 (P.B.length : Int)) := row_cell HXd.blk 4
  have c2 : X.cell? ⟨D.qb, 2, none⟩ = some (.int .i64 (P.T.length : Int)) := row_cell HX.blk 2
  have c4 : X.cell? ⟨D.qb, 4, none⟩ = some (.int .i64 (P.B.length : Int)) := row_cell HX.blk 4
  obtain ⟨q1, f1⟩ := HXd.setT owd hbds hml
  have a2 : V.cell? ⟨D.qb, 2, none⟩ = some (.int .i64 (P.T.length : Int)) := row_cell HXd.blk 2
  have b2 := row_frozen HXd.blk 2
  have a3 : (V.setCell ⟨D.qb, 2, none⟩ (.int .i64 (l.length : Int))).cell? ⟨D.qb, 3, none⟩ = some (.slice D.aT P.T.length D.cT) := row_cell (heap_set_row HXd.blk _) 3
  have b3 := row_frozen (heap_set_row HXd.blk (k := 2) (.int .i64 (l.length : Int))) 3
  have ow1 := own_keep (own_keep owd (own_type owd HXd.blk (by decide)).symm (t := 2) (.int .i64 (l.length : Int))) (own_type owd HXd.blk (by decide)).symm (t := 3) (.slice o l.length k)
  obtain ⟨Y, hY⟩ : ∃ Y, (V.setCell ⟨D.qb, 2, none⟩ (.int .i64 (l.length : Int))).setCell ⟨D.qb, 3, none⟩ (.slice o l.length k) = Y := ⟨_, rfl⟩
  rw [hY] at q1 f1 ow1
  have HO := hid (show ReaD D P l W (.returned (.tuple #[.bool true, .bool (decide (P.B.length < l.length)), .int .i64 0])) Y from
    ⟨by rw [eT, eB, eE], { D with aT := o, cT := k }, rfl, rfl, rfl, by rw [eP]; exact q1, FX.trans f1, fun a e => .inr (own_new ow a e), fun a e => .inl e⟩)
  have t1 : ((P.T.length : Int) < (l.length : Int)) := by omega
  have t2 : ¬ ((P.B.length : Int) < (l.length : Int)) := by omega
  generalize P.T.length = lt at *
  generalize P.B.length = lb at *
  generalize l.length = t at *
  clear H h hl hm h1 h2 hml eT eB eE eP hr ow bX HX HXd hbd owd FX hbds q1 f1 ow1
  go_enter Try.func30, Try.ntmps30
  go_wp2_with (first
    | (go_at_call 43; refine C43.out.mono ?_; rintro e w4 ⟨rfl, hw4⟩; rw [hw4]; clear hw4)
    | (at_builtin; refine wpList_append_run rfl (.tmp 14) (.tmp 15) 33 33 rfl rfl rfl HR.out ?_))
  go_region
  all_goals
    clear HR C43
    go_wp2_with (fail)
    refine bodyPost_ret (results_tmp3 rfl _ _ _) rfl ?_
    exact HO.out
set_option maxHeartbeats 4000000 in
theorem reach30_01 {D : Da} {P : Ph.St} {W : World} (H : Dm D P W) {a : Option Addr} {c : Nat} {l : List Int} (h : Lw W a l) (hl : l.length ≤ 16777216) (hm : Ph.may D.n l = true) (h1 : ¬ P.T.length < l.length) (h2 : P.B.length < l.length) :
    Calls Try.prog 30 #[.pointer (some ⟨D.qb, 0, none⟩), .slice a l.length c] W fun e w' => ReaD D P l W e w' := by
  have C43 := hid (may43 H (c := c) h (by unfold maxLen; omega))
  rw [hm] at C43
  have hml : l.length ≤ maxLen := by unfold maxLen; omega
  have eT : Ph.rT D.n P l = decide (P.T.length < l.length) := by simp [Ph.rT, hm, h1]
  have eB : Ph.rB D.n P l = true := by simp [Ph.rB, hm, h2]
  have eE : Ph.mE D.n l = 0 := by simp [Ph.mE, hm]
  have eP : Ph.rP D.n P l = { P with T := P.T, B := l } := by simp [Ph.rP, hm, Ph.reach, h1, h2]
  obtain ⟨o, k, X, hr, ow, bX⟩ := appL (c := c) h hl
  have HR := hid hr
  have HX := H.below bX
  have hbd : Below X.heap.size X X.drew := (Below.refl _ _).drew
  have HXd := HX.below hbd
  have owd := own_below ow hbd
  have FX := (Fq.of_below (Q := fun g => g ≠ D.qb ∧ some g ≠ D.v.ownBlock) bX).trans (Fq.of_below hbd)
  have hbds := lw_bd h
  obtain ⟨V, hV⟩ : ∃ V, X.drew = V := ⟨_, rfl⟩
  rw [hV] at HXd owd FX
  have v2 : V.cell? ⟨D.qb, 2, none⟩ = some (.int .i64 (P.T.length : Int)) := row_cell HXd.blk 2
  have v4 : V.cell? ⟨D.qb, 4, none⟩ = some (.int .i64 (P.B.length : Int)) := row_cell HXd.blk 4
  have c2 : X.cell? ⟨D.qb, 2, none⟩ = some (.int .i64 (P.T.length : Int)) := row_cell HX.blk 2
  have c4 : X.cell? ⟨D.qb, 4, none⟩ = some (.int .i64 (P.B.length : Int)) := row_cell HX.blk 4
  obtain ⟨q2, f2⟩ := HXd.setB owd hbds hml
  have a4 : V.cell? ⟨D.qb, 4, none⟩ = some (.int .i64 (P.B.length : Int)) := row_cell HXd.blk 4
  have b4 := row_frozen HXd.blk 4
  have a5 : (V.setCell ⟨D.qb, 4, none⟩ (.int .i64 (l.length : Int))).cell? ⟨D.qb, 5, none⟩ = some (.slice D.aB P.B.length D.cB) := row_cell (heap_set_row HXd.blk _) 5
  have b5 := row_frozen (heap_set_row HXd.blk (k := 4) (.int .i64 (l.length : Int))) 5
  obtain ⟨Z, hZ⟩ : ∃ Z, (V.setCell ⟨D.qb, 4, none⟩ (.int .i64 (l.length : Int))).setCell ⟨D.qb, 5, none⟩ (.slice o l.length k) = Z := ⟨_, rfl⟩
  rw [hZ] at q2 f2
  have HO := hid (show ReaD D P l W (.returned (.tuple #[.bool (decide (P.T.length < l.length)), .bool true, .int .i64 0])) Z from
    ⟨by rw [eT, eB, eE], { D with aB := o, cB := k }, rfl, rfl, rfl, by rw [eP]; exact q2, (FX).trans f2, fun a e => .inl e, fun a e => .inr (own_new ow a e)⟩)
  have t1 : ¬ ((P.T.length : Int) < (l.length : Int)) := by omega
  have t2 : ((P.B.length : Int) < (l.length : Int)) := by omega
  generalize P.T.length = lt at *
  generalize P.B.length = lb at *
  generalize l.length = t at *
  clear H h hl hm h1 h2 hml eT eB eE eP hr ow bX HX HXd hbd owd FX hbds q2 f2
  go_enter Try.func30, Try.ntmps30
  go_wp2_with (first
    | (go_at_call 43; refine C43.out.mono ?_; rintro e w4 ⟨rfl, hw4⟩; rw [hw4]; clear hw4)
    | (at_builtin; refine wpList_append_run rfl (.tmp 14) (.tmp 15) 33 33 rfl rfl rfl HR.out ?_))
  go_region
  all_goals
    clear HR C43
    go_wp2_with (fail)
    refine bodyPost_ret (results_tmp3 rfl _ _ _) rfl ?_
    exact HO.out
set_option maxHeartbeats 4000000 in
theorem reach30_00 {D : Da} {P : Ph.St} {W : World} (H : Dm D P W) {a : Option Addr} {c : Nat} {l : List Int} (h : Lw W a l) (hl : l.length ≤ 16777216) (hm : Ph.may D.n l = true) (h1 : ¬ P.T.length < l.length) (h2 : ¬ P.B.length < l.length) :
    Calls Try.prog 30 #[.pointer (some ⟨D.qb, 0, none⟩), .slice a l.length c] W fun e w' => ReaD D P l W e w' := by
  have C43 := hid (may43 H (c := c) h (by unfold maxLen; omega))
  rw [hm] at C43
  have hml : l.length ≤ maxLen := by unfold maxLen; omega
  have eT : Ph.rT D.n P l = decide (P.T.length < l.length) := by simp [Ph.rT, hm, h1]
  have eB : Ph.rB D.n P l = decide (P.B.length < l.length) := by simp [Ph.rB, hm, h2]
  have eE : Ph.mE D.n l = 0 := by simp [Ph.mE, hm]
  have eP : Ph.rP D.n P l = { P with T := P.T, B := P.B } := by simp [Ph.rP, hm, Ph.reach, h1, h2]
  obtain ⟨o, k, X, hr, ow, bX⟩ := appL (c := c) h hl
  have HR := hid hr
  have HX := H.below bX
  have hbd : Below X.heap.size X X.drew := (Below.refl _ _).drew
  have HXd := HX.below hbd
  have owd := own_below ow hbd
  have FX := (Fq.of_below (Q := fun g => g ≠ D.qb ∧ some g ≠ D.v.ownBlock) bX).trans (Fq.of_below hbd)
  have hbds := lw_bd h
  obtain ⟨V, hV⟩ : ∃ V, X.drew = V := ⟨_, rfl⟩
  rw [hV] at HXd owd FX
  have v2 : V.cell? ⟨D.qb, 2, none⟩ = some (.int .i64 (P.T.length : Int)) := row_cell HXd.blk 2
  have v4 : V.cell? ⟨D.qb, 4, none⟩ = some (.int .i64 (P.B.length : Int)) := row_cell HXd.blk 4
  have c2 : X.cell? ⟨D.qb, 2, none⟩ = some (.int .i64 (P.T.length : Int)) := row_cell HX.blk 2
  have c4 : X.cell? ⟨D.qb, 4, none⟩ = some (.int .i64 (P.B.length : Int)) := row_cell HX.blk 4
  have HO := hid (show ReaD D P l W (.returned (.tuple #[.bool (decide (P.T.length < l.length)), .bool (decide (P.B.length < l.length)), .int .i64 0])) V from
    ⟨by rw [eT, eB, eE], D, rfl, rfl, rfl, by rw [eP]; exact HXd, FX, fun a e => .inl e, fun a e => .inl e⟩)
  have t1 : ¬ ((P.T.length : Int) < (l.length : Int)) := by omega
  have t2 : ¬ ((P.B.length : Int) < (l.length : Int)) := by omega
  generalize P.T.length = lt at *
  generalize P.B.length = lb at *
  generalize l.length = t at *
  clear H h hl hm h1 h2 hml eT eB eE eP hr ow bX HX HXd hbd owd FX hbds
  go_enter Try.func30, Try.ntmps30
  go_wp2_with (first
    | (go_at_call 43; refine C43.out.mono ?_; rintro e w4 ⟨rfl, hw4⟩; rw [hw4]; clear hw4)
    | (at_builtin; refine wpList_append_run rfl (.tmp 14) (.tmp 15) 33 33 rfl rfl rfl HR.out ?_))
  go_region
  all_goals
    clear HR C43
    go_wp2_with (fail)
    refine bodyPost_ret (results_tmp3 rfl _ _ _) rfl ?_
    exact HO.out
theorem reach30 {D : Da} {P : Ph.St} {W : World} (H : Dm D P W) {a : Option Addr} {c : Nat} {l : List Int} (h : Lw W a l) (hl : l.length ≤ 16777216) :
    Calls Try.prog 30 #[.pointer (some ⟨D.qb, 0, none⟩), .slice a l.length c] W fun e w' => ReaD D P l W e w' := by
  cases hm : Ph.may D.n l
  · exact reach30_no H h hl hm
  · by_cases h1 : P.T.length < l.length <;> by_cases h2 : P.B.length < l.length
    · exact reach30_11 H h hl hm h1 h2
    · exact reach30_10 H h hl hm h1 h2
    · exact reach30_01 H h hl hm h1 h2
    · exact reach30_00 H h hl hm h1 h2
end Go.Proofs.Ytkodfojccodoaaa
