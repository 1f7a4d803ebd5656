/- Back. -/
import Derived.Test.YtckpahdlcdgbpaaBk1
namespace Go.Proofs.Ytckpahdlcdgbpaa
open Go.RowKit Go.Maps
set_option linter.unusedVariables false
set_option linter.unusedSimpArgs false

/-- What Back tells and leaves. -/
def BackOut (Q : Nat → Prop) (tb n : Nat) (W : World) (xs : List Int) (er : Int) (s' : Trl.S) (e : Ending) (w' : World) : Prop :=
  ∃ o k, e = .returned (.tuple #[.slice o xs.length k, .int .i64 er]) ∧ w'.ownsRow W.heap.size 33 1 (.slice o xs.length k) xs.length (xs.map (Value.int .i32)) ∧ Did Q tb n W s' w'
set_option maxRecDepth 100000 in
set_option maxHeartbeats 2000000 in
theorem back13_err {Q : Nat → Prop} {tb n : Nat} {s : Trl.S} {W : World} (H : Trx Q tb n s W) (lev : Int) (h : lev < 0 ∨ (s.B.length : Int) < lev) :
    Calls Try.prog 13 #[.pointer (some ⟨tb, 0, none⟩), .int .i64 lev] W fun e w' => BackOut Q tb n W [] 101 s e w' := by
  have HO := hid (fun (w' : World) (hb : Below W.heap.size W w') => show BackOut Q tb n W [] 101 s (.returned (.tuple #[.slice none 0 0, .int .i64 101])) w' from ⟨none, 0, rfl, World.ownsRow_nil _ _ _ _, Did.below H hb⟩)
  obtain ⟨gv, lv, bv, h1, h2⟩ := H
  obtain ⟨o, c, rfl⟩ := own_slc h1.begs
  have hbx := below_box W (.cells #[.pointer (some ⟨tb, 0, none⟩)] 24)
  have c2 := row_cell (h1.below hbx).blk 2
  have HB := hid hbx
  clear h1 h2 hbx
  by_cases hl : lev < 0
  · clear h
    go_enter Try.func13, Try.ntmps13
    go_wp2
    go_ret2
    exact HO.out _ HB.out
  · have hl2 : (s.B.length : Int) < lev := by omega
    clear h
    go_enter Try.func13, Try.ntmps13
    go_wp2
    go_ret2
    exact HO.out _ HB.out
set_option maxRecDepth 100000 in
set_option maxHeartbeats 2000000 in
theorem back13_same {Q : Nat → Prop} {tb n : Nat} {s : Trl.S} {W : World} (H : Trx Q tb n s W) :
    Calls Try.prog 13 #[.pointer (some ⟨tb, 0, none⟩), .int .i64 (s.B.length : Nat)] W fun e w' => BackOut Q tb n W [] 0 s e w' := by
  have HO := hid (fun (w' : World) (hb : Below W.heap.size W w') => show BackOut Q tb n W [] 0 s (.returned (.tuple #[.slice none 0 0, .int .i64 0])) w' from ⟨none, 0, rfl, World.ownsRow_nil _ _ _ _, Did.below H hb⟩)
  obtain ⟨gv, lv, bv, h1, h2⟩ := H
  obtain ⟨o, c, rfl⟩ := own_slc h1.begs
  have hbx := below_box W (.cells #[.pointer (some ⟨tb, 0, none⟩)] 24)
  have c2 := row_cell (h1.below hbx).blk 2
  have HB := hid hbx
  have hl : ¬ (s.B.length : Int) < 0 := by omega
  generalize s.B.length = bl at *
  clear h1 h2 hbx
  go_enter Try.func13, Try.ntmps13
  go_wp2
  go_ret2
  exact HO.out _ HB.out
/-- An append inside a fence, whose run is known. -/
theorem wpListIn_append_run {F : Fence} {n : Nat} {P : Program} {w w' : World} {ops : Array Oper} {rest : List Oper} {o : Oper} {a : Act} {Q : Exit → Act → World → Prop} (hgd : o.guard = none) (s x : Operand) (t u : TypeId)
    (ho : o.op = .call { callee := .builtin .append, args := #[s, x], argTypes := #[t, u] }) {v xv v' : Value} (hs : a.eval s = v) (hx : a.eval x = xv)
    (hrun : (Builtin.append_ #[t, u] o.type #[v, xv]).run P w = .ok v' w') (h : wpListIn F n P ops Q rest (a.put o.dst v') w') : wpListIn F n P ops Q (o :: rest) a w := by
  refine wpListIn_plain hgd fun K hK => ?_
  unfold Oper.wpIn
  refine ⟨?_, ?_⟩
  · simp [Oper.about, ho, resolve, Target.leads, Sem.run_pure]
  · rw [Oper.semAt_plain F _ _ (by rw [ho]; intro c hc'; cases hc')]
    simp [execOp, ho, resolve, invoke, builtin, hs, hx, hrun, Result.andThen]
    exact hK _ _ h
/-- The three fields cut. -/
theorem Tr.cut {Q : Nat → Prop} {tb gv gl gb cl cb : Nat} {n : Nat} {f : Nat → Trl.K} {R : List Trl.E} {B : List Nat} {h lf lev : Nat} {X : World} (H : Tr Q tb gv (.slice (some ⟨gl, 0, none⟩) R.length cl) (.slice (some ⟨gb, 0, none⟩) B.length cb) n f R B h X) (h1 : lf ≤ R.length) (h2 : lev ≤ B.length) :
    Tr Q tb gv (.slice (some ⟨gl, 0, none⟩) lf cl) (.slice (some ⟨gb, 0, none⟩) lev cb) n f (R.take lf) (B.take lev) (min h lf) ((((X.drew).setCell ⟨tb, 1, none⟩ (.slice (some ⟨gl, 0, none⟩) lf cl)).setCell ⟨tb, 2, none⟩ (.slice (some ⟨gb, 0, none⟩) lev cb)).setCell ⟨tb, 3, none⟩ (.int .i64 (min (h : Int) (lf : Int)))) ∧
    Fr pA Q X ((((X.drew).setCell ⟨tb, 1, none⟩ (.slice (some ⟨gl, 0, none⟩) lf cl)).setCell ⟨tb, 2, none⟩ (.slice (some ⟨gb, 0, none⟩) lev cb)).setCell ⟨tb, 3, none⟩ (.int .i64 (min (h : Int) (lf : Int)))) := by
  obtain ⟨n1, n2, n3, n4, n5, n6⟩ := H.apart
  obtain ⟨cur, q1, q2⟩ := H.var
  have hb0 : (X.drew).heap[tb]? = some (.cells #[.slice (some ⟨gv, 0, none⟩) n n, .slice (some ⟨gl, 0, none⟩) R.length cl, .slice (some ⟨gb, 0, none⟩) B.length cb, .int .i64 h] 63 (0, 0)) := H.blk
  have hb1 := heap_set_row (k := 1) hb0 (.slice (some ⟨gl, 0, none⟩) lf cl)
  have hb2 := heap_set_row (k := 2) hb1 (.slice (some ⟨gb, 0, none⟩) lev cb)
  have hb3 := heap_set_row (k := 3) hb2 (.int .i64 (min (h : Int) (lf : Int)))
  have hoth : ∀ x, x ≠ tb → ((((X.drew).setCell ⟨tb, 1, none⟩ (.slice (some ⟨gl, 0, none⟩) lf cl)).setCell ⟨tb, 2, none⟩ (.slice (some ⟨gb, 0, none⟩) lev cb)).setCell ⟨tb, 3, none⟩ (.int .i64 (min (h : Int) (lf : Int)))).heap[x]? = X.heap[x]? := fun x hx => by
    rw [heap_other _ _ hx, heap_other _ _ hx, heap_other _ _ hx]; rfl
  have hsz : ((((X.drew).setCell ⟨tb, 1, none⟩ (.slice (some ⟨gl, 0, none⟩) lf cl)).setCell ⟨tb, 2, none⟩ (.slice (some ⟨gb, 0, none⟩) lev cb)).setCell ⟨tb, 3, none⟩ (.int .i64 (min (h : Int) (lf : Int)))).heap.size = X.heap.size := by simp [World.setCell]
  have hos : Fr pA Q X ((((X.drew).setCell ⟨tb, 1, none⟩ (.slice (some ⟨gl, 0, none⟩) lf cl)).setCell ⟨tb, 2, none⟩ (.slice (some ⟨gb, 0, none⟩) lev cb)).setCell ⟨tb, 3, none⟩ (.int .i64 (min (h : Int) (lf : Int)))) := by
    refine ⟨rfl, rfl, rfl, by rw [hsz]; exact Nat.le_refl _, fun g o hg hp => (hoth g (fun e => ?_)).trans hg⟩
    subst e
    rcases hp with hp | hp
    · exact H.nt hp
    · rw [H.blk] at hg; cases hg; exact hp (.inl rfl)
  generalize (((X.drew).setCell ⟨tb, 1, none⟩ (.slice (some ⟨gl, 0, none⟩) lf cl)).setCell ⟨tb, 2, none⟩ (.slice (some ⟨gb, 0, none⟩) lev cb)).setCell ⟨tb, 3, none⟩ (.int .i64 (min (h : Int) (lf : Int))) = Y at *
  have hm : min (h : Int) (lf : Int) = ((min h lf : Nat) : Int) := by omega
  refine ⟨⟨fun g hg => by rw [hsz]; exact H.lt g hg, H.nt, H.nv, H.nl, H.nb, ?_, ⟨cur, (hoth _ (fun e => n1 e.symm)).trans q1, q2⟩, ?_, ?_⟩, hos⟩
  · rw [hb3, hm]; rfl
  · refine own_other (W := X) (g := tb) ?_ n2 hoth
    rcases H.lits.2 with ⟨e, _⟩ | ⟨g, c, cu, e1, p1, p2, p3, p4, p5, p6⟩
    · cases e
    · cases e1
      rw [List.length_take, Nat.min_eq_left h1]
      exact own_mk p1 p2 (by omega) p4 (by rw [p5, Nat.mul_one]) (by rw [Nat.mul_one] at p6; rw [show ilits (R.take lf) = (ilits R).take lf by simp [ilits], ← p6, List.take_take, Nat.min_eq_left h1])
  · refine own_other (W := X) (g := tb) ?_ n3 hoth
    rcases H.begs.2 with ⟨e, _⟩ | ⟨g, c, cu, e1, p1, p2, p3, p4, p5, p6⟩
    · cases e
    · cases e1
      rw [List.length_take, Nat.min_eq_left h2]
      exact own_mk p1 p2 (by omega) p4 (by rw [p5, Nat.mul_one]) (by rw [Nat.mul_one] at p6; rw [show ibegs (B.take lev) = (ibegs B).take lev by simp [ibegs], ← p6, List.take_take, Nat.min_eq_left h2])
variable {P : Program} in
/-- A function leaves behind one loop over a function: the loop's block holds no call. -/
theorem leave_one {n D : Nat} {fn : Func} {tmps : Array Value} {R : Ending → World → Prop} {W : World} (hd : W.heap[D]? = some (.deferred (some [])))
    (h : ∃ v, (results fn tmps).run P (W.putObj D (.deferred none)) = .ok v (W.putObj D (.deferred none)) ∧ R (.returned v) (W.putObj D (.deferred none))) : LeavesInM Fence.wide n P fn tmps R [{ target := .collected D, args := #[] }] .returning W :=
  ⟨by simp, .inl ⟨D, _, rfl, run_takeDeferred hd, h⟩⟩
open Go.Shelf
attribute [local go_sem] Oper.semAt_some
set_option maxRecDepth 100000 in
set_option maxHeartbeats 8000000 in
theorem back13_ok {Q : Nat → Prop} {tb n : Nat} {s : Trl.S} {W : World} (H : Trx Q tb n s W) (lev : Nat) (hlev : lev < s.B.length) :
    Calls Try.prog 13 #[.pointer (some ⟨tb, 0, none⟩), .int .i64 lev] W fun e w' => BackOut Q tb n W (Trl.gone s lev) 0 (Trl.back s lev) e w' := by
  obtain ⟨gv, lv, bv, h1, h2⟩ := H
  have hlen := h2.len
  have hn := h2.n
  have hbeg := h2.beg lev hlev
  have hbl := h2.bl
  obtain ⟨gl, cl, cur, rfl, _, hgl, hlc, hcm, hcs, htk⟩ := own_some h1.lits (by omega)
  obtain ⟨gb, cb, curb, rfl, _, hgb, hbc, hbm, _, _⟩ := own_some h1.begs (by omega)
  obtain ⟨lf, hlf⟩ : ∃ lf, s.B.getD lev 0 = lf := ⟨_, rfl⟩
  rw [hlf] at hbeg
  have hbx := below_box W (.cells #[.pointer (some ⟨tb, 0, none⟩)] 24)
  have hT1 := h1.below hbx
  have c1 := row_cell hT1.blk 1
  have c2 := row_cell hT1.blk 2
  have d0 := hT1.begs.cellAt lev (by omega)
  rw [show (ibegs s.B)[lev]? = some (.int .i64 (lf : Nat)) by unfold ibegs; rw [List.getElem?_map, List.getElem?_eq_getElem hlev]; simp [← hlf, List.getD, hlev]] at d0
  have hl0 : ¬ (lev : Int) < 0 := by omega
  have hl1 : ¬ (s.B.length : Int) < lev := by omega
  have hl2 : ((lev : Int) == s.B.length) = false := by simp; omega
  have hl3 : (lev : Int) < s.B.length := by omega
  obtain ⟨NN, hNN⟩ : ∃ NN : Nat, (s.R.length : Int) - lf = NN := ⟨s.R.length - lf, by omega⟩
  obtain ⟨i0, hi, hz⟩ := Option.map_eq_some_iff.1 info33
  simp only [Prod.mk.injEq] at hz
  have hmk := fun W => run_makeSlice (P := Try.prog) W 40 33 i0 (.int .i32 0) Try.underlying40 hi hz.1 .i64 .i64 0 (NN : Int) (Int.le_refl _) (by omega) (by rw [hz.2.1]; omega) (by rw [hz.2.2]; omega) (by omega)
  simp only [hz.2.1, Nat.mul_one, Int.toNat_natCast, Int.toNat_zero] at hmk
  clear hi hz
  refine (callsIn_wide (n := 9)).1 ?_
  refine callsIn_of_wp_marks Try.func13 rfl trivial ?_ rfl
  simp only [Try.ntmps13, List.size_toArray, List.length_cons, List.length_nil, Nat.reduceAdd, Nat.reduceSub, Array.replicate_succ, Array.replicate_zero, List.push_toArray, List.append_toArray, List.nil_append, List.cons_append]
  refine wpIn_wide.2 ?_
  obtain ⟨W1, hW1⟩ : ∃ W1, W.alloc (.cells #[.pointer (some ⟨tb, 0, none⟩)] 24) = W1 := ⟨_, rfl⟩
  obtain ⟨W2, hW2⟩ : ∃ W2, W1.alloc (.cells (madeCells #[.int .i32 0] NN) 33) = W2 := ⟨_, rfl⟩
  obtain ⟨W3, hW3⟩ : ∃ W3, W2.alloc (.cells #[.slice (some ⟨W.heap.size + 1, 0, none⟩) 0 NN] 40) = W3 := ⟨_, rfl⟩
  obtain ⟨W4, hW4⟩ : ∃ W4, W3.alloc (.cells #[.slice (some ⟨gl, lf, none⟩) NN (cl - lf)] 40) = W4 := ⟨_, rfl⟩
  have hs1 : W1.heap.size = W.heap.size + 1 := by rw [← hW1]; simp
  have hs2 : W2.heap.size = W.heap.size + 2 := by rw [← hW2]; simp; omega
  have hs3 : W3.heap.size = W.heap.size + 3 := by rw [← hW3]; simp; omega
  have hs4 : W4.heap.size = W.heap.size + 4 := by rw [← hW4]; simp; omega
  have hb12 : Below W1.heap.size W1 W2 := by rw [← hW2]; exact below_box _ _
  have hb13 : Below W1.heap.size W1 W3 := by rw [← hW3]; exact hb12.alloc hb12.size _
  have hb14 : Below W1.heap.size W1 W4 := by rw [← hW4]; exact hb13.alloc hb13.size _
  rw [hW1] at c1 c2 d0 hT1 hbx
  have t1 : W1.cell? ⟨W.heap.size, 0, none⟩ = some (.pointer (some ⟨tb, 0, none⟩)) := by rw [← hW1]; exact row_cell (heap_alloc_new W _) 0
  have t3 : W3.cell? ⟨W.heap.size, 0, none⟩ = some (.pointer (some ⟨tb, 0, none⟩)) := (hb13.cell (p := ⟨W.heap.size, 0, none⟩) (by show W.heap.size < _; omega)).trans t1
  have c13 : W3.cell? ⟨tb, 1, none⟩ = some (.slice (some ⟨gl, 0, none⟩) s.R.length cl) := row_cell (hT1.below hb13).blk 1
  have hmk1 := hmk W1
  rw [hs1] at hmk1
  change _ = Result.ok _ (W1.alloc (.cells (madeCells #[.int .i32 0] NN) 33)) at hmk1
  rw [hW2] at hmk1
  have C41 := hid (backward41 (some ⟨gl, lf, none⟩) NN (cl - lf) W3)
  rw [hW4, hs3] at C41
  clear hmk
  have hNN2 : s.R.length - lf = NN := by omega
  go_wp2_with (fail)
  go_at_call 41
  refine C41.out.mono ?_
  clear C41
  rintro e w6 ⟨rfl, hw6⟩
  rw [hw6]
  clear hw6
  go_wp2_with (fail)
  have hT4 := hT1.below hb14
  have hB4 : Below W.heap.size W W4 := hbx.trans (hb14.mono hbx.size)
  have hg4 : W4.heap[gl]? = some (.cells cur 33 (0, 0)) := (hB4.block gl (lt_of_blk hgl)).trans hgl
  have hgll := lt_of_blk hgl
  have hb24 : Below W2.heap.size W2 W4 := by rw [← hW4, ← hW3]; exact ((Below.refl _ W2).alloc (Nat.le_refl _) _).alloc (by simp) _
  have hb34 : Below W3.heap.size W3 W4 := by rw [← hW4]; exact below_box _ _
  have hTb4 : W4.heap[W.heap.size]? = some (.cells #[.pointer (some ⟨tb, 0, none⟩)] 24 (0, 0)) := (hb14.block _ (by omega)).trans (by rw [← hW1]; exact heap_alloc_new W _)
  have hm4 : W4.heap[W.heap.size + 1]? = some (.cells (madeCells #[.int .i32 0] NN) 33 (0, 0)) := (hb24.block _ (by omega)).trans (by rw [← hW2, ← hs1]; exact heap_alloc_new W1 _)
  have hG4 : W4.heap[W.heap.size + 2]? = some (.cells #[.slice (some ⟨W.heap.size + 1, 0, none⟩) 0 NN] 40 (0, 0)) := (hb34.block _ (by omega)).trans (by rw [← hW3, ← hs2]; exact heap_alloc_new W2 _)
  have hS4 : W4.heap[W.heap.size + 3]? = some (.cells #[.slice (some ⟨gl, lf, none⟩) NN (cl - lf)] 40 (0, 0)) := by rw [← hW4, ← hs3]; exact heap_alloc_new W3 _
  have I4 := hid (show Inv W Q tb gv (.slice (some ⟨gl, 0, none⟩) s.R.length cl) (.slice (some ⟨gb, 0, none⟩) s.B.length cb) n s W.heap.size (W.heap.size + 2) [] W4 from by
    obtain ⟨cv, r1, r2⟩ := hT4.var
    exact ⟨⟨hT4.lt, hT4.nt, hT4.nv, hT4.nl, hT4.nb, hT4.blk, ⟨cv, r1, r2.congr (fun u _ => (Trl.fcl_nil s.R u).symm)⟩, hT4.lits, hT4.begs⟩, hTb4, ⟨some ⟨W.heap.size + 1, 0, none⟩, NN, hG4, own_mk (by omega) hm4 (Nat.zero_le _) (by unfold maxLen; omega) (size_madeCells _ _) (by simp)⟩, Fr.of_below hB4⟩)
  have SQ := hid (seq55 8 (by omega) (W.heap.size + 3) gl lf (cl - lf) (Trl.enc s.R) NN W4 cur hg4 (fun j hj => by
    have hlt : lf + j < s.R.length := by omega
    have e1 : (ilits s.R)[lf + j]? = cur[lf + j]? := by rw [← htk, List.getElem?_take_of_lt hlt, Array.getElem?_toList]
    rw [← e1, Trl.enc_lt hlt]
    unfold ilits
    rw [List.getElem?_map, Trl.get_at hlt]
    rfl) hS4 (by omega))
  have IS4 := hid (show ∃ cs fr, W4.heap[W.heap.size + 3]? = some (.cells cs 40 fr) from ⟨_, _, hS4⟩)
  have HOK := hid h2
  have hQ := h1.lt
  have HQ := hid hQ
  have hRp : 0 < s.R.length := by omega
  clear hmk1 t1 t3 c1 c2 c13 d0 hT1 hT4 hg4 hb24 hb34 hTb4 hm4 hG4 hS4 hb12 hb13 hb14 h1 h2 hQ hW1 hW2 hW3 hW4 hgb htk hgl hbx
  refine (wpIn_wide (n := 9)).1 ?_
  have hw4 : W.heap.size ≤ W4.heap.size := by omega
  refine wpIn_rangeFunc_ownH rfl (by omega) (gf := 55) (lb := #[.pointer (some ⟨W.heap.size + 3, 0, none⟩)]) rfl trivial (enters_of Try.func55 (by kernel_rfl) rfl)
    SQ.out (fun h k => h.trans k) (fun X l o o' hl _ _ _ y ob hy hyb => (World.putObj_heap_other (by rcases hy with rfl | rfl <;> omega)).trans hyb) (Below.refl _ _) (fun _ => rfl)
    (fun pre X => Inv W Q tb gv (.slice (some ⟨gl, 0, none⟩) s.R.length cl) (.slice (some ⟨gb, 0, none⟩) s.B.length cb) n s W.heap.size (W.heap.size + 2) pre X ∧ ∃ cs fr, X.heap[W.heap.size + 3]? = some (.cells cs 40 fr)) (fun _ _ _ => False) (fun pre X Y row hI hg hr => ⟨inv_own W Q tb gv _ _ n s _ _ _ hw4 pre X Y row hI.1 hg hr, hI.2.imp (fun cs hc => hc.imp (fun fr hx => grown_cells hg hr hx))⟩) (fun _ _ _ _ _ h _ _ => h) ⟨I4.out, IS4.out⟩
    (fun x a' X => a' = { tmps := #[Value.pointer (some { block := tb, off := 0 }), Value.int IntKind.i64 ↑lev, Value.pointer (some { block := W.heap.size, off := 0 }), undef, Value.slice none 0 0, Value.int IntKind.i64 0, Value.int IntKind.i64 ↑lf, Value.pointer (some { block := W.heap.size + 2, off := 0 }), Value.int IntKind.i32 (Trl.enc s.R x), Value.bool false, Value.pointer (some { block := tb, off := 0 }), Value.bool false, Value.bool false, Value.int IntKind.i64 ↑lev, Value.bool false, Value.bool false, Value.int IntKind.i64 ↑lev, Value.pointer (some { block := tb, off := 0 }), Value.pointer (some { block := tb, off := 0 }), Value.pointer (some { block := tb, off := 2 }), Value.slice (some { block := gb, off := 0 }) s.B.length cb, Value.int IntKind.i64 ↑s.B.length, Value.bool false, Value.bool false, Value.bool false, Value.int IntKind.i64 ↑lev, Value.pointer (some { block := tb, off := 0 }), Value.pointer (some { block := tb, off := 0 }), Value.pointer (some { block := tb, off := 2 }), Value.slice (some { block := gb, off := 0 }) s.B.length cb, Value.int IntKind.i64 ↑s.B.length, Value.bool false, Value.pointer (some { block := tb, off := 0 }), Value.pointer (some { block := tb, off := 0 }), Value.pointer (some { block := tb, off := 2 }), Value.slice (some { block := gb, off := 0 }) s.B.length cb, Value.int IntKind.i64 ↑lev, Value.pointer (some { block := gb, off := lev }), Value.int IntKind.i64 ↑lf, Value.pointer (some { block := tb, off := 0 }), Value.pointer (some { block := tb, off := 0 }), Value.pointer (some { block := tb, off := 1 }), Value.slice (some { block := gl, off := 0 }) s.R.length cl, Value.int IntKind.i64 ↑s.R.length, Value.int IntKind.i64 ↑lf, Value.int IntKind.i64 ↑NN, Value.slice (some { block := W.heap.size + 1, off := 0 }) 0 NN, Value.pointer (some { block := tb, off := 0 }), Value.pointer (some { block := tb, off := 0 }), Value.pointer (some { block := tb, off := 1 }), Value.slice (some { block := gl, off := 0 }) s.R.length cl, Value.int IntKind.i64 ↑lf, Value.slice (some { block := gl, off := lf }) NN (cl - lf), Value.func (Fn.func 55) #[] #[Value.pointer (some { block := W.heap.size + 3, off := 0 })], Value.int IntKind.i32 (Trl.enc s.R x), undef, undef, undef, undef, undef, undef, undef, undef, undef, undef, undef, undef, undef, undef, undef, undef, undef, undef, undef, undef, undef, undef, undef, undef, undef, undef, undef, undef, undef, undef, undef, undef, undef, undef, undef, undef, undef], defers := [] })
    (fun x a' => ?ax) ?assign ?body ?done (fun _ _ _ _ _ _ h _ => h.elim)
  case ax =>
    rintro _ X Y row h1 hg hr
    exact h1
  case assign =>
    intro l pre x X K hI hK
    have HK2 := hid (fun a' => hK a' X (KeepsFrom.refl _ _) (Kb.refl _ _ _) hI)
    clear hK hI SQ I4
    gi_wp2
    refine HK2.out _ ?_
    simp
  case body =>
    rintro l pre x a' X hl _ ⟨hI, hbs⟩ rfl hlen
    obtain ⟨v, hv⟩ : ∃ v : Nat, Trl.vr (Trl.enc s.R x) = (v : Int) + 1 := ⟨(Trl.vr (Trl.enc s.R x) - 1).toNat, by have := Trl.enc_ok HOK.out hRp x; omega⟩
    have hvn : v < n := by have := Trl.enc_ok HOK.out hRp x; omega
    have hx32 : I32 (Trl.enc s.R x) := by have := Trl.enc_ok HOK.out hRp x; unfold Trl.vr at this; unfold I32; split at this <;> omega
    have C42 := hid (of42 hI.tr hn (Trl.enc s.R x) hx32 v hv hvn)
    have ST := hid (fun q => hI.step HQ.out (by omega) (Nat.le_refl _) hgll x v hv hvn (by omega) q (W.heap.size + 3) hbs (by omega))
    have ct : X.cell? ⟨W.heap.size, 0, none⟩ = some (.pointer (some ⟨tb, 0, none⟩)) := row_cell hI.tbx 0
    obtain ⟨d0, d1, d2, d3, fz⟩ := hI.tr.cells hvn
    have f0 := fz (v * 4)
    have f1 := fz (v * 4 + 1)
    have f2 := fz (v * 4 + 2)
    have f3 := fz (v * 4 + 3)
    generalize Trl.fcl s.R pre v = kk at *
    have HBS := hid hbs
    clear hI fz SQ I4 hbs hv
    generalize Trl.enc s.R x = xv at *
    clear hlen hl
    gi_wp2_with (fail)
    refine ⟨trivial, ?_⟩
    gi_at_call 42
    refine (callsIn_wide.2 C42.out).mono ?_
    clear C42
    rintro e w8 ⟨rfl, q8, rfl⟩
    obtain ⟨o8, c8, g8, k8, X8, u1, hr8, u2, u3, hk8, hkb8, hI8⟩ := ST.out q8
    have hsz8 := set4_size (X.drewN q8) gv (v * 4) (.int .i32 0) (.int .i64 0) (.int .i64 0) (.int .i64 0)
    rw [show (X.drewN q8).heap.size = X.heap.size from rfl] at hsz8
    rw [← hsz8] at hr8
    obtain ⟨X1, hX1⟩ : ∃ X1, set4 (X.drewN q8) gv (v * 4) (.int .i32 0) (.int .i64 0) (.int .i64 0) (.int .i64 0) = X1 := ⟨_, rfl⟩
    rw [hX1] at u1 hr8
    unfold set4 at hX1
    have HRN := hid hr8
    have HI8 := hid hI8
    have HK8 := hid hk8
    have HKB8 := hid hkb8
    clear hr8 hI8 hk8 hkb8 ST hsz8
    gi_wp2_with (gi_at_builtin; refine wpListIn_append_run rfl (.tmp 60) (.tmp 62) 40 40 rfl rfl rfl HRN.out ?_)
    exact ⟨HK8.out _, HKB8.out, HI8.out, HBS.out.imp (fun cs hc => hc.imp (fun fr hx => HKB8.out _ _ (.inl rfl) hx))⟩
  case done =>
    rintro D ys X hD rfl ⟨hI, hbs⟩ hd
    rw [show pref lf NN NN = (List.range NN).map (fun i => lf + (NN - 1 - i)) from rfl] at hI
    have hlfN : lf + NN = s.R.length := by omega
    have HFA := hid (Trl.fcl_all HOK.out lf NN hlfN)
    have HGE := hid (Trl.gone_eq lf NN hlfN)
    have ct : X.cell? ⟨W.heap.size, 0, none⟩ = some (.pointer (some ⟨tb, 0, none⟩)) := row_cell hI.tbx 0
    obtain ⟨og, cg, hG, hown⟩ := hI.gn
    have cg1 : X.cell? ⟨W.heap.size + 2, 0, none⟩ = _ := row_cell hG 0
    have b1 := row_cell hI.tr.blk 1
    have b2 := row_cell hI.tr.blk 2
    have b3 := row_cell hI.tr.blk 3
    have htn : tb ≠ W.heap.size := by
      rintro rfl
      have := hI.tr.blk
      rw [hI.tbx] at this; injection this with e; injection e with _ e; cases e
    have g1 := row_frozen hI.tr.blk 1
    have g2 := row_frozen hI.tr.blk 2
    have g3 := row_frozen hI.tr.blk 3
    have HI := hid hI
    have HD := hid hd
    have hlfc : lf ≤ cl := by omega
    have hlvc : lev ≤ cb := by omega
    clear hI hd SQ I4 IS4 hG hbs hown
    go_wp2_with (fail)
    refine reg13 tb W.heap.size gl gb cl cb s.R.length s.B.length lf lev s.h (by omega) hlc (by omega) hbc ct htn b1 b2 b3 g1 g2 g3 _ _ _ _ _ _ _ _ _ _ _ _ _ _ _ _ _ _ _ _ _ _ _ _ _ _ _ _ _ _ _ _ _ _ _ _ _ _ _ _ _ _ _ _ _ _ _ _ _ _ _ _ _ _ _ _ _ _ _ _ _ _ _ _ _ _ _ _ _ _ _ _ _ _ _ _ _ _ _ _ _ _ _ _ _ _ _ _ _ ?_
    intro u64 u65 u66 u67 u68 u69 u70 u71 u72 u73 u74 u75 u76 u77 u78 u79 u80 u81 u82 u83 u84 u85 u86 u87 u88 u89 u90
    clear ct b1 b2 b3 g1 g2 g3
    dsimp only
    obtain ⟨hTC, hFC⟩ := HI.out.tr.cut (lf := lf) (lev := lev) (by omega) (by omega)
    obtain ⟨Y, hY⟩ : ∃ Y, (((X.drew).setCell ⟨tb, 1, none⟩ (.slice (some ⟨gl, 0, none⟩) lf cl)).setCell ⟨tb, 2, none⟩ (.slice (some ⟨gb, 0, none⟩) lev cb)).setCell ⟨tb, 3, none⟩ (.int .i64 (min (s.h : Int) (lf : Int))) = Y := ⟨_, rfl⟩
    rw [hY] at hTC hFC ⊢
    obtain ⟨og, cg, hG, hown⟩ := HI.out.gn
    have hYo : ∀ x, x ≠ tb → Y.heap[x]? = X.heap[x]? := fun x hx => by rw [← hY, heap_other _ _ hx, heap_other _ _ hx, heap_other _ _ hx]; rfl
    have hGt : W.heap.size + 2 ≠ tb := by rintro e; have := HI.out.tr.blk; rw [← e, hG] at this; injection this with e; injection e with _ e; cases e
    have hDY : Y.heap[D]? = some (.deferred (some [])) := (hYo D (by rintro rfl; have := HI.out.tr.blk; rw [HD.out] at this; cases this)).trans HD.out
    have cgY : Y.cell? ⟨W.heap.size + 2, 0, none⟩ = _ := row_cell ((hYo _ hGt).trans hG) 0
    have hownY := own_other (g := tb) hown (fun e => own_type hown HI.out.tr.blk (by decide) e.symm) hYo
    have HOUT := hid (show BackOut Q tb n W (Trl.gone s lev) 0 (Trl.back s lev) (.returned (.tuple #[.slice og ((List.range NN).map (fun i => lf + (NN - 1 - i))).length cg, .int .i64 0])) (Y.putObj D (.deferred none)) from by
      have hleft : Trl.left s lev = lf := by unfold Trl.left; rw [if_pos hlev, hlf]
      have hgl2 : (Trl.gone s lev) = ((List.range NN).map (fun i => lf + (NN - 1 - i))).map (Trl.enc s.R) := by rw [HGE.out]; unfold Trl.gone; rw [hleft]
      have hgn : (Trl.gone s lev).length = ((List.range NN).map (fun i => lf + (NN - 1 - i))).length := by rw [hgl2, List.length_map]
      have hput : ∀ (x : Nat) (o : Obj), Y.heap[x]? = some o → o.isCells = true → (Y.putObj D (.deferred none)).heap[x]? = some o := fun x o hx hc => (World.putObj_heap_other (by rintro rfl; rw [hDY] at hx; cases hx; cases hc)).trans hx
      have howp : ∀ (base e size m : Nat) (v : Value) (xs : List Value), Y.ownsRow base e size v m xs → (Y.putObj D (.deferred none)).ownsRow base e size v m xs := fun base e size m v xs h => by
        refine ⟨h.1, h.2.imp id ?_⟩
        rintro ⟨g', c, cu, e1, h1, h2, h3⟩
        exact ⟨g', c, cu, e1, h1, hput _ _ h2 rfl, h3⟩
      refine ⟨og, cg, by rw [hgn], ?_, ⟨gv, _, _, ⟨fun g hg => ?_, hTC.nt, hTC.nv, hTC.nl, hTC.nb, ?_, ?_, ?_, ?_⟩, HOK.out.back (by omega)⟩, ?_⟩
      · rw [hgn, hgl2]; exact howp _ _ _ _ _ _ hownY
      · have := hTC.lt g hg; simpa [World.putObj] using this
      · have := hput _ _ hTC.blk rfl
        rw [this]
        show _ = some (Obj.cells #[_, _, _, .int .i64 ((min s.h (Trl.left s lev) : Nat) : Int)] 63 (0, 0))
        rw [hleft]
      · obtain ⟨cv, r1, r2⟩ := hTC.var
        refine ⟨cv, hput _ _ r1 rfl, r2.congr (fun u _ => ?_)⟩
        rw [HFA.out u]
        show _ = Trl.know (s.R.take (Trl.left s lev)) _
        rw [hleft]
      · show World.ownsRow _ 0 33 1 _ (s.R.take (Trl.left s lev)).length (ilits (s.R.take (Trl.left s lev)))
        rw [hleft]
        exact howp _ _ _ _ _ _ hTC.lits
      · exact howp _ _ _ _ _ _ hTC.begs
      · have hF := HI.out.fr.trans hFC
        refine ⟨hF.os, hF.tape, hF.output, by simpa [World.putObj] using hF.size, fun g o hg hp => ?_⟩
        exact (World.putObj_heap_other (by have := lt_of_blk hg; omega)).trans (hF.block g o hg hp))
    have HDY := hid hDY
    clear hY hTC hFC hG hown hYo hownY hDY HI HFA HGE cg1
    simp only [List.length_map, List.length_range] at cgY HOUT
    go_wp2
    refine leave_one HDY.out ⟨_, results_tmp2 rfl _ _ _, ?_⟩
    exact HOUT.out
end Go.Proofs.Ytckpahdlcdgbpaa
