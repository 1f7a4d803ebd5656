/- The program's Extend, as a call. -/
import Derived.Test.YtjakfgpgcnbclaaBack
import Derived.Shelf.Abstract
namespace Go.Proofs.Ytjakfgpgcnbclaa
open Go.RowKit Go.Shelf
set_option linter.unusedVariables false
set_option linter.unusedSimpArgs false

variable {P : Program} in
/-- A function leaves behind one loop over a function: the loop's block holds no call. -/
theorem leave_one {n D : Nat} {fn : Func} {tmps : Array Value} {R : Ending → World → Prop} {W : World} (hd : W.heap[D]? = some (.deferred (some [])))
    (h : ∃ v, (results fn tmps).run P (W.putObj D (.deferred none)) = .ok v (W.putObj D (.deferred none)) ∧ R (.returned v) (W.putObj D (.deferred none))) : LeavesInM Fence.wide n P fn tmps R [{ target := .collected D, args := #[] }] .returning W :=
  ⟨by simp, .inl ⟨D, _, rfl, run_takeDeferred hd, h⟩⟩
theorem below_put {C l : Nat} (W : World) (o' : Obj) (h : C ≤ l) : Below C W (W.putObj l o') := ⟨rfl, rfl, rfl, by simp [World.putObj], fun k hk => World.putObj_heap_other (by omega)⟩

set_option maxHeartbeats 1000000 in
theorem ext7_err (a la : Option Addr) (n cap ln lcap : Nat) (m : List Bool) (s : List Ext.Wt) (w : World) (hn : n ≤ 16777216) (hs : s.length = ln) (hsn : ln ≤ 8796093022208) (hws : Wits w la s) (hok : Ext.okS n s = false) :
    Calls Try.prog 7 #[.slice a n cap, .slice la ln lcap] w fun e w' => ExtOut w n m s e w' ∧ Below w.heap.size w w' := by
  have C := hid (right17 la ln lcap n s w hs hsn (by omega) hws)
  rw [hok] at C
  have HK := hid hok
  clear hws hs hok
  go_enter Try.func7, Try.ntmps7
  go_wp2_with (go_at_call 17; refine C.out.mono ?_; clear C; rintro e w1 ⟨rfl, hb⟩; have HB := hid hb; clear hb)
  go_ret2
  exact ⟨.inl ⟨HK.out, rfl⟩, HB.out⟩

/-- The loop's own state. -/
def Inv (w : World) (G : Nat) (o : Option Addr) (n : Nat) (m : List Bool) (pre : List (Qw w n)) (W : World) : Prop :=
  MOwn w.heap.size W o n (pre.foldl (fun m q => Ext.one m q.p) m) ∧ W.heap[G]? = some (.cells #[.slice o n n] 23 (0, 0)) ∧ Below w.heap.size w W
theorem grown_cells {X Y : World} {row : Option Nat} {B k : Nat} {cs : Array Value} {t : TypeId} {fr : Nat × Nat} (hg : X.grownBy Y row) (hr : ∀ r, row = some r → B ≤ r ∧ ∃ o : Obj, X.heap[r]? = some o ∧ o.isCells = false) (h : X.heap[k]? = some (.cells cs t fr)) : Y.heap[k]? = some (.cells cs t fr) := by
  refine (hg.block k (Array.getElem?_eq_some_iff.1 h).1 ?_).trans h
  intro e
  obtain ⟨_, o, h1, h2⟩ := hr k e.symm
  rw [h] at h1; cases h1; cases h2
theorem inv_own (w : World) (G : Nat) (o : Option Addr) (n : Nat) (m : List Bool) (B : Nat) (hB : w.heap.size ≤ B) : OwnFrom B (Inv w G o n m) := by
  rintro pre X Y row ⟨h1, h2, h3⟩ hg hr
  refine ⟨⟨h1.1, h1.2.imp id ?_⟩, grown_cells hg hr h2, h3.grown hg h3.size (fun k e => Nat.le_trans hB (hr k e).1)⟩
  rintro ⟨g, A, e, q1, q2, q3⟩
  exact ⟨g, A, e, q1, grown_cells hg hr q2, q3⟩
theorem mown_of_row {B : Nat} {W : World} {g n : Nat} {m : List Bool} (hn : m.length = n) (hB : B ≤ g) (h : W.heap[g]? = some (.cells (m.map Value.bool).toArray 4 (0, 0))) : MOwn B W (some ⟨g, 0, none⟩) n m := by
  refine ⟨hn, .inr ⟨g, _, rfl, hB, h, by simp; omega, fun t ht => ?_⟩⟩
  simp [List.getD, List.getElem?_eq_getElem (show t < m.length by omega)]
theorem info4s : (Try.prog.info? 4).map (·.size) = some 1 := by kernel_rfl

theorem copy_model (W : World) (a : Option Addr) (g n cap : Nat) (m : List Bool) (L0 : List Value) (hm : m.length = n) (hb : Bools W a m) (hL : L0.length = n) (hg : W.heap[g]? = some (.cells L0.toArray 4 (0, 0))) :
    ∃ V, (Builtin.copy_ #[23, 23] 3 #[.slice (some ⟨g, 0, none⟩) n n, .slice a n cap]).run Try.prog W = .ok (goInt n) V ∧ V.heap[g]? = some (.cells (m.map Value.bool).toArray 4 (0, 0)) ∧ Only g W V := by
  rcases Nat.eq_zero_or_pos n with h0 | hp
  · subst h0
    have e1 : m = [] := List.eq_nil_of_length_eq_zero hm
    have e2 : L0 = [] := List.eq_nil_of_length_eq_zero hL
    subst e1 e2
    exact ⟨W, run_copy_none W 23 23 3 4 _ _ 0 0 0 cap Try.underlying23 info4s rfl, hg, Only.refl _ _⟩
  · rcases hb with hb | ⟨b, off, rfl, hl, hc⟩
    · rw [hb] at hm; simp at hm; omega
    · have := run_copy_row (P := Try.prog) W 23 23 3 4 g 0 n n ⟨b, off, none⟩ n cap L0.toArray 4 (m.map Value.bool) Try.underlying23 info4s hg (by simp; omega) (fun j v hv => by
        rw [show (⟨b, off, none⟩ : Addr).add j = ⟨b, off + j, none⟩ from Go.WideShapes.add_plain _ _ _]
        have hj : j < m.length := by
          rcases Nat.lt_or_ge j m.length with h' | h'
          · exact h'
          · rw [List.getElem?_eq_none (by simpa using h')] at hv; cases hv
        rw [hc j hj]
        simp [List.getD, List.getElem?_eq_getElem hj] at hv ⊢
        exact hv) (by simp; omega) (by intro u hu; obtain ⟨x, _, rfl⟩ := List.mem_map.1 hu; rfl)
      simp only [List.length_map, hm] at this
      refine ⟨_, this, ?_, ?_⟩
      · rw [setRow_heap W g _ _ 4 _ hg]
        simp [hL]
      · exact ⟨rfl, rfl, rfl, by simp [World.setRow], fun k hk => setRow_other W g k _ hk⟩

theorem Only.keeps {g B : Nat} {W W' : World} (h : Only g W W') (hg : g < B) : KeepsFrom B W W' := ⟨Nat.le_of_eq h.size.symm, fun k o hk ho _ => (h.other k (by omega)).trans ho⟩
theorem Only.kb {g n₀ Bs : Nat} {W W' : World} (h : Only g W W') (hg : n₀ ≤ g) (hs : Bs ≠ g) : Kb n₀ Bs W W' := ⟨h.below (Below.refl _ _) hg, fun o ho => (h.other _ hs).trans ho⟩
theorem kb_put {n₀ Bs : Nat} {w : World} (hn : n₀ ≤ w.heap.size) (hb : Bs < w.heap.size) (W : World) (l : Nat) (o o' : Obj) (hl : w.heap.size ≤ l) (_ : W.heap[l]? = some o) (_ : o.isCells = false) (_ : o.isWalk = false) : Kb n₀ Bs W (W.putObj l o') :=
  ⟨below_put W o' (by omega), fun x hx => (World.putObj_heap_other (by omega)).trans hx⟩
theorem kb_alloc {n₀ Bs : Nat} (W : World) (hn : n₀ ≤ W.heap.size) (o : Obj) : Kb n₀ Bs W (W.alloc o) :=
  ⟨(Below.refl _ W).alloc hn o, fun x hx => (Below.heap_alloc _ _ _ (Array.getElem?_eq_some_iff.1 hx).1).trans hx⟩
theorem fold_snoc {w : World} {n : Nat} (m : List Bool) (pre : List (Qw w n)) (x : Qw w n) : (pre ++ [x]).foldl (fun m q => Ext.one m q.p) m = Ext.one (pre.foldl (fun m q => Ext.one m q.p) m) x.p := by simp
theorem fold_all {w : World} {n : Nat} (m : List Bool) (s : List Ext.Wt) (ys : List (Qw w n)) (h : ys.map (·.p) = s.reverse) : ys.foldl (fun m q => Ext.one m q.p) m = Ext.ext m s := by
  have : ys.foldl (fun m q => Ext.one m q.p) m = (ys.map (·.p)).foldl Ext.one m := by rw [List.foldl_map]
  rw [this, h, List.foldl_reverse]
  rfl

attribute [local go_sem] Oper.semAt_some
set_option maxRecDepth 100000 in
set_option maxHeartbeats 8000000 in
theorem ext7_ok (a la : Option Addr) (n cap ln lcap : Nat) (m : List Bool) (s : List Ext.Wt) (w : World) (hm : m.length = n) (hn : n ≤ 16777216) (hbm : Bools w a m) (hs : s.length = ln) (hsn : ln ≤ 8796093022208) (hws : Wits w la s) (hok : Ext.okS n s = true) :
    Calls Try.prog 7 #[.slice a n cap, .slice la ln lcap] w fun e w' => ExtOut w n m s e w' ∧ Below w.heap.size w w' := by
  have C := hid (right17 la ln lcap n s w hs hsn (by omega) hws)
  rw [hok] at C
  have HK := hid hok
  obtain ⟨f, hf⟩ := qs_of hws hok
  have HF := hid hf
  have HS := hid hs
  have HM := hid hm
  have HBM := hid hbm
  obtain ⟨i0, hi, hz⟩ := Option.map_eq_some_iff.1 info4
  simp only [Prod.mk.injEq] at hz
  have hmk := fun W => run_makeSlice (P := Try.prog) W 23 4 i0 (.bool false) Try.underlying23 hi hz.1 .i64 .i64 (n : Int) (n : Int) (by omega) (Int.le_refl _) (by rw [hz.2.1]; omega) (by rw [hz.2.2]; omega) (by omega)
  simp only [hz.2.1, Nat.mul_one, Int.toNat_natCast] at hmk
  obtain ⟨L0, hL0⟩ : ∃ L0 : List Value, madeCells (Value.bool false).cells n = L0.toArray := ⟨(madeCells (Value.bool false).cells n).toList, by simp⟩
  have hsz : L0.length = n := by have := size_madeCells (Value.bool false).cells n; rw [hL0] at this; simpa using this
  rw [hL0] at hmk
  have HMK := hid hmk
  have HSZ := hid hsz
  clear hws hs hok hf hm hbm hi hz hL0 hmk hsz
  refine (callsIn_wide (n := 9)).1 ?_
  refine callsIn_of_wp_marks Try.func7 rfl trivial ?_ rfl
  simp only [Try.ntmps7, List.size_toArray, List.length_cons, List.length_nil, Nat.reduceAdd, Nat.reduceSub, Array.replicate_succ, Array.replicate_zero, List.push_toArray, List.append_toArray, List.nil_append, List.cons_append]
  refine wpIn_wide.2 ?_
  go_wp2_with (fail)
  go_at_call 17
  refine C.out.mono ?_
  clear C
  rintro e W1 ⟨rfl, hb1⟩
  have hmk := HMK.out W1
  have HB1 := hid hb1
  have hsz1 := hb1.size
  generalize hg : W1.heap.size = g at hmk
  obtain ⟨W2, hW2⟩ : ∃ W2, W1.alloc (.cells L0.toArray 4) = W2 := ⟨_, rfl⟩
  have hs2 : W2.heap.size = g + 1 := by rw [← hW2, ← hg]; simp
  obtain ⟨W3, hW3⟩ : ∃ W3, W2.alloc (.cells #[.slice (some ⟨g, 0, none⟩) n n] 23) = W3 := ⟨_, rfl⟩
  have hb3 : Below w.heap.size w W3 := by
    rw [← hW3, ← hW2]
    exact (hb1.alloc hsz1 _).alloc (by simp; omega) _
  have hg3 : W3.heap[g]? = some (.cells L0.toArray 4 (0, 0)) := by
    rw [← hW3, ← hW2]
    refine (Below.heap_alloc _ _ _ (by simp; omega)).trans ?_
    rw [← hg]
    exact World.alloc_heap_new W1 _
  have hG3 : W3.heap[g + 1]? = some (.cells #[.slice (some ⟨g, 0, none⟩) n n] 23 (0, 0)) := by
    rw [← hW3, ← hs2]; exact World.alloc_heap_new W2 _
  have c3 : W3.cell? ⟨g + 1, 0, none⟩ = some (.slice (some ⟨g, 0, none⟩) n n) := row_cell hG3 0
  obtain ⟨W4, hr4, hg4, hO4⟩ := copy_model W3 a g n cap m L0 HM.out (HBM.out.below hb3) HSZ.out hg3
  have hB4 : Below w.heap.size w W4 := hO4.below hb3 (by omega)
  have hG4 : W4.heap[g + 1]? = some (.cells #[.slice (some ⟨g, 0, none⟩) n n] 23 (0, 0)) := (hO4.other _ (by omega)).trans hG3
  have hs4 : W4.heap.size = g + 2 := by rw [hO4.size, ← hW3]; simp; omega
  obtain ⟨W5, hW5⟩ : ∃ W5, W4.alloc (.cells #[.slice la ln lcap] 24) = W5 := ⟨_, rfl⟩
  have hb5 : Below W4.heap.size W4 W5 := by rw [← hW5]; exact below_box _ _
  have hB5 : Below w.heap.size w W5 := hB4.trans (hb5.mono (by omega))
  have hs5 : W5.heap.size = g + 3 := by rw [← hW5]; simp; omega
  have hG5 : W5.heap[g + 1]? = some (.cells #[.slice (some ⟨g, 0, none⟩) n n] 23 (0, 0)) := (hb5.block _ (by omega)).trans hG4
  have hS5 : W5.heap[g + 2]? = some (.cells #[.slice la ln lcap] 24 (0, 0)) := by rw [← hW5, ← hs4]; exact World.alloc_heap_new W4 _
  have hg5 : W5.heap[g]? = some (.cells (m.map Value.bool).toArray 4 (0, 0)) := (hb5.block _ (by omega)).trans hg4
  have I5 := hid (show Inv w (g + 1) (some ⟨g, 0, none⟩) n m [] W5 from ⟨mown_of_row HM.out (by omega) hg5, hG5, hB5⟩)
  have SQ := hid (seq27 8 (by omega) (g + 2) n la lcap s ln HS.out w W5 hB5 f HF.out hS5 hsn)
  have C18 := hid (backward18 la ln lcap W4)
  rw [hW5, hs4] at C18
  rw [hW2] at hmk
  have HB5 := hid hB5
  clear hb1 hb3 hg3 hG3 HMK hW2 hg4 hO4 hB4 hG4 hs4 hb5 hB5 hG5 hS5 hg5 hW5
  go_wp2_with (first
    | (go_at_call 18; refine C18.out.mono ?_; clear C18; rintro e w6 ⟨rfl, hw6⟩; rw [hw6]; clear hw6))
  clear hr4 hmk c3 hW3
  refine (wpIn_wide (n := 9)).1 ?_
  have hw5 : w.heap.size ≤ W5.heap.size := by omega
  refine wpIn_rangeFunc_ownH rfl (by omega) (gf := 27) (lb := #[.pointer (some ⟨g + 2, 0, none⟩)]) rfl trivial (enters_of Try.func27 (by kernel_rfl) rfl)
    SQ.out (fun h k => h.trans k) (kb_put hw5 (by omega)) (Below.refl _ _) (fun _ => rfl)
    (Inv w (g + 1) (some ⟨g, 0, none⟩) n m) (fun _ _ _ => False) (inv_own w _ _ n m _ hw5) (fun _ _ _ _ _ h _ _ => h) I5.out
    (fun x a' W => ∃ B7, a' = { tmps := #[Value.slice a n cap, Value.slice la ln lcap, undef, undef, Value.slice none 0 0, Value.int IntKind.i64 0,
          Value.pointer (some { block := g + 1, off := 0 }), Value.pointer (some { block := B7, off := 0 }), Value.slice la ln lcap, Value.slice a n cap,
          Value.int IntKind.i64 ↑n, Value.bool true, Value.bool false, Value.slice a n cap, Value.int IntKind.i64 ↑n,
          Value.slice (some { block := g, off := 0 }) n n, Value.slice (some { block := g, off := 0 }) n n,
          Value.slice a n cap, Value.int IntKind.i64 ↑n, Value.slice la ln lcap,
          Value.func (Fn.func 27) #[] #[Value.pointer (some { block := g + 2, off := 0 })], x.v, undef, undef, undef,
          undef, undef, undef, undef, undef, undef, undef], defers := [] } ∧ W.heap[B7]? = some (.cells #[.slice x.a1 x.p.1.length x.c1, .slice x.a2 x.p.2.length x.c2] 42 (0, 0)))
    (fun x a' => ?ax) ?assign ?body ?done (fun _ _ _ _ _ _ h _ => h.elim)
  case ax =>
    rintro _ X Y row ⟨B7, h1, h2⟩ hg hr
    exact ⟨B7, h1, grown_cells hg hr h2⟩
  case assign =>
    intro l pre x W K hI hK
    have hK' := hid hK
    have hI' := hid hI
    have hsW := hI.2.2.size
    clear hK hI
    have hK2 := fun a' => hK'.out a' (W.alloc (.cells #[.slice x.a1 x.p.1.length x.c1, .slice x.a2 x.p.2.length x.c2] 42)) ((KeepsOthers.alloc W _).from _) (kb_alloc W (by omega) _) ((inv_own w _ _ n m _ (Nat.le_refl _)).alloc _ hI'.out)
    have hnew := World.alloc_heap_new W (.cells #[.slice x.a1 x.p.1.length x.c1, .slice x.a2 x.p.2.length x.c2] 42)
    have HK2 := hid (fun a' => hK2 a')
    clear hK2
    unfold Qw.v at *
    generalize x.p.1.length = l1 at *
    generalize x.p.2.length = l2 at *
    generalize x.a1 = z1 at *
    generalize x.a2 = z2 at *
    generalize x.c1 = d1 at *
    generalize x.c2 = d2 at *
    have HNEW := hid hnew
    clear hnew hK'
    gi_wp2
    refine HK2.out _ ⟨W.heap.size, ?_, HNEW.out⟩
    simp
  case body =>
    rintro l pre x a' W hl _ ⟨hM, hG, hBW⟩ ⟨B7, rfl, h7⟩ hlen
    have c6 : W.cell? ⟨g + 1, 0, none⟩ = some (.slice (some ⟨g, 0, none⟩) n n) := row_cell hG 0
    have c70 : W.cell? ⟨B7, 0, none⟩ = some (.slice x.a1 x.p.1.length x.c1) := row_cell h7 0
    have c71 : W.cell? ⟨B7, 1, none⟩ = some (.slice x.a2 x.p.2.length x.c2) := row_cell h7 1
    have HFS := hid (fold_snoc m pre x)
    unfold Inv
    generalize pre.foldl (fun m q => Ext.one m q.p) m = M at hM HFS
    have CV := hid (value19 x.a2 (some ⟨g, 0, none⟩) x.p.2.length x.c2 n n x.p.2 M W rfl x.n2 hM.1 (by omega) (x.h2.below hBW) hM.bools)
    have CT := hid (turn20 (some ⟨g, 0, none⟩) x.a1 n n x.p.1.length x.c1 M x.p.1 w W hM hBW (by omega) rfl x.n1 x.o1 x.h1)
    obtain ⟨r, hr⟩ : ∃ r, Cnf.val x.p.2 M = r := ⟨_, rfl⟩
    rw [hr] at CV
    have HVR := hid hr
    have HM := hid hM
    have HG := hid hG
    have HBW := hid hBW
    clear hM hG hBW h7 hr SQ I5 HF
    unfold Qw.v
    cases r
    · have HD := hid (show Ext.one M x.p = Ext.turn M x.p.1 from Ext.one_false HVR.out)
      rw [HD.out] at HFS
      clear HD HVR
      generalize Ext.turn M x.p.1 = M2 at CT HFS
      generalize x.p.1.length = l1 at *
      generalize x.p.2.length = l2 at *
      generalize x.a1 = z1 at *
      generalize x.a2 = z2 at *
      generalize x.c1 = d1 at *
      generalize x.c2 = d2 at *
      gi_wp2_with (first
        | (refine ⟨trivial, ?_⟩; gi_at_call 19; refine (callsIn_wide.2 CV.out).mono ?_; clear CV; rintro e w8 ⟨rfl, hw8⟩; rw [hw8]; clear hw8)
        | (refine ⟨trivial, ?_⟩; gi_at_call 20; refine (callsIn_wide.2 CT.out).mono ?_; clear CT; rintro e w9 ⟨rfl, ht9⟩; have HT9 := hid ht9; clear ht9))
      have ho : Only g W w9 := by
        rcases HT9.out.2 with ⟨_, e⟩ | ⟨g', e, _, h⟩
        · rw [e]; exact Only.refl _ _
        · cases e; exact h
      exact ⟨ho.keeps (by omega), ho.kb (by omega) (by omega), by rw [HFS.out]; exact HT9.out.1, (ho.other _ (by omega)).trans HG.out, ho.below HBW.out (by omega)⟩
    · have HD := hid (show Ext.one M x.p = M from Ext.one_true HVR.out)
      rw [HD.out] at HFS
      clear HD HVR
      generalize x.p.1.length = l1 at *
      generalize x.p.2.length = l2 at *
      generalize x.a1 = z1 at *
      generalize x.a2 = z2 at *
      generalize x.c1 = d1 at *
      generalize x.c2 = d2 at *
      gi_wp2_with (refine ⟨trivial, ?_⟩; gi_at_call 19; refine (callsIn_wide.2 CV.out).mono ?_; clear CV; rintro e w8 ⟨rfl, hw8⟩; rw [hw8]; clear hw8)
      exact ⟨KeepsFrom.refl _ _, Kb.refl _ _ _, by rw [HFS.out]; exact HM.out, HG.out, HBW.out⟩
  case done =>
    rintro D ys W hD rfl ⟨hM, hG, hBW⟩ hd
    rw [fold_all m s _ (by have := pref_all f s (fun j hj => (HF.out j hj).1); rwa [HS.out] at this)] at hM
    have c6 : W.cell? ⟨g + 1, 0, none⟩ = some (.slice (some ⟨g, 0, none⟩) n n) := row_cell hG 0
    have HM2 := hid hM
    have HBW := hid hBW
    have HD := hid hd
    clear hM hBW hd SQ I5 HF hG
    go_wp2
    refine leave_one HD.out ⟨_, results_tmp2 rfl _ _ _, .inr ⟨HK.out, _, _, rfl, ?_⟩, HBW.out.trans (below_put _ _ (by omega))⟩
    refine ⟨HM2.out.1, HM2.out.2.imp id ?_⟩
    rintro ⟨g', A, e, q1, q2, q3⟩
    cases e
    exact ⟨g, A, rfl, q1, (World.putObj_heap_other (by omega)).trans q2, q3⟩

theorem ext7 (a la : Option Addr) (n cap ln lcap : Nat) (m : List Bool) (s : List Ext.Wt) (w : World) (hm : m.length = n) (hn : n ≤ 16777216) (hbm : Bools w a m) (hs : s.length = ln) (hsn : ln ≤ 8796093022208) (hws : Wits w la s) :
    Calls Try.prog 7 #[.slice a n cap, .slice la ln lcap] w fun e w' => ExtOut w n m s e w' ∧ Below w.heap.size w w' := by
  cases h : Ext.okS n s
  · exact ext7_err a la n cap ln lcap m s w hn hs hsn hws h
  · exact ext7_ok a la n cap ln lcap m s w hm hn hbm hs hsn hws h
end Go.Proofs.Ytjakfgpgcnbclaa
