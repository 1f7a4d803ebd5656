/- A step read, by the document. -/
import Derived.Test.YtmgeoeajnpnadaaRRow
import Derived.Test.YtmgeoeajnpnadaaPar
namespace Bin
theorem any_all (l : List Int) : l.all any = true := by simp [any]
theorem bound_rows {s : Lra.Stp} (h : Lra.may s = true) : (∀ x ∈ s.lits, x ≠ 0 ∧ -4611686018427387903 ≤ x ∧ x ≤ 4611686018427387903) ∧ (∀ x ∈ s.hints, x ≠ 0 ∧ -4611686018427387903 ≤ x ∧ x ≤ 4611686018427387903) := by
  unfold Lra.may at h
  split at h
  · simp only [Bool.and_eq_true] at h
    exact ⟨fun x hx => lit_bound (List.all_eq_true.1 h.2.1 x hx), fun x hx => hint_bound (List.all_eq_true.1 h.2.2 x hx)⟩
  · split at h
    · simp only [Bool.and_eq_true] at h
      exact ⟨fun x hx => by (rw [List.isEmpty_iff.1 h.2.1] at hx; cases hx), fun x hx => added_bound (List.all_eq_true.1 h.2.2 x hx)⟩
    · cases h
theorem stepR_add {t : List Int} (hb : Byt (97 :: t)) {s : Lra.Stp} {r : List Int} (h : stepR (97 :: t) = some (s, r)) : s.kind = 1 ∧ ∃ r0 r1, numR t = some (s.id, r0) ∧ rowF any r0 = some (s.lits, r1) ∧ rowF any r1 = some (s.hints, r) ∧ Lra.may s = true := by
  obtain ⟨e, hm⟩ := stepR_back hb h
  obtain ⟨hk, hi, _, _⟩ := Lra.may_fits hm
  obtain ⟨h1, h2⟩ := bound_rows hm
  have hk1 : s.kind = 1 := by
    rcases hk with hk | hk
    · exact hk
    · unfold stp at e
      rw [if_neg (by omega)] at e
      simp at e
  refine ⟨hk1, row s.lits ++ (0 :: (row s.hints ++ (0 :: r))), row s.hints ++ (0 :: r), ?_, rowF_put _ _ (any_all _) h1, rowF_put _ _ (any_all _) h2, hm⟩
  unfold stp at e
  rw [if_pos hk1, if_pos hk1] at e
  simp only [List.cons_append, List.append_assoc, List.nil_append, List.cons.injEq, true_and] at e
  rw [e]
  exact numR_put _ (by omega) (by omega)
theorem stepR_del {t : List Int} (hb : Byt (100 :: t)) {s : Lra.Stp} {r : List Int} (h : stepR (100 :: t) = some (s, r)) : s.kind = 2 ∧ s.lits = [] ∧ ∃ r0, numR t = some (s.id, r0) ∧ rowF any r0 = some (s.hints, r) ∧ Lra.may s = true := by
  obtain ⟨e, hm⟩ := stepR_back hb h
  obtain ⟨hk, hi, _, _⟩ := Lra.may_fits hm
  obtain ⟨h1, h2⟩ := bound_rows hm
  have hk1 : s.kind = 2 := by
    rcases hk with hk | hk
    · unfold stp at e
      rw [if_pos hk] at e
      simp at e
    · exact hk
  have hl : s.lits = [] := by
    have := hm
    unfold Lra.may at this
    rw [if_neg (by omega), if_pos hk1] at this
    simp only [Bool.and_eq_true] at this
    exact List.isEmpty_iff.1 this.2.1
  refine ⟨hk1, hl, row s.hints ++ (0 :: r), ?_, rowF_put _ _ (any_all _) h2, hm⟩
  unfold stp at e
  rw [if_neg (by omega), if_neg (by omega), hl] at e
  simp only [row_nil, List.cons_append, List.append_assoc, List.nil_append, List.cons.injEq, true_and] at e
  rw [e]
  exact numR_put _ (by omega) (by omega)
theorem add_some {t r0 r1 r2 ls hs : List Int} {id : Int} (hb : Byt t) (h0 : numR t = some (id, r0)) (h1 : rowF any r0 = some (ls, r1)) (h2 : rowF any r1 = some (hs, r2)) (hm : Lra.may ⟨1, id, ls, hs⟩ = true) : stepR (97 :: t) = some (⟨1, id, ls, hs⟩, r2) := by
  obtain ⟨e0, _⟩ := numR_back hb h0
  have b0 : Byt r0 := by rw [e0] at hb; exact hb.right
  obtain ⟨e1, _⟩ := rowF_back b0 h1
  have b1 : Byt r1 := by rw [e1] at b0; exact b0.right.tail
  obtain ⟨e2, _⟩ := rowF_back b1 h2
  have := stepR_put r2 hm
  rw [← this]
  unfold stp
  simp only [if_true, List.cons_append, List.append_assoc, List.nil_append]
  rw [e0, e1, e2]
theorem del_some {t r0 r1 hs : List Int} {id : Int} (hb : Byt t) (h0 : numR t = some (id, r0)) (h1 : rowF any r0 = some (hs, r1)) (hm : Lra.may ⟨2, id, [], hs⟩ = true) : stepR (100 :: t) = some (⟨2, id, [], hs⟩, r1) := by
  obtain ⟨e0, _⟩ := numR_back hb h0
  have b0 : Byt r0 := by rw [e0] at hb; exact hb.right
  obtain ⟨e1, _⟩ := rowF_back b0 h1
  have := stepR_put r1 hm
  rw [← this]
  unfold stp
  simp only
  rw [if_neg (by decide), if_neg (by decide)]
  simp only [row_nil, List.cons_append, List.append_assoc, List.nil_append]
  rw [e0, e1]
end Bin
namespace Go.Proofs.Ytmgeoeajnpnadaa
open Go.RowKit
set_option linter.unusedVariables false
set_option linter.unusedSimpArgs false

/-- What reading a step tells, by the document. -/
def ROneOut (w : World) (bs : List Int) (pos : Nat) (e : Ending) (w' : World) : Prop :=
  (Bin.stepR (bs.drop pos) = none ∧ (∃ (kk ii : Int) (o1 : Option Addr) (n1 c1 : Nat) (o2 : Option Addr) (n2 c2 : Nat) (p : Int), e = .returned (.tuple #[.agg #[.int .u8 kk, .int .i64 ii, .slice o1 n1 c1, .slice o2 n2 c2], .int .i64 p, .bool false])) ∧ Below w.heap.size w w') ∨
  (∃ (s : Lra.Stp) (p2 : Nat) (o1 : Option Addr) (c1 : Nat) (o2 : Option Addr) (c2 : Nat), Bin.stepR (bs.drop pos) = some (s, bs.drop p2) ∧ pos < p2 ∧ p2 ≤ bs.length ∧ e = .returned (.tuple #[.agg #[.int .u8 s.kind, .int .i64 s.id, .slice o1 s.lits.length c1, .slice o2 s.hints.length c2], .int .i64 (p2 : Int), .bool true]) ∧ QV w.heap.size w' (s, .slice o1 s.lits.length c1, .slice o2 s.hints.length c2) ∧ Below w.heap.size w w')

theorem drop_same {bs : List Int} {p q : Nat} (hp : p ≤ bs.length) (hq : q ≤ bs.length) (h : bs.drop p = bs.drop q) : p = q := by
  have := congrArg List.length h
  rw [List.length_drop, List.length_drop] at this
  omega
theorem get_bad (a : Option Addr) (rn rc : Nat) (bs : List Int) (pos : Nat) (W : World) (hn : bs.length = rn) (hz : rn ≤ 1000000) (hR : Bts W a bs) (hp : pos ≤ rn) (h : Bin.numR (bs.drop pos) = none) :
    Calls Try.prog 49 #[.slice a rn rc, .int .i64 (pos : Int)] W fun e w' => e = .returned (.tuple #[.int .i64 0, .int .i64 0, .bool false]) ∧ w' = W := by
  refine (get49 a rn rc bs pos W hn hz hR hp).mono ?_
  rintro e w' ⟨⟨_, he⟩ | ⟨n, p2, h9, _⟩, hw⟩
  · exact ⟨he, hw⟩
  · rw [h] at h9; cases h9
theorem get_good (a : Option Addr) (rn rc : Nat) (bs : List Int) (pos : Nat) (W : World) (hn : bs.length = rn) (hz : rn ≤ 1000000) (hR : Bts W a bs) (hp : pos ≤ rn) {n : Int} {r : List Int} (h : Bin.numR (bs.drop pos) = some (n, r)) :
    ∃ p2, r = bs.drop p2 ∧ pos < p2 ∧ p2 ≤ rn ∧ Calls Try.prog 49 #[.slice a rn rc, .int .i64 (pos : Int)] W fun e w' => e = .returned (.tuple #[.int .i64 n, .int .i64 (p2 : Int), .bool true]) ∧ w' = W := by
  obtain ⟨e, _⟩ := Bin.numR_back (hR.byt.drop pos) h
  have hr : r = bs.drop (pos + (Bin.num n).length) := by rw [← List.drop_drop, e, List.drop_left]
  have hl := congrArg List.length e
  rw [List.length_drop, List.length_append] at hl
  have hp1 := Bin.num_pos n
  refine ⟨pos + (Bin.num n).length, hr, by omega, by omega, (get49 a rn rc bs pos W hn hz hR hp).mono ?_⟩
  rintro e w' ⟨⟨h9, _⟩ | ⟨n', p2, h9, h1, h2, he⟩, hw⟩
  · rw [h] at h9; cases h9
  · rw [h] at h9
    simp only [Option.some.injEq, Prod.mk.injEq] at h9
    obtain ⟨rfl, h9⟩ := h9
    have := drop_same (by omega) h2 (hr.symm.trans h9)
    rw [this]
    exact ⟨he, hw⟩
theorem row_bad (a : Option Addr) (rn rc : Nat) (bs : List Int) (pos : Nat) (W : World) (hn : bs.length = rn) (hz : rn ≤ 1000000) (hR : Bts W a bs) (hp : pos ≤ rn) (h : Bin.rowF Bin.any (bs.drop pos) = none) :
    Calls Try.prog 50 #[.slice a rn rc, .int .i64 (pos : Int)] W fun e w' => e = .returned (.tuple #[.slice none 0 0, .int .i64 0, .bool false]) ∧ Below W.heap.size W w' := by
  refine (row50 a rn rc bs pos W hn hz hR hp).mono ?_
  rintro e w' (⟨_, he, hb⟩ | ⟨l, p2, o, c, h9, _⟩)
  · exact ⟨he, hb⟩
  · rw [h] at h9; cases h9
theorem row_good (a : Option Addr) (rn rc : Nat) (bs : List Int) (pos : Nat) (W : World) (hn : bs.length = rn) (hz : rn ≤ 1000000) (hR : Bts W a bs) (hp : pos ≤ rn) {l r : List Int} (h : Bin.rowF Bin.any (bs.drop pos) = some (l, r)) (ln : Nat) (hln : l.length = ln) :
    ∃ p2, r = bs.drop p2 ∧ pos < p2 ∧ p2 ≤ rn ∧ ln < p2 ∧ Calls Try.prog 50 #[.slice a rn rc, .int .i64 (pos : Int)] W fun e w' => ∃ o c, e = .returned (.tuple #[.slice o ln c, .int .i64 (p2 : Int), .bool true]) ∧ w'.ownsRow W.heap.size 2 1 (.slice o ln c) ln (l.map (Value.int .i64)) ∧ Below W.heap.size W w' := by
  subst hln
  obtain ⟨e, _⟩ := Bin.rowF_back (hR.byt.drop pos) h
  have hr : r = bs.drop (pos + ((Bin.row l).length + 1)) := by rw [← List.drop_drop, e, ← List.drop_drop, List.drop_left]; rfl
  have hl := congrArg List.length e
  rw [List.length_drop, List.length_append, List.length_cons] at hl
  have hg := Bin.row_ge l
  refine ⟨pos + ((Bin.row l).length + 1), hr, by omega, by omega, by omega, (row50 a rn rc bs pos W hn hz hR hp).mono ?_⟩
  rintro e w' (⟨h9, _⟩ | ⟨l', p2, o, c, h9, h1, h2, he, ho, hb⟩)
  · rw [h] at h9; cases h9
  · rw [h] at h9
    simp only [Option.some.injEq, Prod.mk.injEq] at h9
    obtain ⟨rfl, h9⟩ := h9
    have := drop_same (by omega) h2 (hr.symm.trans h9)
    rw [this]
    exact ⟨o, c, he, ho, hb⟩
theorem keep_step {A : World} {rb n : Nat} (v0 v1 v2 v3 : Value) (hne : rb ≠ n) {q2 q3 q4 q5 : Option Value} (h : A.cell? ⟨rb, 0, none⟩ = q2 ∧ A.cell? ⟨rb, 1, none⟩ = q3 ∧ A.cell? ⟨rb, 2, none⟩ = q4 ∧ A.cell? ⟨rb, 3, none⟩ = q5) :
    ((((A.setCell ⟨n, 0, none⟩ v0).setCell ⟨n, 1, none⟩ v1).setCell ⟨n, 2, none⟩ v2).setCell ⟨n, 3, none⟩ v3).cell? ⟨rb, 0, none⟩ = q2 ∧ ((((A.setCell ⟨n, 0, none⟩ v0).setCell ⟨n, 1, none⟩ v1).setCell ⟨n, 2, none⟩ v2).setCell ⟨n, 3, none⟩ v3).cell? ⟨rb, 1, none⟩ = q3 ∧ ((((A.setCell ⟨n, 0, none⟩ v0).setCell ⟨n, 1, none⟩ v1).setCell ⟨n, 2, none⟩ v2).setCell ⟨n, 3, none⟩ v3).cell? ⟨rb, 2, none⟩ = q4 ∧ ((((A.setCell ⟨n, 0, none⟩ v0).setCell ⟨n, 1, none⟩ v1).setCell ⟨n, 2, none⟩ v2).setCell ⟨n, 3, none⟩ v3).cell? ⟨rb, 3, none⟩ = q5 := by
  have hk : ∀ k, ((((A.setCell ⟨n, 0, none⟩ v0).setCell ⟨n, 1, none⟩ v1).setCell ⟨n, 2, none⟩ v2).setCell ⟨n, 3, none⟩ v3).cell? ⟨rb, k, none⟩ = A.cell? ⟨rb, k, none⟩ := fun k =>
    World.cell?_of_block (w := A) (a := ⟨rb, k, none⟩) ((heap_other _ _ hne).trans ((heap_other _ _ hne).trans ((heap_other _ _ hne).trans (heap_other _ _ hne))))
  rw [hk 0, hk 1, hk 2, hk 3]
  exact h
theorem load_row43 (W : World) {b : Nat} {x y z u : Value} {t : TypeId} (h : W.heap[b]? = some (.cells #[x, y, z, u] t (0, 0))) : (loadVar 43 ⟨b, 0, none⟩).run Try.prog W = .ok (.agg #[x, y, z, u]) W :=
  run_loadVar_row W b t 43 #[x, y, z, u] (0, 0) _ h Try.underlying43 rfl (by kernel_rfl)
theorem results_cell_tmp22 {P : Program} {fn : Func} {p u v : Tmp} {t : TypeId} (h : fn.results = #[.cell p t, .tmp u, .tmp v]) (tmps : Array Value) (w : World) {ap : Addr} {x : Value} (hp : tmps.getD p undef = .pointer (some ap)) (hx : (loadVar t ap).run P w = .ok x w) : (results fn tmps).run P w = .ok (.tuple #[x, tmps.getD u undef, tmps.getD v undef]) w := by
  simp only [results, h, List.mapM_toArray]
  simp only [Array.getD_eq_getD_getElem?] at hp
  simp [Sem.run_bind, Result.andThen, hp, asAddr, hx]
theorem heap_alloc_at (w : World) (o : Obj) (k : Nat) : (w.alloc o).heap[k]? = if k = w.heap.size then some o else w.heap[k]? := by
  show (w.heap.push o)[k]? = _
  rw [Array.getElem?_push]
/-- What lies in memory while the document reads a step: the answer's cells, the step, the numbers read. -/
structure SX (w W : World) (kd id : Int) (ls hs xs : List Int) (lv hv xv : Value) : Prop where
  bx : W.heap[w.heap.size + 1]? = some (.cells #[.int .u8 kd, .int .i64 id, lv, hv] 43 (0, 0))
  lo : W.ownsRow (w.heap.size + 2) 44 1 lv ls.length (ls.map (Value.int .i32))
  ho : W.ownsRow (w.heap.size + 2) 2 1 hv hs.length (hs.map (Value.int .i64))
  xo : W.ownsRow (w.heap.size + 2) 2 1 xv xs.length (xs.map (Value.int .i64))
  r0 : W.heap[w.heap.size]? = some (.cells #[.int .u8 0, .int .i64 0, .slice none 0 0, .slice none 0 0] 43 (0, 0))
  bw : Below w.heap.size w W
section
variable {w W : World} {kd id : Int} {ls hs xs : List Int} {lv hv xv : Value}
theorem SX.size (h : SX w W kd id ls hs xs lv hv xv) : w.heap.size + 1 < W.heap.size := (Array.getElem?_eq_some_iff.1 h.bx).1
theorem SX.below {W' : World} (h : SX w W kd id ls hs xs lv hv xv) (hb : Below W.heap.size W W') : SX w W' kd id ls hs xs lv hv xv :=
  ⟨(hb.block _ h.size).trans h.bx, own_below h.lo hb, own_below h.ho hb, own_below h.xo hb, (hb.block _ (by have := h.size; omega)).trans h.r0, h.bw.trans (hb.mono (by have := h.size; omega))⟩
theorem SX.kind (h : SX w W kd id ls hs xs lv hv xv) (kd' : Int) : SX w (W.setCell ⟨w.heap.size + 1, 0, none⟩ (.int .u8 kd')) kd' id ls hs xs lv hv xv :=
  ⟨by rw [heap_set_row (k := 0) h.bx]; rfl, own_set h.lo (by omega) _, own_set h.ho (by omega) _, own_set h.xo (by omega) _, (heap_other _ _ (by omega)).trans h.r0, h.bw.setCell (by dsimp only; omega) _⟩
theorem SX.ids (h : SX w W kd id ls hs xs lv hv xv) (id' : Int) : SX w (W.setCell ⟨w.heap.size + 1, 1, none⟩ (.int .i64 id')) kd id' ls hs xs lv hv xv :=
  ⟨by rw [heap_set_row (k := 1) h.bx]; rfl, own_set h.lo (by omega) _, own_set h.ho (by omega) _, own_set h.xo (by omega) _, (heap_other _ _ (by omega)).trans h.r0, h.bw.setCell (by dsimp only; omega) _⟩
theorem SX.hints (h : SX w W kd id ls hs xs lv hv xv) {hs' : List Int} {hv' : Value} (ho : W.ownsRow (w.heap.size + 2) 2 1 hv' hs'.length (hs'.map (Value.int .i64))) : SX w (W.setCell ⟨w.heap.size + 1, 3, none⟩ hv') kd id ls hs' xs lv hv' xv :=
  ⟨by rw [heap_set_row (k := 3) h.bx]; rfl, own_set h.lo (by omega) _, own_set ho (by omega) _, own_set h.xo (by omega) _, (heap_other _ _ (by omega)).trans h.r0, h.bw.setCell (by dsimp only; omega) _⟩
theorem SX.nolits (h : SX w W kd id ls hs xs lv hv xv) : SX w (W.setCell ⟨w.heap.size + 1, 2, none⟩ (.slice none 0 0)) kd id [] hs xs (.slice none 0 0) hv xv :=
  ⟨by rw [heap_set_row (k := 2) h.bx]; rfl, World.ownsRow_nil _ _ _ _, own_set h.ho (by omega) _, own_set h.xo (by omega) _, (heap_other _ _ (by omega)).trans h.r0, h.bw.setCell (by dsimp only; omega) _⟩
theorem SX.raw (h : SX w W kd id ls hs xs lv hv xv) {xs' : List Int} {xv' : Value} (xo : W.ownsRow (w.heap.size + 2) 2 1 xv' xs'.length (xs'.map (Value.int .i64))) : SX w W kd id ls hs xs' lv hv xv' := ⟨h.bx, h.lo, h.ho, xo, h.r0, h.bw⟩
/-- A literal more. -/
theorem SX.lit (h : SX w W kd id ls hs xs lv hv xv) (hl : ls.length ≤ 16777216) (x : Int) :
    ∃ o c B, (Builtin.append_ #[41, 41] 41 #[lv, .slice (some ⟨W.heap.size, 0, none⟩) 1 1]).run Try.prog (W.alloc (.cells #[.int .i32 x] 44)) = .ok (.slice o (ls.length + 1) c) B ∧
      B.heap[w.heap.size + 1]? = W.heap[w.heap.size + 1]? ∧ SX w (B.setCell ⟨w.heap.size + 1, 2, none⟩ (.slice o (ls.length + 1) c)) kd id (ls ++ [x]) hs xs (.slice o (ls.length + 1) c) hv xv := by
  obtain ⟨o, c, B, hr, ho, hb, keep⟩ := push44 h.lo (by have := h.size; omega) hl x
  have kl : ∀ (i : Nat) (cs : Array Value) (t : TypeId), W.heap[i]? = some (.cells cs t (0, 0)) → t ≠ 44 → B.heap[i]? = W.heap[i]? := fun i cs t hi ht => keep i (Array.getElem?_eq_some_iff.1 hi).1 (own_ne hi h.lo ht)
  have hrb := kl _ _ _ h.bx (by decide)
  refine ⟨o, c, B, hr, hrb, ⟨?_, ?_, ?_, ?_, ?_, ?_⟩⟩
  · rw [heap_set_row (k := 2) (hrb.trans h.bx)]; rfl
  · refine own_set ?_ (by omega) _
    rw [show (ls ++ [x]).length = ls.length + 1 by simp, List.map_append]
    exact ho
  · exact own_set (own_keep h.ho (fun g cs _ hg => kl g cs _ hg (by decide))) (by omega) _
  · exact own_set (own_keep h.xo (fun g cs _ hg => kl g cs _ hg (by decide))) (by omega) _
  · exact (heap_other _ _ (by omega)).trans ((kl _ _ _ h.r0 (by decide)).trans h.r0)
  · exact Below.setCell (p := ⟨w.heap.size + 1, 2, none⟩) (h.bw.trans (hb.mono (by omega))) (by dsimp only; omega) _
end
/-- What is read and written there. -/
theorem SX.facts {w W : World} {kd id : Int} {ls hs xs : List Int} {lv hv xv : Value} (h : SX w W kd id ls hs xs lv hv xv) :
    (W.cell? ⟨w.heap.size, 0, none⟩ = some (.int .u8 0) ∧ W.cell? ⟨w.heap.size, 1, none⟩ = some (.int .i64 0) ∧ W.cell? ⟨w.heap.size, 2, none⟩ = some (.slice none 0 0) ∧ W.cell? ⟨w.heap.size, 3, none⟩ = some (.slice none 0 0)) ∧
    (W.frozen? ⟨w.heap.size, 0, none⟩ = false ∧ W.frozen? ⟨w.heap.size, 1, none⟩ = false ∧ W.frozen? ⟨w.heap.size, 2, none⟩ = false ∧ W.frozen? ⟨w.heap.size, 3, none⟩ = false) ∧
    (W.cell? ⟨w.heap.size + 1, 0, none⟩ = some (.int .u8 kd) ∧ W.cell? ⟨w.heap.size + 1, 1, none⟩ = some (.int .i64 id) ∧ W.cell? ⟨w.heap.size + 1, 2, none⟩ = some lv ∧ W.cell? ⟨w.heap.size + 1, 3, none⟩ = some hv) ∧
    (W.frozen? ⟨w.heap.size + 1, 0, none⟩ = false ∧ W.frozen? ⟨w.heap.size + 1, 1, none⟩ = false ∧ W.frozen? ⟨w.heap.size + 1, 2, none⟩ = false ∧ W.frozen? ⟨w.heap.size + 1, 3, none⟩ = false) := by
  have r0 := row_cell h.r0 0
  have r1 := row_cell h.r0 1
  have r2 := row_cell h.r0 2
  have r3 := row_cell h.r0 3
  have x0 := row_cell h.bx 0
  have x1 := row_cell h.bx 1
  have x2 := row_cell h.bx 2
  have x3 := row_cell h.bx 3
  exact ⟨⟨r0, r1, r2, r3⟩, ⟨row_frozen h.r0 0, row_frozen h.r0 1, row_frozen h.r0 2, row_frozen h.r0 3⟩, ⟨x0, x1, x2, x3⟩, ⟨row_frozen h.bx 0, row_frozen h.bx 1, row_frozen h.bx 2, row_frozen h.bx 3⟩⟩
/-- The answer's cells, written. -/
def told (w W : World) (v0 v1 v2 v3 : Value) : World := (((W.setCell ⟨w.heap.size, 0, none⟩ v0).setCell ⟨w.heap.size, 1, none⟩ v1).setCell ⟨w.heap.size, 2, none⟩ v2).setCell ⟨w.heap.size, 3, none⟩ v3
theorem told_below {w W : World} (h : Below w.heap.size w W) (v0 v1 v2 v3 : Value) : Below w.heap.size w (told w W v0 v1 v2 v3) :=
  ((((h.setCell (p := ⟨w.heap.size, 0, none⟩) (Nat.le_refl _) _).setCell (p := ⟨w.heap.size, 1, none⟩) (Nat.le_refl _) _).setCell (p := ⟨w.heap.size, 2, none⟩) (Nat.le_refl _) _).setCell (p := ⟨w.heap.size, 3, none⟩) (Nat.le_refl _) _)
theorem told_own {w W : World} {n e : Nat} {v : Value} {xs : List Value} (h : W.ownsRow (w.heap.size + 2) e 1 v n xs) (v0 v1 v2 v3 : Value) : (told w W v0 v1 v2 v3).ownsRow w.heap.size e 1 v n xs :=
  own_base (own_set (own_set (own_set (own_set h (by omega) _) (by omega) _) (by omega) _) (by omega) _) (by omega)

end Go.Proofs.Ytmgeoeajnpnadaa
