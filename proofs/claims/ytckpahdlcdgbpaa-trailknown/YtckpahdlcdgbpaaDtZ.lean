/- The document's Model. -/
import Derived.Test.YtckpahdlcdgbpaaDtV
import Derived.Deep.RegionHeld3
namespace Go.Proofs.Ytckpahdlcdgbpaa
open Go.RowKit Go.Maps
set_option linter.unusedVariables false
set_option linter.unusedSimpArgs false
set_option maxRecDepth 100000

/-- The document's model while it is made. -/
def Mz (W : World) (gm n : Nat) (R : List Trl.E) (i : Nat) (wr : World) : Prop := Below W.heap.size W wr ∧ ∃ cur : Array Value, wr.heap[gm]? = some (.cells cur 4 (0, 0)) ∧ cur.size = n ∧ ∀ t, t < n → cur[t]? = some (.bool (decide (0 < (Trl.know (R.take i) ((t : Nat) + 1)).lit)))
theorem mk_mz (W : World) (q n : Nat) (R : List Trl.E) : Mz W W.heap.size n R 0 ((W.drewN q).alloc (.cells (madeCells #[Value.bool false] n) 4)) :=
  ⟨(Drawn.below ⟨q, rfl⟩).trans (below_box (W.drewN q) _), _, heap_alloc_new (W.drewN q) _, size_madeCells _ _, fun t ht => by
    rw [List.take_zero]
    rw [madeCells, Array.getElem?_map, Array.getElem?_range, if_pos ht]
    simp [Trl.know, Trl.idx, Trl.K0, Nat.mod_one]⟩
theorem Mz.step {W : World} {gm n : Nat} {s : Trl.S} {i : Nat} {wr : World} (h : Mz W gm n s.R i wr) (hok : Trl.Ok n s) (hg : gm = W.heap.size) (hi : i < s.R.length) (v : Nat) (hv : Trl.vr (Trl.get s.R i).lit = (v : Int) + 1) (hvn : v < n) :
    (∃ u, wr.cell? ⟨gm, v, none⟩ = some u) ∧ wr.frozen? ⟨gm, v, none⟩ = false ∧ Mz W gm n s.R (i + 1) (wr.drew.setCell ⟨gm, v, none⟩ (.bool (decide (0 < (Trl.get s.R i).lit)))) := by
  obtain ⟨h1, cur, h2, h3, h4⟩ := h
  refine ⟨⟨cur[v], by rw [row_cell h2]; exact Array.getElem?_eq_getElem (by omega)⟩, row_frozen h2 v, (h1.drew).setCell (by show W.heap.size ≤ gm; omega) _, _, heap_set_row (W := wr.drew) h2 _, by simpa using h3, fun t ht => ?_⟩
  have hkn := Trl.know_snoc (R := s.R.take i) (e := Trl.get s.R i) (fun f hf he => by
    obtain ⟨j, hj, rfl⟩ := List.getElem_of_mem hf
    rw [List.length_take] at hj
    have e1 : Trl.get s.R j = (s.R.take i)[j] := by simp [Trl.get, List.getD, List.getElem?_eq_getElem (show j < s.R.length by omega)]
    have := hok.uniq j i (by omega) hi (by rw [e1, he])
    omega) ((t : Int) + 1)
  rw [show s.R.take (i + 1) = s.R.take i ++ [Trl.get s.R i] by rw [List.take_add_one, Trl.get_at hi]; rfl, hkn]
  by_cases e : t = v
  · subst e
    rw [if_pos hv.symm, Array.getElem?_setIfInBounds_self_of_lt (by omega)]
  · rw [if_neg (by rw [hv]; omega), Array.getElem?_setIfInBounds_ne (Ne.symm e)]
    exact h4 t ht
theorem Mz.done {W : World} {gm n : Nat} {R : List Trl.E} {wr : World} (h : Mz W gm n R R.length wr) (hg : gm = W.heap.size) (hn : n ≤ 1048576) : ModelOut W (Trl.model n R) n true (.returned (.tuple #[.slice (some ⟨gm, 0, none⟩) n n, .bool true])) wr := by
  obtain ⟨h1, cur, h2, h3, h4⟩ := h
  rw [List.take_length] at h4
  exact Mb.done ⟨h1, cur, h2, h3, fun t ht => h4 t ht⟩ hg hn
theorem model37_no {B db n : Nat} {s : Trl.S} {W : World} (H : Dtx B db n s W) (h : s.R.length ≠ n) :
    Calls Try.prog 37 #[.pointer (some ⟨db, 0, none⟩)] W fun e w' => ModelOut W [] 0 false e w' := by
  obtain ⟨rv, h1⟩ := H
  obtain ⟨o, c, rfl, _⟩ := h1.shape
  have hlen := h1.ok.len
  have hn := h1.ok.n
  have c0 := row_cell h1.blk 0
  have c1 := row_cell h1.blk 1
  have hne : ((s.R.length : Int) != (n : Int)) = true := by simp; omega
  have HO := hid (fun w' hb => show ModelOut W [] 0 false (.returned (.tuple #[.slice none 0 0, .bool false])) w' from ⟨none, 0, rfl, World.ownsRow_nil _ _ _ _, hb⟩)
  clear h1
  go_enter Try.func37, Try.ntmps37
  go_wp2
  go_quiet (fail)
  go_wp2
  go_ret2
  exact HO.out _ (Drawn.below ⟨_, rfl⟩)
set_option maxHeartbeats 20000000 in
theorem reg7 {Q : Exit → Act → World → Prop} {X : World} {ds : List Deferred} (db g c n gm i v : Nat) (L : Int) (u : Value)
    (y1 : X.cell? ⟨db, 1, none⟩ = some (.slice (some ⟨g, 0, none⟩) n c)) (d0 : X.cell? ⟨g, i * 3, none⟩ = some (.int .i32 L)) (hi : (i : Int) < n) (hv : (v : Int) < n) (hn : n ≤ 1048576)
    (hu : X.cell? ⟨gm, v, none⟩ = some u) (hf : X.frozen? ⟨gm, v, none⟩ = false) (hgd : gm ≠ db) (hgg : gm ≠ g)
    (D53 : ∀ Y, Calls Try.prog 53 #[.int .i32 L] Y fun e w' => e = .returned (.int .i64 ((v : Int) + 1)) ∧ w' = Y)
    (t1 t2 t3 t6 t7 t8 t9 t10 t11 t12 t13 t14 t15 t16 t17 t18 t19 t20 t21 t22 t23 t24 t25 t26 t27 t28 t29 t30 t31 t32 t33 t34 t35 t36 t37 t38 t39 t40 t41 t42 t43 t44 t45 t46 t47 t48 t49 t50 t51 : Value)
    (hQ : ∀ u30 u31 u32 u33 u34 u35 u36 u37 u38 u39 u40 u41 u42 u43 u44 u45 u46 u47 u48 u49 u50 : Value, Q .normal { tmps := #[Value.pointer (some ⟨db, 0, none⟩), t1, t2, t3, Value.slice (some ⟨gm, 0, none⟩) n n, Value.int IntKind.i64 (i : Nat), t6, t7, t8, t9, t10, t11, t12, t13, t14, t15, t16, t17, t18, t19, t20, t21, t22, t23, t24, t25, t26, t27, t28, t29, u30, u31, u32, u33, u34, u35, u36, u37, u38, u39, u40, u41, u42, u43, u44, u45, u46, u47, u48, u49, u50, t51], defers := ds } (X.drew.setCell ⟨gm, v, none⟩ (.bool (decide (0 < L))))) :
    Code.wp Try.prog (Code.region 7 #[{ dst := some 30, op := Op.move (Operand.tmp 4), type := 46, pos := "ref.go:139", after := #[], guard := none }, { dst := some 31, op := Op.move (Operand.tmp 0), type := 28, pos := "ref.go:139", after := #[], guard := none }, { dst := some 32, op := Op.nilCheck (Operand.tmp 31), type := 0, pos := "ref.go:139", after := #[{ on := 1, ground := Ground.data }], guard := none }, { dst := some 33, op := Op.fieldAddr 66 (Operand.tmp 32) 1, type := 0, pos := "ref.go:139", after := #[{ on := 2, ground := Ground.data }], guard := none }, { dst := some 34, op := Op.load 64 (Operand.tmp 33), type := 64, pos := "ref.go:139", after := #[{ on := 3, ground := Ground.data }], guard := none }, { dst := some 35, op := Op.move (Operand.tmp 5), type := 3, pos := "ref.go:139", after := #[], guard := none }, { dst := some 36, op := Op.indexAddr 64 (Operand.tmp 34) (Operand.tmp 35), type := 0, pos := "ref.go:139", after := #[{ on := 4, ground := Ground.data }, { on := 5, ground := Ground.data }], guard := none }, { dst := some 37, op := Op.fieldAddr 84 (Operand.tmp 36) 0, type := 0, pos := "ref.go:139", after := #[{ on := 6, ground := Ground.data }], guard := none }, { dst := some 38, op := Op.load 33 (Operand.tmp 37), type := 33, pos := "ref.go:139", after := #[{ on := 7, ground := Ground.data }], guard := none }, { dst := some 39, op := Op.call { callee := Callee.value (Operand.func 53), args := #[Operand.tmp 38], argTypes := #[33] }, type := 3, pos := "ref.go:139", after := #[{ on := 8, ground := Ground.data }], guard := none }, { dst := some 40, op := Op.binOp BinOp.sub 3 (Operand.tmp 39) (Operand.const (Value.int IntKind.i64 1)) 3, type := 3, pos := "ref.go:139", after := #[{ on := 9, ground := Ground.data }], guard := none }, { dst := some 41, op := Op.move (Operand.tmp 0), type := 28, pos := "ref.go:139", after := #[], guard := none }, { dst := some 42, op := Op.nilCheck (Operand.tmp 41), type := 0, pos := "ref.go:139", after := #[{ on := 11, ground := Ground.data }], guard := none }, { dst := some 43, op := Op.fieldAddr 66 (Operand.tmp 42) 1, type := 0, pos := "ref.go:139", after := #[{ on := 12, ground := Ground.data }], guard := none }, { dst := some 44, op := Op.load 64 (Operand.tmp 43), type := 64, pos := "ref.go:139", after := #[{ on := 13, ground := Ground.data }], guard := none }, { dst := some 45, op := Op.move (Operand.tmp 5), type := 3, pos := "ref.go:139", after := #[], guard := none }, { dst := some 46, op := Op.indexAddr 64 (Operand.tmp 44) (Operand.tmp 45), type := 0, pos := "ref.go:139", after := #[{ on := 14, ground := Ground.data }, { on := 15, ground := Ground.data }], guard := none }, { dst := some 47, op := Op.fieldAddr 84 (Operand.tmp 46) 0, type := 0, pos := "ref.go:139", after := #[{ on := 16, ground := Ground.data }], guard := none }, { dst := some 48, op := Op.load 33 (Operand.tmp 47), type := 33, pos := "ref.go:139", after := #[{ on := 17, ground := Ground.data }], guard := none }, { dst := some 49, op := Op.binOp BinOp.gtr 33 (Operand.tmp 48) (Operand.const (Value.int IntKind.i32 0)) 33, type := 4, pos := "ref.go:139", after := #[{ on := 18, ground := Ground.data }], guard := none }, { dst := some 50, op := Op.indexAddr 46 (Operand.tmp 30) (Operand.tmp 40), type := 0, pos := "ref.go:139", after := #[{ on := 0, ground := Ground.data }, { on := 10, ground := Ground.data }, { on := 0, ground := Ground.phase }, { on := 1, ground := Ground.phase }, { on := 2, ground := Ground.phase }, { on := 3, ground := Ground.phase }, { on := 4, ground := Ground.phase }, { on := 5, ground := Ground.phase }, { on := 6, ground := Ground.phase }, { on := 7, ground := Ground.phase }, { on := 8, ground := Ground.phase }, { on := 9, ground := Ground.phase }, { on := 10, ground := Ground.phase }, { on := 11, ground := Ground.phase }, { on := 12, ground := Ground.phase }, { on := 13, ground := Ground.phase }, { on := 14, ground := Ground.phase }, { on := 15, ground := Ground.phase }, { on := 16, ground := Ground.phase }, { on := 17, ground := Ground.phase }, { on := 18, ground := Ground.phase }, { on := 19, ground := Ground.phase }], guard := none }, { dst := none, op := Op.store 4 (Operand.tmp 50) (Operand.tmp 49), type := 0, pos := "ref.go:139", after := #[{ on := 20, ground := Ground.data }, { on := 19, ground := Ground.data }, { on := 9, ground := Ground.chain }, { on := 0, ground := Ground.phase }, { on := 1, ground := Ground.phase }, { on := 2, ground := Ground.phase }, { on := 3, ground := Ground.phase }, { on := 4, ground := Ground.phase }, { on := 5, ground := Ground.phase }, { on := 6, ground := Ground.phase }, { on := 7, ground := Ground.phase }, { on := 8, ground := Ground.phase }, { on := 9, ground := Ground.phase }, { on := 10, ground := Ground.phase }, { on := 11, ground := Ground.phase }, { on := 12, ground := Ground.phase }, { on := 13, ground := Ground.phase }, { on := 14, ground := Ground.phase }, { on := 15, ground := Ground.phase }, { on := 16, ground := Ground.phase }, { on := 17, ground := Ground.phase }, { on := 18, ground := Ground.phase }, { on := 19, ground := Ground.phase }], guard := none }] true) Q { tmps := #[Value.pointer (some ⟨db, 0, none⟩), t1, t2, t3, Value.slice (some ⟨gm, 0, none⟩) n n, Value.int IntKind.i64 (i : Nat), t6, t7, t8, t9, t10, t11, t12, t13, t14, t15, t16, t17, t18, t19, t20, t21, t22, t23, t24, t25, t26, t27, t28, t29, t30, t31, t32, t33, t34, t35, t36, t37, t38, t39, t40, t41, t42, t43, t44, t45, t46, t47, t48, t49, t50, t51], defers := ds } X := by
  have HQ := hid hQ
  have H53 := hid D53
  have hw : IntKind.i64.wrap ((v : Nat) : Int) = (v : Nat) := by rw [IntKind.wrap_i64]; omega
  have hgd2 : db ≠ gm := fun e => hgd e.symm
  have hgg2 : g ≠ gm := fun e => hgg e.symm
  clear hQ D53
  refine wp_region_noPanic ?_
  refine wp_region_held_drew (S := (fun Y : World => Y.cell? ⟨db, 1, none⟩ = some (.slice (some ⟨g, 0, none⟩) n c) ∧ Y.cell? ⟨g, i * 3, none⟩ = some (.int .i32 L))) (by kernel_rfl) ?_ (fun hHeld => ?_)
  · exact ⟨y1, d0⟩
  refine wpAnyH_take (i := 0) (oi := { dst := some 30, op := Op.move (Operand.tmp 4), type := 46, pos := "ref.go:139", after := #[], guard := none }) (v := ?_) rfl (by kernel_rfl) (by kernel_rfl) (by kernel_rfl) (fun _ _ _ h => h) (Or.inl ⟨by kernel_rfl, ?_⟩) (by assumption) ?_
  rotate_left
  · (intro w hSw; (try dsimp only at hSw); go_simp) <;> with_reducible rfl
  try simp only [Act.put, List.setIfInBounds_toArray, List.set_cons_zero, List.set_cons_succ]
  refine wpAnyH_take (i := 1) (oi := { dst := some 31, op := Op.move (Operand.tmp 0), type := 28, pos := "ref.go:139", after := #[], guard := none }) (v := ?_) rfl (by kernel_rfl) (by kernel_rfl) (by kernel_rfl) (fun _ _ _ h => h) (Or.inl ⟨by kernel_rfl, ?_⟩) (by assumption) ?_
  rotate_left
  · (intro w hSw; (try dsimp only at hSw); go_simp) <;> with_reducible rfl
  try simp only [Act.put, List.setIfInBounds_toArray, List.set_cons_zero, List.set_cons_succ]
  refine wpAnyH_take (i := 2) (oi := { dst := some 32, op := Op.nilCheck (Operand.tmp 31), type := 0, pos := "ref.go:139", after := #[{ on := 1, ground := Ground.data }], guard := none }) (v := ?_) rfl (by kernel_rfl) (by kernel_rfl) (by kernel_rfl) (fun _ _ _ h => h) (Or.inl ⟨by kernel_rfl, ?_⟩) (by assumption) ?_
  rotate_left
  · (intro w hSw; (try dsimp only at hSw); go_simp) <;> with_reducible rfl
  try simp only [Act.put, List.setIfInBounds_toArray, List.set_cons_zero, List.set_cons_succ]
  refine wpAnyH_take (i := 3) (oi := { dst := some 33, op := Op.fieldAddr 66 (Operand.tmp 32) 1, type := 0, pos := "ref.go:139", after := #[{ on := 2, ground := Ground.data }], guard := none }) (v := ?_) rfl (by kernel_rfl) (by kernel_rfl) (by kernel_rfl) (fun _ _ _ h => h) (Or.inl ⟨by kernel_rfl, ?_⟩) (by assumption) ?_
  rotate_left
  · (intro w hSw; (try dsimp only at hSw); go_simp) <;> with_reducible rfl
  try simp only [Act.put, List.setIfInBounds_toArray, List.set_cons_zero, List.set_cons_succ]
  refine wpAnyH_take (i := 4) (oi := { dst := some 34, op := Op.load 64 (Operand.tmp 33), type := 64, pos := "ref.go:139", after := #[{ on := 3, ground := Ground.data }], guard := none }) (v := ?_) rfl (by kernel_rfl) (by kernel_rfl) (by kernel_rfl) (fun _ _ _ h => h) (Or.inl ⟨by kernel_rfl, ?_⟩) (by assumption) ?_
  rotate_left
  · (intro w hSw; (try dsimp only at hSw); go_simp) <;> with_reducible rfl
  try simp only [Act.put, List.setIfInBounds_toArray, List.set_cons_zero, List.set_cons_succ]
  refine wpAnyH_take (i := 5) (oi := { dst := some 35, op := Op.move (Operand.tmp 5), type := 3, pos := "ref.go:139", after := #[], guard := none }) (v := ?_) rfl (by kernel_rfl) (by kernel_rfl) (by kernel_rfl) (fun _ _ _ h => h) (Or.inl ⟨by kernel_rfl, ?_⟩) (by assumption) ?_
  rotate_left
  · (intro w hSw; (try dsimp only at hSw); go_simp) <;> with_reducible rfl
  try simp only [Act.put, List.setIfInBounds_toArray, List.set_cons_zero, List.set_cons_succ]
  refine wpAnyH_take (i := 6) (oi := { dst := some 36, op := Op.indexAddr 64 (Operand.tmp 34) (Operand.tmp 35), type := 0, pos := "ref.go:139", after := #[{ on := 4, ground := Ground.data }, { on := 5, ground := Ground.data }], guard := none }) (v := ?_) rfl (by kernel_rfl) (by kernel_rfl) (by kernel_rfl) (fun _ _ _ h => h) (Or.inl ⟨by kernel_rfl, ?_⟩) (by assumption) ?_
  rotate_left
  · (intro w hSw; (try dsimp only at hSw); go_simp) <;> with_reducible rfl
  try simp only [Act.put, List.setIfInBounds_toArray, List.set_cons_zero, List.set_cons_succ]
  refine wpAnyH_take (i := 7) (oi := { dst := some 37, op := Op.fieldAddr 84 (Operand.tmp 36) 0, type := 0, pos := "ref.go:139", after := #[{ on := 6, ground := Ground.data }], guard := none }) (v := ?_) rfl (by kernel_rfl) (by kernel_rfl) (by kernel_rfl) (fun _ _ _ h => h) (Or.inl ⟨by kernel_rfl, ?_⟩) (by assumption) ?_
  rotate_left
  · (intro w hSw; (try dsimp only at hSw); go_simp) <;> with_reducible rfl
  try simp only [Act.put, List.setIfInBounds_toArray, List.set_cons_zero, List.set_cons_succ]
  refine wpAnyH_take (i := 8) (oi := { dst := some 38, op := Op.load 33 (Operand.tmp 37), type := 33, pos := "ref.go:139", after := #[{ on := 7, ground := Ground.data }], guard := none }) (v := ?_) rfl (by kernel_rfl) (by kernel_rfl) (by kernel_rfl) (fun _ _ _ h => h) (Or.inl ⟨by kernel_rfl, ?_⟩) (by assumption) ?_
  rotate_left
  · (intro w hSw; (try dsimp only at hSw); go_simp) <;> with_reducible rfl
  try simp only [Act.put, List.setIfInBounds_toArray, List.set_cons_zero, List.set_cons_succ]
  refine wpAnyH_take (i := 11) (oi := { dst := some 41, op := Op.move (Operand.tmp 0), type := 28, pos := "ref.go:139", after := #[], guard := none }) (v := ?_) rfl (by kernel_rfl) (by kernel_rfl) (by kernel_rfl) (fun _ _ _ h => h) (Or.inl ⟨by kernel_rfl, ?_⟩) (by assumption) ?_
  rotate_left
  · (intro w hSw; (try dsimp only at hSw); go_simp) <;> with_reducible rfl
  try simp only [Act.put, List.setIfInBounds_toArray, List.set_cons_zero, List.set_cons_succ]
  refine wpAnyH_take (i := 12) (oi := { dst := some 42, op := Op.nilCheck (Operand.tmp 41), type := 0, pos := "ref.go:139", after := #[{ on := 11, ground := Ground.data }], guard := none }) (v := ?_) rfl (by kernel_rfl) (by kernel_rfl) (by kernel_rfl) (fun _ _ _ h => h) (Or.inl ⟨by kernel_rfl, ?_⟩) (by assumption) ?_
  rotate_left
  · (intro w hSw; (try dsimp only at hSw); go_simp) <;> with_reducible rfl
  try simp only [Act.put, List.setIfInBounds_toArray, List.set_cons_zero, List.set_cons_succ]
  refine wpAnyH_take (i := 13) (oi := { dst := some 43, op := Op.fieldAddr 66 (Operand.tmp 42) 1, type := 0, pos := "ref.go:139", after := #[{ on := 12, ground := Ground.data }], guard := none }) (v := ?_) rfl (by kernel_rfl) (by kernel_rfl) (by kernel_rfl) (fun _ _ _ h => h) (Or.inl ⟨by kernel_rfl, ?_⟩) (by assumption) ?_
  rotate_left
  · (intro w hSw; (try dsimp only at hSw); go_simp) <;> with_reducible rfl
  try simp only [Act.put, List.setIfInBounds_toArray, List.set_cons_zero, List.set_cons_succ]
  refine wpAnyH_take (i := 14) (oi := { dst := some 44, op := Op.load 64 (Operand.tmp 43), type := 64, pos := "ref.go:139", after := #[{ on := 13, ground := Ground.data }], guard := none }) (v := ?_) rfl (by kernel_rfl) (by kernel_rfl) (by kernel_rfl) (fun _ _ _ h => h) (Or.inl ⟨by kernel_rfl, ?_⟩) (by assumption) ?_
  rotate_left
  · (intro w hSw; (try dsimp only at hSw); go_simp) <;> with_reducible rfl
  try simp only [Act.put, List.setIfInBounds_toArray, List.set_cons_zero, List.set_cons_succ]
  refine wpAnyH_take (i := 15) (oi := { dst := some 45, op := Op.move (Operand.tmp 5), type := 3, pos := "ref.go:139", after := #[], guard := none }) (v := ?_) rfl (by kernel_rfl) (by kernel_rfl) (by kernel_rfl) (fun _ _ _ h => h) (Or.inl ⟨by kernel_rfl, ?_⟩) (by assumption) ?_
  rotate_left
  · (intro w hSw; (try dsimp only at hSw); go_simp) <;> with_reducible rfl
  try simp only [Act.put, List.setIfInBounds_toArray, List.set_cons_zero, List.set_cons_succ]
  refine wpAnyH_take (i := 16) (oi := { dst := some 46, op := Op.indexAddr 64 (Operand.tmp 44) (Operand.tmp 45), type := 0, pos := "ref.go:139", after := #[{ on := 14, ground := Ground.data }, { on := 15, ground := Ground.data }], guard := none }) (v := ?_) rfl (by kernel_rfl) (by kernel_rfl) (by kernel_rfl) (fun _ _ _ h => h) (Or.inl ⟨by kernel_rfl, ?_⟩) (by assumption) ?_
  rotate_left
  · (intro w hSw; (try dsimp only at hSw); go_simp) <;> with_reducible rfl
  try simp only [Act.put, List.setIfInBounds_toArray, List.set_cons_zero, List.set_cons_succ]
  refine wpAnyH_take (i := 17) (oi := { dst := some 47, op := Op.fieldAddr 84 (Operand.tmp 46) 0, type := 0, pos := "ref.go:139", after := #[{ on := 16, ground := Ground.data }], guard := none }) (v := ?_) rfl (by kernel_rfl) (by kernel_rfl) (by kernel_rfl) (fun _ _ _ h => h) (Or.inl ⟨by kernel_rfl, ?_⟩) (by assumption) ?_
  rotate_left
  · (intro w hSw; (try dsimp only at hSw); go_simp) <;> with_reducible rfl
  try simp only [Act.put, List.setIfInBounds_toArray, List.set_cons_zero, List.set_cons_succ]
  refine wpAnyH_take (i := 18) (oi := { dst := some 48, op := Op.load 33 (Operand.tmp 47), type := 33, pos := "ref.go:139", after := #[{ on := 17, ground := Ground.data }], guard := none }) (v := ?_) rfl (by kernel_rfl) (by kernel_rfl) (by kernel_rfl) (fun _ _ _ h => h) (Or.inl ⟨by kernel_rfl, ?_⟩) (by assumption) ?_
  rotate_left
  · (intro w hSw; (try dsimp only at hSw); go_simp) <;> with_reducible rfl
  try simp only [Act.put, List.setIfInBounds_toArray, List.set_cons_zero, List.set_cons_succ]
  refine wpAnyH_take (i := 19) (oi := { dst := some 49, op := Op.binOp BinOp.gtr 33 (Operand.tmp 48) (Operand.const (Value.int IntKind.i32 0)) 33, type := 4, pos := "ref.go:139", after := #[{ on := 18, ground := Ground.data }], guard := none }) (v := ?_) rfl (by kernel_rfl) (by kernel_rfl) (by kernel_rfl) (fun _ _ _ h => h) (Or.inl ⟨by kernel_rfl, ?_⟩) (by assumption) ?_
  rotate_left
  · (intro w hSw; (try dsimp only at hSw); go_simp) <;> with_reducible rfl
  try simp only [Act.put, List.setIfInBounds_toArray, List.set_cons_zero, List.set_cons_succ]
  refine wpAnyH_ready (rs := [9]) (by kernel_rfl) (by simp) ?_
  refine AllReadyH.cons (o := { dst := some 39, op := Op.call { callee := Callee.value (Operand.func 53), args := #[Operand.tmp 38], argTypes := #[33] }, type := 3, pos := "ref.go:139", after := #[{ on := 8, ground := Ground.data }], guard := none }) rfl (fun K hK => ?_) AllReadyH.nil
  go_simp
  (go_at_call 53; refine (H53.out _).mono ?_; rintro e w8 ⟨rfl, hw8⟩; rw [hw8]; clear hw8)
  try dsimp only
  refine hK.out _ _ ?_ (fun hHeld0 => ?_)
  · exact hHeld
  clear hK K
  try simp only [Act.put, List.setIfInBounds_toArray, List.set_cons_zero, List.set_cons_succ]
  refine wpAnyH_take (i := 10) (oi := { dst := some 40, op := Op.binOp BinOp.sub 3 (Operand.tmp 39) (Operand.const (Value.int IntKind.i64 1)) 3, type := 3, pos := "ref.go:139", after := #[{ on := 9, ground := Ground.data }], guard := none }) (v := ?_) rfl (by kernel_rfl) (by kernel_rfl) (by kernel_rfl) (fun _ _ _ h => h) (Or.inl ⟨by kernel_rfl, ?_⟩) (by assumption) ?_
  rotate_left
  · (intro w hSw; (try dsimp only at hSw); go_simp) <;> with_reducible rfl
  try simp only [Act.put, List.setIfInBounds_toArray, List.set_cons_zero, List.set_cons_succ]
  refine wpAnyH_take (i := 20) (oi := { dst := some 50, op := Op.indexAddr 46 (Operand.tmp 30) (Operand.tmp 40), type := 0, pos := "ref.go:139", after := #[{ on := 0, ground := Ground.data }, { on := 10, ground := Ground.data }, { on := 0, ground := Ground.phase }, { on := 1, ground := Ground.phase }, { on := 2, ground := Ground.phase }, { on := 3, ground := Ground.phase }, { on := 4, ground := Ground.phase }, { on := 5, ground := Ground.phase }, { on := 6, ground := Ground.phase }, { on := 7, ground := Ground.phase }, { on := 8, ground := Ground.phase }, { on := 9, ground := Ground.phase }, { on := 10, ground := Ground.phase }, { on := 11, ground := Ground.phase }, { on := 12, ground := Ground.phase }, { on := 13, ground := Ground.phase }, { on := 14, ground := Ground.phase }, { on := 15, ground := Ground.phase }, { on := 16, ground := Ground.phase }, { on := 17, ground := Ground.phase }, { on := 18, ground := Ground.phase }, { on := 19, ground := Ground.phase }], guard := none }) (v := ?_) rfl (by kernel_rfl) (by kernel_rfl) (by kernel_rfl) (fun _ _ _ h => h) (Or.inl ⟨by kernel_rfl, ?_⟩) (by assumption) ?_
  rotate_left
  · (intro w hSw; (try dsimp only at hSw); go_simp) <;> with_reducible rfl
  try simp only [Act.put, List.setIfInBounds_toArray, List.set_cons_zero, List.set_cons_succ]
  refine wpAnyH_ready (rs := [21]) (by kernel_rfl) (by simp) ?_
  refine AllReadyH.cons (o := { dst := none, op := Op.store 4 (Operand.tmp 50) (Operand.tmp 49), type := 0, pos := "ref.go:139", after := #[{ on := 20, ground := Ground.data }, { on := 19, ground := Ground.data }, { on := 9, ground := Ground.chain }, { on := 0, ground := Ground.phase }, { on := 1, ground := Ground.phase }, { on := 2, ground := Ground.phase }, { on := 3, ground := Ground.phase }, { on := 4, ground := Ground.phase }, { on := 5, ground := Ground.phase }, { on := 6, ground := Ground.phase }, { on := 7, ground := Ground.phase }, { on := 8, ground := Ground.phase }, { on := 9, ground := Ground.phase }, { on := 10, ground := Ground.phase }, { on := 11, ground := Ground.phase }, { on := 12, ground := Ground.phase }, { on := 13, ground := Ground.phase }, { on := 14, ground := Ground.phase }, { on := 15, ground := Ground.phase }, { on := 16, ground := Ground.phase }, { on := 17, ground := Ground.phase }, { on := 18, ground := Ground.phase }, { on := 19, ground := Ground.phase }], guard := none }) rfl (fun K hK => ?_) AllReadyH.nil
  go_simp
  skip
  try dsimp only
  refine hK.out _ _ ?_ (fun hHeld1 => ?_)
  · (try dsimp only) <;> go_keep
  clear hK K
  try simp only [Act.put, List.setIfInBounds_toArray, List.set_cons_zero, List.set_cons_succ]
  refine wpAnyH_done (by kernel_rfl) ?_ _
  refine NoPanic.normal ?_
  exact HQ.out _ _ _ _ _ _ _ _ _ _ _ _ _ _ _ _ _ _ _ _ _
set_option maxHeartbeats 2000000 in
theorem model37_ok {B db n : Nat} {s : Trl.S} {W : World} (H : Dtx B db n s W) (h : s.R.length = n) :
    Calls Try.prog 37 #[.pointer (some ⟨db, 0, none⟩)] W fun e w' => ModelOut W (Trl.model n s.R) n true e w' := by
  obtain ⟨rv, h1⟩ := H
  obtain ⟨o, c, rfl, hsh⟩ := h1.shape
  have hn := h1.ok.n
  have c0 := row_cell h1.blk 0
  have c1 := row_cell h1.blk 1
  rw [h] at c1
  obtain ⟨i0, hi, hz⟩ := Option.map_eq_some_iff.1 info4
  simp only [Prod.mk.injEq] at hz
  have hmk := fun W => run_makeSlice (P := Try.prog) W 46 4 i0 (.bool false) Try.underlying46 hi hz.1 .i64 .i64 (n : Int) (n : Int) (by omega) (Int.le_refl _) (by rw [hz.2.1]; omega) (by rw [hz.2.2]; omega) (by omega)
  simp only [hz.2.1, Nat.mul_one, Int.toNat_natCast] at hmk
  have HD := hid h1
  have HL := hid h
  rw [h] at hsh
  clear h1 hi hz h
  go_enter Try.func37, Try.ntmps37
  go_wp2
  go_quiet (fail)
  go_wp2
  have hst := mk_mz W nq n s.R
  obtain ⟨gm, hgm⟩ : ∃ gm, gm = W.heap.size := ⟨_, rfl⟩
  rw [← hgm] at hst ⊢
  have HST := hid hst
  have HG := hid hgm
  clear hst hgm c0 c1 hmk
  generalize (W.drewN nq).alloc (.cells (madeCells #[Value.bool false] n) 4) = X at *
  go_loopw [5] (fun iv wr => ∃ i : Nat, i ≤ n ∧ iv = .int .i64 i ∧ Hid (Mz W gm n s.R i wr)) (fun iv _ => n - (intOf iv).toNat)
  case atStart => exact ⟨0, Nat.zero_le _, rfl, HST⟩
  case round =>
    obtain ⟨i, hi, rfl, HM⟩ := hrel
    have hDr := HD.out.below HM.out.1
    have y1 := row_cell hDr.blk 1
    rw [HL.out] at y1
    by_cases hlt : i < n
    · have hlt' : (i : Int) < n := by omega
      have hil : i < s.R.length := by rw [HL.out]; exact hlt
      obtain ⟨g, rfl⟩ : ∃ g, o = some ⟨g, 0, none⟩ := by
        rcases hsh with h0 | h0
        · omega
        · exact h0
      have hlit := HD.out.ok.lits _ (Trl.get_mem hil)
      obtain ⟨v, hv⟩ : ∃ v : Nat, Trl.vr (Trl.get s.R i).lit = (v : Int) + 1 := ⟨(Trl.vr (Trl.get s.R i).lit - 1).toNat, by omega⟩
      have hvn : v < n := by omega
      obtain ⟨⟨u, hu⟩, hf, hs⟩ := HM.out.step HD.out.ok HG.out hil v hv hvn
      have d0 : wr.cell? ⟨g, i * 3, none⟩ = some (.int .i32 (Trl.get s.R i).lit) := by
        have := hDr.cell hil (t := 0) rfl
        rwa [Nat.add_zero] at this
      have C53 := hid (fun (Y : World) => var53 (Trl.get s.R i).lit Y (i32_get HD.out.ok hil))
      rw [hv] at C53
      have hgd : gm ≠ db := by
        rintro rfl
        obtain ⟨_, cur, q1, _⟩ := HM.out
        have := hDr.blk
        rw [q1] at this; injection this with e; injection e with _ e; cases e
      have hgg : gm ≠ g := by
        rintro rfl
        obtain ⟨_, cur, q1, _⟩ := HM.out
        obtain ⟨_, cu, q2⟩ := own_blk (g := gm) hDr.own rfl
        rw [q1] at q2; injection q2 with e; injection e with _ e; cases e
      have hvn' : (v : Int) < n := by omega
      have HS := hid hs
      clear hDr hs hlit hv HM
      generalize (Trl.get s.R i).lit = L at *
      go_wp2_with (fail)
      refine reg7 db g c n gm i v L u y1 d0 hlt' hvn' hn hu hf hgd hgg C53.out _ _ _ _ _ _ _ _ _ _ _ _ _ _ _ _ _ _ _ _ _ _ _ _ _ _ _ _ _ _ _ _ _ _ _ _ _ _ _ _ _ _ _ _ _ _ _ _ _ ?_
      intro u30 u31 u32 u33 u34 u35 u36 u37 u38 u39 u40 u41 u42 u43 u44 u45 u46 u47 u48 u49 u50
      clear C53
      dsimp only
      go_wp2
      exact ⟨⟨i + 1, by omega, by go_num, HS⟩, by simp only [intOf]; omega⟩
    · have hge : ¬ (i : Int) < n := by omega
      obtain rfl : i = n := by omega
      have HO := hid (show ModelOut W (Trl.model i s.R) i true (.returned (.tuple #[.slice (some ⟨gm, 0, none⟩) i i, .bool true])) wr from (show Mz W gm i s.R s.R.length wr by rw [HL.out]; exact HM.out).done HG.out hn)
      clear HM hDr
      go_wp2
      go_ret2
      exact HO.out
end Go.Proofs.Ytckpahdlcdgbpaa
