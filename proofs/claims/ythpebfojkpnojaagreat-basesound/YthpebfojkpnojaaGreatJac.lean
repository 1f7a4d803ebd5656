/- Small laws; the base's two maps: what stands under an id, and under a literal. -/
import Derived.Test.YthpebfojkpnojaaGreatProg
import Derived.Test.YthpebfojkpnojaaGreatJab
import Derived.WalkKit
import Derived.Deep.QuietTactic
import Derived.BigQuiet
import Derived.Below
import Derived.OwnWalk
import Derived.Laws.AppendOwn
import Derived.Laws.OwnMore
import Derived.Maps.AppendAt
import Derived.Maps.OwnSet
import Derived.Laws.Strings
import Derived.Laws.Rows
/- Small laws; the base's two maps: what stands under an id, and under a literal. -/
namespace Go.Proofs.YthpebfojkpnojaaGreat
open Go.RowKit Go.Maps
set_option linter.unusedVariables false

theorem getD_mem (xs : List Int) (k : Nat) (h : k < xs.length) : xs.getD k 0 ∈ xs := by simp [List.getD, List.getElem?_eq_getElem h]
theorem hid {p : Prop} (h : p) : Hid p := h
theorem heap_set_row {W : World} {b k : Nat} {cs : Array Value} {t : TypeId} {fr : Nat × Nat} (h : W.heap[b]? = some (.cells cs t fr)) (v : Value) : (W.setCell ⟨b, k, none⟩ v).heap[b]? = some (.cells (cs.setIfInBounds k v) t fr) := by
  simp [World.setCell, Array.getElem?_modify, h]
theorem row_cell {W : World} {b : Nat} {cs : Array Value} {t : TypeId} {fr : Nat × Nat} (h : W.heap[b]? = some (.cells cs t fr)) (k : Nat) : W.cell? ⟨b, k, none⟩ = cs[k]? := by
  simp [World.cell?, h]
theorem row_frozen {W : World} {b : Nat} {cs : Array Value} {t : TypeId} (h : W.heap[b]? = some (.cells cs t (0, 0))) (k : Nat) : W.frozen? ⟨b, k, none⟩ = false := by
  simp [World.frozen?, h]
theorem heap_other (W : World) {b k x : Nat} (u : Value) (hne : x ≠ b) : (W.setCell ⟨b, k, none⟩ u).heap[x]? = W.heap[x]? := Below.heap_setCell W ⟨b, k, none⟩ u x hne
theorem below_box (w : World) (o : Obj) : Below w.heap.size w (w.alloc o) := (Below.refl _ _).alloc (Nat.le_refl _) o
theorem box_below (w : World) (o : Obj) {w' : World} (h : Below (w.alloc o).heap.size (w.alloc o) w') : Below w.heap.size w w' := (below_box w o).trans (h.mono (by simp))
theorem own_slc {W : World} {base n e size : Nat} {v : Value} {xs : List Value} (h : W.ownsRow base e size v n xs) : ∃ o c, v = .slice o n c := by
  rcases h.2 with ⟨e1, h0⟩ | ⟨g, c, cur, e1, _⟩
  · exact ⟨none, 0, by rw [e1, h0]⟩
  · exact ⟨_, _, e1⟩
theorem own_below {W W' : World} {base e size : Nat} {v : Value} {n : Nat} {xs : List Value} (h : W.ownsRow base e size v n xs) (hb : Below W.heap.size W W') : W'.ownsRow base e size v n xs := by
  refine ⟨h.1, h.2.imp id ?_⟩
  rintro ⟨g, c, cur, e1, h1, h2, h3⟩
  exact ⟨g, c, cur, e1, h1, (hb.block g (Array.getElem?_eq_some_iff.1 h2).1).trans h2, h3⟩
theorem own_base {W : World} {base base' e size : Nat} {v : Value} {n : Nat} {xs : List Value} (h : W.ownsRow base e size v n xs) (hb : base' ≤ base) : W.ownsRow base' e size v n xs := by
  refine ⟨h.1, h.2.imp id ?_⟩
  rintro ⟨g, c, cur, e1, h1, h2⟩
  exact ⟨g, c, cur, e1, by omega, h2⟩
theorem own_set {W : World} {base b k e size : Nat} {v : Value} {n : Nat} {xs : List Value} (h : W.ownsRow base e size v n xs) (hb : b < base) (u : Value) : (W.setCell ⟨b, k, none⟩ u).ownsRow base e size v n xs := by
  refine ⟨h.1, h.2.imp id ?_⟩
  rintro ⟨g, c, cur, e1, h1, h2, h3⟩
  exact ⟨g, c, cur, e1, h1, (heap_other W u (by omega)).trans h2, h3⟩
theorem cell_lt {W : World} {b i : Nat} {v : Value} (h : W.cell? ⟨b, i, none⟩ = some v) : b < W.heap.size := by
  rcases Nat.lt_or_ge b W.heap.size with h' | h'
  · exact h'
  · have hn : W.heap[b]? = none := Array.getElem?_eq_none h'
    simp [World.cell?, hn] at h
theorem wpList_append_run {P : Program} {w w' : World} {ops : Array Oper} {rest : List Oper} {o : Oper} {a : Act} {Q : Exit → Act → World → Prop} (hgd : o.guard = none) (s x : Operand) (t u : TypeId)
    (ho : o.op = .call { callee := .builtin .append, args := #[s, x], argTypes := #[t, u] }) {v xv v' : Value} (hs : a.eval s = v) (hx : a.eval x = xv)
    (hrun : (Builtin.append_ #[t, u] o.type #[v, xv]).run P w = .ok v' w') (h : wpList P ops Q rest (a.put o.dst v') w') : wpList P ops Q (o :: rest) a w := by
  refine wpList_plain hgd fun K hK => ?_
  unfold Oper.wp
  simp [execOp, ho, resolve, invoke, builtin, hs, hx, hrun, Result.andThen]
  exact hK _ _ h

/-- A row of numbers of a kind. -/
def Row (k : IntKind) (lo hi : Int) (W : World) (a : Option Addr) (xs : List Int) : Prop :=
  (∀ x ∈ xs, lo ≤ x ∧ x ≤ hi) ∧ (xs = [] ∨ ∃ b off, a = some ⟨b, off, none⟩ ∧ b < W.heap.size ∧ ∀ j, j < xs.length → W.cell? ⟨b, off + j, none⟩ = some (.int k (xs.getD j 0)))
abbrev Lits := Row .i32 (-2147483648) 2147483647
abbrev Hnts := Row .i64 (-9223372036854775808) 9223372036854775807
theorem Row.below {k : IntKind} {lo hi : Int} {w w' : World} {a : Option Addr} {xs : List Int} (h : Row k lo hi w a xs) (hb : Below w.heap.size w w') : Row k lo hi w' a xs := by
  refine ⟨h.1, ?_⟩
  rcases h.2 with h | ⟨b, off, e, hl, hc⟩
  · exact .inl h
  · exact .inr ⟨b, off, e, Nat.lt_of_lt_of_le hl hb.size, fun j hj => (hb.cell (p := ⟨b, off + j, none⟩) hl).trans (hc j hj)⟩
theorem Row.nil (k : IntKind) (lo hi : Int) (W : World) (a : Option Addr) : Row k lo hi W a [] := ⟨(fun x h => by cases h), .inl rfl⟩
theorem Row.at {k : IntKind} {lo hi : Int} {w : World} {a : Option Addr} {xs : List Int} (h : Row k lo hi w a xs) {j : Nat} (hj : j < xs.length) :
    ∃ b off, a = some ⟨b, off, none⟩ ∧ b < w.heap.size ∧ w.cell? ⟨b, off + j, none⟩ = some (.int k (xs.getD j 0)) ∧ lo ≤ xs.getD j 0 ∧ xs.getD j 0 ≤ hi := by
  rcases h.2 with h' | ⟨b, off, e, hl, hc⟩
  · rw [h'] at hj; simp at hj
  · exact ⟨b, off, e, hl, hc j hj, h.1 _ (getD_mem xs j hj)⟩
theorem Row.shape {k : IntKind} {lo hi : Int} {w : World} {a : Option Addr} {xs : List Int} (h : Row k lo hi w a xs) : xs.length = 0 ∨ ∃ b off, a = some ⟨b, off, none⟩ := by
  rcases h.2 with h' | ⟨b, off, e, _⟩
  · left; rw [h']; rfl
  · exact .inr ⟨b, off, e⟩

theorem own_blk {W : World} {base n size : Nat} {e : TypeId} {v : Value} {xs : List Value} {g : Nat} (h : W.ownsRow base e size v n xs) (hg : v.ownBlock = some g) : base ≤ g ∧ ∃ cur, W.heap[g]? = some (.cells cur e (0, 0)) := by
  rcases h.2 with ⟨rfl, _⟩ | ⟨g', cap, cur, rfl, hb, hgb, _⟩
  · cases hg
  · cases hg; exact ⟨hb, cur, hgb⟩
theorem own_some {W : World} {base n e : Nat} {v : Value} {xs : List Value} (h : W.ownsRow base e 1 v n xs) (hn : 0 < n) :
    ∃ g c cur, v = .slice (some ⟨g, 0, none⟩) n c ∧ base ≤ g ∧ W.heap[g]? = some (.cells cur e (0, 0)) ∧ n ≤ c ∧ c ≤ maxLen ∧ cur.size = c ∧ cur.toList.take n = xs := by
  rcases h.2 with ⟨_, h0⟩ | ⟨g, c, cur, h1, h2, h3, h4, h5, h6, h7⟩
  · omega
  · exact ⟨g, c, cur, h1, h2, h3, h4, h5, by rw [h6, Nat.mul_one], by rw [Nat.mul_one] at h7; exact h7⟩
theorem own_mk {W : World} {base n e g c : Nat} {cur : Array Value} {xs : List Value} (h2 : base ≤ g) (h3 : W.heap[g]? = some (.cells cur e (0, 0))) (h4 : n ≤ c) (h5 : c ≤ maxLen) (h6 : cur.size = c) (h7 : cur.toList.take n = xs) : W.ownsRow base e 1 (.slice (some ⟨g, 0, none⟩) n c) n xs := by
  refine ⟨?_, .inr ⟨g, c, cur, rfl, h2, h3, h4, h5, by rw [h6, Nat.mul_one], by rw [Nat.mul_one]; exact h7⟩⟩
  rw [← h7, List.length_take, Array.length_toList]; omega
theorem setB_take (cur : Array Value) (xs : List Int) (q : IntKind) (n p : Nat) (x : Int) (h : cur.toList.take n = xs.map (Value.int q)) : (cur.setIfInBounds p (.int q x)).toList.take n = (xs.set p x).map (Value.int q) := by
  rw [Array.toList_setIfInBounds, List.take_set, h, List.map_set]
theorem own_type {W : World} {base n e b t : Nat} {v : Value} {xs : List Value} {cs : Array Value} {fr : Nat × Nat} (h : W.ownsRow base e 1 v n xs) (hb : W.heap[b]? = some (.cells cs t fr)) (hne : t ≠ e) : some b ≠ v.ownBlock := by
  intro e1
  obtain ⟨_, cur, h2⟩ := own_blk h e1.symm
  rw [hb] at h2
  injection h2 with h2
  injection h2 with h2 h3
  exact hne h3
def I64 (n : Int) : Prop := -9223372036854775808 ≤ n ∧ n ≤ 9223372036854775807
def I32 (n : Int) : Prop := -2147483648 ≤ n ∧ n ≤ 2147483647
/-- An element of a map, as it is. -/
def raw (v : Value) : Option (DataW Value × List MemPlace) := some (.held v, [])
/-- What stands under a key, where one more stands, or one less. -/
def upd (f : Int → Option Value) (id : Int) (v : Option Value) (k : Int) : Option Value := if k = id then v else f k
theorem klawMp : Keyed Tryz.prog 2 := int_keyed Tryz.underlying2
theorem keyMp {id : Int} (h : I64 id) : keyOf Tryz.prog 2 (.int .i64 id) = some (.int .i64 id) := keyOf_int_mk Tryz.underlying2 (WalkArith.wf_i64 (by have := h.1; have := h.2; omega))
/-- Block bm is a map of at most n entries, and f tells what stands under a key. -/
def Mp (W : World) (bm n : Nat) (f : Int → Option Value) : Prop :=
  ∃ D : DataW Value, W.ownsMap Tryz.prog 2 raw bm n D ∧ ∀ id, I64 id → Maps.has D (.int .i64 id) = (f id).isSome ∧ D.atKey (.int .i64 id) (.held (.agg #[.int .i64 0, .slice none 0 0, .bool false])) = .held ((f id).getD (.agg #[.int .i64 0, .slice none 0 0, .bool false]))
theorem Mp.new (w : World) : Mp (w.alloc (.map #[] 0)) w.heap.size 0 (fun _ => none) :=
  ⟨.map [], World.ownsMap_made w Tryz.prog 2 raw, fun id _ => ⟨rfl, rfl⟩⟩
theorem Mp.kept {W W' : World} {bm n : Nat} {f : Int → Option Value} {row : Option Nat} (h : Mp W bm n f) (hg : W.grownBy W' row) (hne : some bm ≠ row) : Mp W' bm n f := by
  obtain ⟨D, h1, h2⟩ := h
  exact ⟨D, h1.kept hg hne, h2⟩
theorem Mp.lt {W : World} {bm n : Nat} {f : Int → Option Value} (h : Mp W bm n f) : bm < W.heap.size := by
  obtain ⟨D, h1, h2⟩ := h
  exact h1.lt
theorem Mp.obj {W : World} {bm n : Nat} {f : Int → Option Value} (h : Mp W bm n f) : ∃ es cl, W.heap[bm]? = some (.map es cl) := by
  obtain ⟨D, h1, h2⟩ := h
  obtain ⟨es, cl, hh, _⟩ := h1
  exact ⟨es, cl, hh⟩
theorem Mp.same {W W' : World} {bm n : Nat} {f : Int → Option Value} (h : Mp W bm n f) (e : W'.heap[bm]? = W.heap[bm]?) : Mp W' bm n f := by
  obtain ⟨D, ⟨es, cl, hh, r⟩, h2⟩ := h
  exact ⟨D, ⟨es, cl, e.trans hh, r⟩, h2⟩
theorem Mp.set {W : World} {bm n : Nat} {f : Int → Option Value} (h : Mp W bm n f) {a : Addr} (ha : bm ≠ a.block) (u : Value) : Mp (W.setCell a u) bm n f := by
  obtain ⟨D, h1, h2⟩ := h
  exact ⟨D, h1.setCell ha u, h2⟩
theorem zeroMp (w : World) : (zeroValue 83).run Tryz.prog w = .ok (.agg #[.int .i64 0, .slice none 0 0, .bool false]) w := by kernel_rfl
theorem Mp.look {W : World} {bm n : Nat} {f : Int → Option Value} (h : Mp W bm n f) {id : Int} (hi : I64 id) :
    (Instr.lookup 71 (.map (some bm)) (.int .i64 id) true).run Tryz.prog W = .ok (.tuple #[(f id).getD (.agg #[.int .i64 0, .slice none 0 0, .bool false]), .bool (f id).isSome]) W := by
  obtain ⟨D, h1, h2⟩ := h
  obtain ⟨v, ps, hr, hv⟩ := h1.look_ok klawMp Tryz.underlying71 (zeroMp W) (zd := .held (.agg #[.int .i64 0, .slice none 0 0, .bool false])) (zp := []) rfl (keyMp hi)
  rw [(h2 id hi).2] at hv
  rw [hr, (h2 id hi).1]
  simp only [raw, Option.some.injEq, Prod.mk.injEq, DataW.held.injEq] at hv
  rw [hv.1]
theorem Mp.look1 {W : World} {bm n : Nat} {f : Int → Option Value} (h : Mp W bm n f) {id : Int} (hi : I64 id) :
    (Instr.lookup 71 (.map (some bm)) (.int .i64 id) false).run Tryz.prog W = .ok ((f id).getD (.agg #[.int .i64 0, .slice none 0 0, .bool false])) W := by
  obtain ⟨D, h1, h2⟩ := h
  obtain ⟨v, ps, hr, hv⟩ := h1.lookup klawMp Tryz.underlying71 (zeroMp W) (zd := .held (.agg #[.int .i64 0, .slice none 0 0, .bool false])) (zp := []) rfl (keyMp hi)
  rw [(h2 id hi).2] at hv
  rw [hr]
  simp only [raw, Option.some.injEq, Prod.mk.injEq, DataW.held.injEq] at hv
  rw [hv.1]
theorem litneMp {a b : Int} (h : a ≠ b) : Lit.int .i64 a ≠ .int .i64 b := by
  intro e; injection e with _ e; exact h e
theorem Mp.put {W : World} {bm n : Nat} {f : Int → Option Value} (h : Mp W bm n f) {id : Int} (hi : I64 id) (hn : n < maxLen) (v : Value) :
    ∃ W', (Instr.mapUpdate 71 (.map (some bm)) (.int .i64 id) v).run Tryz.prog W = .ok () W' ∧ Mp W' bm (n + 1) (upd f id (some v)) ∧ W.mapTurned W' bm := by
  obtain ⟨D, h1, h2⟩ := h
  obtain ⟨W', hr, ho, ht⟩ := h1.store klawMp Tryz.underlying71 hn (val := v) (d := .held v) (ps := []) (keyMp hi) rfl
  refine ⟨W', hr, ⟨_, ho, fun k hk => ?_⟩, ht⟩
  by_cases e : k = id
  · subst e
    rw [has_put_same h1.isMap (show WideAt.IsKeyLit (.int .i64 k) from trivial), atKey_put_same h1.isMap (show WideAt.IsKeyLit (.int .i64 k) from trivial)]
    simp [upd]
  · rw [has_put_other (litneMp e), atKey_put_other (litneMp e)]
    simp only [upd, if_neg e]
    exact h2 k hk
theorem Mp.del {W : World} {bm n : Nat} {f : Int → Option Value} (h : Mp W bm n f) {id : Int} (hi : I64 id) (ty : TypeId) :
    ∃ W', (Builtin.delete_ #[71, 2] ty #[.map (some bm), .int .i64 id]).run Tryz.prog W = .ok (.tuple #[]) W' ∧ Mp W' bm n (upd f id none) ∧ W.mapTurned W' bm := by
  obtain ⟨D, h1, h2⟩ := h
  obtain ⟨W', hr, ho, ht⟩ := h1.drop klawMp Tryz.underlying71 (keyMp hi) ty
  refine ⟨W', hr, ⟨_, ho, fun k hk => ?_⟩, ht⟩
  by_cases e : k = id
  · subst e
    rw [has_del_same, atKey_del_same]
    simp [upd]
  · rw [has_del_other (litneMp e), atKey_del_other (litneMp e)]
    simp only [upd, if_neg e]
    exact h2 k hk

theorem klawMr : Keyed Tryz.prog 66 := int_keyed Tryz.underlying66
theorem keyMr {id : Int} (h : I32 id) : keyOf Tryz.prog 66 (.int .i32 id) = some (.int .i32 id) := keyOf_int_mk Tryz.underlying66 (WalkArith.wf_i32 (by have := h.1; have := h.2; omega))
/-- Block bm is a map of at most n entries, and f tells what stands under a key. -/
def Mr (W : World) (bm n : Nat) (f : Int → Option Value) : Prop :=
  ∃ D : DataW Value, W.ownsMap Tryz.prog 66 raw bm n D ∧ ∀ id, I32 id → Maps.has D (.int .i32 id) = (f id).isSome ∧ D.atKey (.int .i32 id) (.held (.pointer none)) = .held ((f id).getD (.pointer none))
theorem Mr.new (w : World) : Mr (w.alloc (.map #[] 0)) w.heap.size 0 (fun _ => none) :=
  ⟨.map [], World.ownsMap_made w Tryz.prog 66 raw, fun id _ => ⟨rfl, rfl⟩⟩
theorem Mr.kept {W W' : World} {bm n : Nat} {f : Int → Option Value} {row : Option Nat} (h : Mr W bm n f) (hg : W.grownBy W' row) (hne : some bm ≠ row) : Mr W' bm n f := by
  obtain ⟨D, h1, h2⟩ := h
  exact ⟨D, h1.kept hg hne, h2⟩
theorem Mr.lt {W : World} {bm n : Nat} {f : Int → Option Value} (h : Mr W bm n f) : bm < W.heap.size := by
  obtain ⟨D, h1, h2⟩ := h
  exact h1.lt
theorem Mr.obj {W : World} {bm n : Nat} {f : Int → Option Value} (h : Mr W bm n f) : ∃ es cl, W.heap[bm]? = some (.map es cl) := by
  obtain ⟨D, h1, h2⟩ := h
  obtain ⟨es, cl, hh, _⟩ := h1
  exact ⟨es, cl, hh⟩
theorem Mr.same {W W' : World} {bm n : Nat} {f : Int → Option Value} (h : Mr W bm n f) (e : W'.heap[bm]? = W.heap[bm]?) : Mr W' bm n f := by
  obtain ⟨D, ⟨es, cl, hh, r⟩, h2⟩ := h
  exact ⟨D, ⟨es, cl, e.trans hh, r⟩, h2⟩
theorem Mr.set {W : World} {bm n : Nat} {f : Int → Option Value} (h : Mr W bm n f) {a : Addr} (ha : bm ≠ a.block) (u : Value) : Mr (W.setCell a u) bm n f := by
  obtain ⟨D, h1, h2⟩ := h
  exact ⟨D, h1.setCell ha u, h2⟩
theorem zeroMr (w : World) : (zeroValue 86).run Tryz.prog w = .ok (.pointer none) w := by kernel_rfl
theorem Mr.look {W : World} {bm n : Nat} {f : Int → Option Value} (h : Mr W bm n f) {id : Int} (hi : I32 id) :
    (Instr.lookup 72 (.map (some bm)) (.int .i32 id) true).run Tryz.prog W = .ok (.tuple #[(f id).getD (.pointer none), .bool (f id).isSome]) W := by
  obtain ⟨D, h1, h2⟩ := h
  obtain ⟨v, ps, hr, hv⟩ := h1.look_ok klawMr Tryz.underlying72 (zeroMr W) (zd := .held (.pointer none)) (zp := []) rfl (keyMr hi)
  rw [(h2 id hi).2] at hv
  rw [hr, (h2 id hi).1]
  simp only [raw, Option.some.injEq, Prod.mk.injEq, DataW.held.injEq] at hv
  rw [hv.1]
theorem Mr.look1 {W : World} {bm n : Nat} {f : Int → Option Value} (h : Mr W bm n f) {id : Int} (hi : I32 id) :
    (Instr.lookup 72 (.map (some bm)) (.int .i32 id) false).run Tryz.prog W = .ok ((f id).getD (.pointer none)) W := by
  obtain ⟨D, h1, h2⟩ := h
  obtain ⟨v, ps, hr, hv⟩ := h1.lookup klawMr Tryz.underlying72 (zeroMr W) (zd := .held (.pointer none)) (zp := []) rfl (keyMr hi)
  rw [(h2 id hi).2] at hv
  rw [hr]
  simp only [raw, Option.some.injEq, Prod.mk.injEq, DataW.held.injEq] at hv
  rw [hv.1]
theorem litneMr {a b : Int} (h : a ≠ b) : Lit.int .i32 a ≠ .int .i32 b := by
  intro e; injection e with _ e; exact h e
theorem Mr.put {W : World} {bm n : Nat} {f : Int → Option Value} (h : Mr W bm n f) {id : Int} (hi : I32 id) (hn : n < maxLen) (v : Value) :
    ∃ W', (Instr.mapUpdate 72 (.map (some bm)) (.int .i32 id) v).run Tryz.prog W = .ok () W' ∧ Mr W' bm (n + 1) (upd f id (some v)) ∧ W.mapTurned W' bm := by
  obtain ⟨D, h1, h2⟩ := h
  obtain ⟨W', hr, ho, ht⟩ := h1.store klawMr Tryz.underlying72 hn (val := v) (d := .held v) (ps := []) (keyMr hi) rfl
  refine ⟨W', hr, ⟨_, ho, fun k hk => ?_⟩, ht⟩
  by_cases e : k = id
  · subst e
    rw [has_put_same h1.isMap (show WideAt.IsKeyLit (.int .i32 k) from trivial), atKey_put_same h1.isMap (show WideAt.IsKeyLit (.int .i32 k) from trivial)]
    simp [upd]
  · rw [has_put_other (litneMr e), atKey_put_other (litneMr e)]
    simp only [upd, if_neg e]
    exact h2 k hk
theorem Mr.del {W : World} {bm n : Nat} {f : Int → Option Value} (h : Mr W bm n f) {id : Int} (hi : I32 id) (ty : TypeId) :
    ∃ W', (Builtin.delete_ #[72, 66] ty #[.map (some bm), .int .i32 id]).run Tryz.prog W = .ok (.tuple #[]) W' ∧ Mr W' bm n (upd f id none) ∧ W.mapTurned W' bm := by
  obtain ⟨D, h1, h2⟩ := h
  obtain ⟨W', hr, ho, ht⟩ := h1.drop klawMr Tryz.underlying72 (keyMr hi) ty
  refine ⟨W', hr, ⟨_, ho, fun k hk => ?_⟩, ht⟩
  by_cases e : k = id
  · subst e
    rw [has_del_same, atKey_del_same]
    simp [upd]
  · rw [has_del_other (litneMr e), atKey_del_other (litneMr e)]
    simp only [upd, if_neg e]
    exact h2 k hk

/-- Nothing is turned but memory of such a kind, from n on. -/
structure Fr (p : Obj → Prop) (n : Nat) (W W' : World) : Prop where
  os : W'.os = W.os
  tape : W'.tape = W.tape
  output : W'.output = W.output
  size : W.heap.size ≤ W'.heap.size
  block : ∀ g o, W.heap[g]? = some o → (g < n ∨ ¬ p o) → W'.heap[g]? = some o
theorem Fr.refl (p : Obj → Prop) (n : Nat) (W : World) : Fr p n W W := ⟨rfl, rfl, rfl, Nat.le_refl _, fun _ _ h _ => h⟩
theorem Fr.trans {p : Obj → Prop} {n : Nat} {A B C : World} (h : Fr p n A B) (k : Fr p n B C) : Fr p n A C :=
  ⟨k.os.trans h.os, k.tape.trans h.tape, k.output.trans h.output, Nat.le_trans h.size k.size, fun g o hg hp => k.block g o (h.block g o hg hp) hp⟩
theorem lt_of_blk {W : World} {g : Nat} {o : Obj} (h : W.heap[g]? = some o) : g < W.heap.size := (Array.getElem?_eq_some_iff.1 h).1
theorem Fr.of_below {p : Obj → Prop} {n : Nat} {W W' : World} (h : Below W.heap.size W W') : Fr p n W W' :=
  ⟨h.os, h.tape, h.output, h.size, fun g o hg _ => (h.block g (lt_of_blk hg)).trans hg⟩
theorem Fr.below {p : Obj → Prop} {n : Nat} {W W' : World} (h : Fr p n W W') (hn : n ≤ W.heap.size) : Below n W W' :=
  ⟨h.os, h.tape, h.output, h.size, fun g hg => by
    obtain ⟨o, ho⟩ : ∃ o, W.heap[g]? = some o := ⟨_, Array.getElem?_eq_getElem (by omega)⟩
    rw [ho]
    exact h.block g o ho (.inl hg)⟩
theorem Fr.grown {p : Obj → Prop} {n : Nat} {W W' : World} {row : Option Nat} (h : W.grownBy W' row) (hr : ∀ k, row = some k → n ≤ k ∧ ∀ o, W.heap[k]? = some o → p o) : Fr p n W W' :=
  ⟨h.os, h.tape, h.output, h.size, fun g o hg hp => by
    refine (h.block g (lt_of_blk hg) (fun e => ?_)).trans hg
    have := hr g e.symm
    rcases hp with hp | hp
    · omega
    · exact hp (this.2 o hg)⟩
theorem Fr.set {p : Obj → Prop} {n : Nat} (W : World) {a : Addr} (u : Value) (hn : n ≤ a.block) (hp : ∀ o, W.heap[a.block]? = some o → p o) : Fr p n W (W.setCell a u) :=
  ⟨rfl, rfl, rfl, by simp [World.setCell], fun g o hg hq => by
    refine (Below.heap_setCell W a u g (fun e => ?_)).trans hg
    subst e
    rcases hq with hq | hq
    · omega
    · exact hq (hp o hg)⟩
theorem Fr.alloc {p : Obj → Prop} {n : Nat} (W : World) (o : Obj) : Fr p n W (W.alloc o) := Fr.of_below (below_box W o)
theorem own_fr {p : Obj → Prop} {W W' : World} {base e size n m : Nat} {v : Value} {xs : List Value} (h : W.ownsRow base e size v n xs) (hf : Fr p m W W') (hp : ∀ cs fr, ¬ p (.cells cs e fr)) : W'.ownsRow base e size v n xs := by
  refine ⟨h.1, h.2.imp id ?_⟩
  rintro ⟨g, c, cur, e1, h1, h2, h3⟩
  exact ⟨g, c, cur, e1, h1, hf.block g _ h2 (.inr (hp _ _)), h3⟩
end Go.Proofs.YthpebfojkpnojaaGreat

/- A base that is not there. -/
namespace Go.Proofs.YthpebfojkpnojaaGreat
open Go.RowKit Go.Maps
set_option linter.unusedVariables false
set_option maxRecDepth 100000
theorem results_row_tmp {P : Program} {fn : Func} {p u : Tmp} {ty : TypeId} (h : fn.results = #[.cell p ty, .tmp u]) (tmps : Array Value) (w : World) (g : Nat) (t : TypeId) (cs : Array Value) (fr : Nat × Nat) (d : TypeDesc)
    (hp : tmps.getD p undef = .pointer (some ⟨g, 0, none⟩)) (hg : w.heap[g]? = some (.cells cs t fr))
    (hu : P.underlying ty = some d) (hd : (match d with | .struct _ | .array _ _ => true | _ => false) = true) (hi : (P.info? ty).map (·.size) = some cs.size) :
    (results fn tmps).run P w = .ok (.tuple #[.agg cs, tmps.getD u undef]) w := by
  have hp' : tmps[p]?.getD undef = .pointer (some ⟨g, 0, none⟩) := by simpa using hp
  simp [results, h, hp', asAddr, run_loadVar_row w g t ty cs fr d hg hu hd hi]
theorem add5_nil (a : Option Addr) (k c : Nat) (a2 : Option Addr) (k2 c2 : Nat) (red : Bool) (W : World) : Calls Tryz.prog 20 #[.pointer none, .slice a k c, .slice a2 k2 c2, .bool red] W fun e w' => e = .returned (.tuple #[.int .i64 0, .int .i64 1]) ∧ Below W.heap.size W w' := by
  go_enter Tryz.func20, Tryz.ntmps20
  go_wp2
  go_ret2
  exact ⟨rfl, Below.refl _ _⟩
theorem get6_nil (id : Int) (W : World) : Calls Tryz.prog 52 #[.pointer none, .int .i64 id] W fun e w' => e = .returned (.tuple #[.agg #[.int .i64 0, .slice none 0 0, .bool false], .bool false]) ∧ Below W.heap.size W w' := by
  go_enter Tryz.func52, Tryz.ntmps52
  go_wp2
  refine bodyPost_ret (results_row_tmp rfl _ _ W.heap.size 83 _ (0, 0) _ rfl (heap_alloc_new _ _) Tryz.underlying83 rfl (by kernel_rfl)) rfl ?_
  exact ⟨rfl, below_box _ _⟩
theorem empty7_nil  (W : World) : Calls Tryz.prog 27 #[.pointer none] W fun e w' => e = .returned (.tuple #[.int .i64 0, .bool false]) ∧ Below W.heap.size W w' := by
  go_enter Tryz.func27, Tryz.ntmps27
  go_wp2
  go_ret2
  exact ⟨rfl, Below.refl _ _⟩
theorem keep8_nil (id : Int) (W : World) : Calls Tryz.prog 22 #[.pointer none, .int .i64 id] W fun e w' => e = .returned (.int .i64 1) ∧ Below W.heap.size W w' := by
  go_enter Tryz.func22, Tryz.ntmps22
  go_wp2
  go_ret
  exact ⟨rfl, Below.refl _ _⟩
theorem delete9_nil (id : Int) (W : World) : Calls Tryz.prog 23 #[.pointer none, .int .i64 id] W fun e w' => e = .returned (.int .i64 1) ∧ Below W.heap.size W w' := by
  go_enter Tryz.func23, Tryz.ntmps23
  go_wp2
  go_ret
  exact ⟨rfl, Below.refl _ _⟩
theorem drop10_nil (id b : Int) (W : World) : Calls Tryz.prog 24 #[.pointer none, .int .i64 id, .int .i64 b] W fun e w' => e = .returned (.int .i64 1) ∧ Below W.heap.size W w' := by
  go_enter Tryz.func24, Tryz.ntmps24
  go_wp2
  go_ret
  exact ⟨rfl, Below.refl _ _⟩
theorem weaken11_nil (id : Int) (a : Option Addr) (k c : Nat) (W : World) : Calls Tryz.prog 47 #[.pointer none, .int .i64 id, .slice a k c] W fun e w' => e = .returned (.int .i64 1) ∧ Below W.heap.size W w' := by
  go_enter Tryz.func47, Tryz.ntmps47
  go_wp2
  go_ret
  exact ⟨rfl, Below.refl _ _⟩
theorem vars12_nil  (W : World) : Calls Tryz.prog 60 #[.pointer none] W fun e w' => e = .returned (.int .i64 0) ∧ Below W.heap.size W w' := by
  go_enter Tryz.func60, Tryz.ntmps60
  go_wp2
  go_ret
  exact ⟨rfl, Below.refl _ _⟩
theorem last13_nil  (W : World) : Calls Tryz.prog 61 #[.pointer none] W fun e w' => e = .returned (.int .i64 0) ∧ Below W.heap.size W w' := by
  go_enter Tryz.func61, Tryz.ntmps61
  go_wp2
  go_ret
  exact ⟨rfl, Below.refl _ _⟩
theorem entries14_nil  (W : World) : Calls Tryz.prog 18 #[.pointer none] W fun e w' => e = .returned (.slice none 0 0) ∧ Below W.heap.size W w' := by
  go_enter Tryz.func18, Tryz.ntmps18
  go_wp2
  go_ret
  exact ⟨rfl, Below.refl _ _⟩
theorem occurs15_nil (l : Int) (W : World) : Calls Tryz.prog 62 #[.pointer none, .int .i32 l] W fun e w' => e = .returned (.slice none 0 0) ∧ Below W.heap.size W w' := by
  go_enter Tryz.func62, Tryz.ntmps62
  go_wp2
  go_ret
  exact ⟨rfl, Below.refl _ _⟩
theorem steps16_nil  (W : World) : Calls Tryz.prog 38 #[.pointer none] W fun e w' => e = .returned (.slice none 0 0) ∧ Below W.heap.size W w' := by
  go_enter Tryz.func38, Tryz.ntmps38
  go_wp2
  go_ret
  exact ⟨rfl, Below.refl _ _⟩
theorem stack17_nil  (W : World) : Calls Tryz.prog 51 #[.pointer none] W fun e w' => e = .returned (.slice none 0 0) ∧ Below W.heap.size W w' := by
  go_enter Tryz.func51, Tryz.ntmps51
  go_wp2
  go_ret
  exact ⟨rfl, Below.refl _ _⟩
theorem rules18_nil  (W : World) : Calls Tryz.prog 55 #[.pointer none] W fun e w' => e = .returned (.slice none 0 0) ∧ Below W.heap.size W w' := by
  go_enter Tryz.func55, Tryz.ntmps55
  go_wp2
  go_ret
  exact ⟨rfl, Below.refl _ _⟩
theorem copy19_nil  (W : World) : Calls Tryz.prog 12 #[.pointer none] W fun e w' => e = .returned (.pointer none) ∧ Below W.heap.size W w' := by
  go_enter Tryz.func12, Tryz.ntmps12
  go_wp2
  go_ret
  exact ⟨rfl, Below.refl _ _⟩
end Go.Proofs.YthpebfojkpnojaaGreat

