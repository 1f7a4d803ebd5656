/- A store in memory; small laws. -/
import Derived.Test.YtkodfojccodoaaaProg
import Derived.Test.YtkodfojccodoaaaPhP
import Derived.WalkKit
import Derived.Deep.QuietTactic
import Derived.BigQuiet
import Derived.Below
import Derived.OwnWalk
import Derived.Laws.AppendOwn
import Derived.Laws.OwnMore
import Derived.Maps.AppendAt
import Derived.Maps.OwnSet
import Derived.Laws.Strings
import Derived.Deep.RegionHeld3
import Derived.Deep.RegionLaw
import Derived.Deep.AppendLies
namespace Go.Proofs.Ytkodfojccodoaaa
open Go.RowKit Go.Maps
set_option linter.unusedVariables false

theorem hid {p : Prop} (h : p) : Hid p := h
theorem heap_set_row {W : World} {b k : Nat} {cs : Array Value} {t : TypeId} {fr : Nat × Nat} (h : W.heap[b]? = some (.cells cs t fr)) (v : Value) : (W.setCell ⟨b, k, none⟩ v).heap[b]? = some (.cells (cs.setIfInBounds k v) t fr) := by
  simp [World.setCell, Array.getElem?_modify, h]
theorem row_cell {W : World} {b : Nat} {cs : Array Value} {t : TypeId} {fr : Nat × Nat} (h : W.heap[b]? = some (.cells cs t fr)) (k : Nat) : W.cell? ⟨b, k, none⟩ = cs[k]? := by
  simp [World.cell?, h]
theorem row_frozen {W : World} {b : Nat} {cs : Array Value} {t : TypeId} (h : W.heap[b]? = some (.cells cs t (0, 0))) (k : Nat) : W.frozen? ⟨b, k, none⟩ = false := by
  simp [World.frozen?, h]
theorem heap_other (W : World) {b k x : Nat} (u : Value) (hne : x ≠ b) : (W.setCell ⟨b, k, none⟩ u).heap[x]? = W.heap[x]? := Below.heap_setCell W ⟨b, k, none⟩ u x hne
theorem below_box (w : World) (o : Obj) : Below w.heap.size w (w.alloc o) := (Below.refl _ _).alloc (Nat.le_refl _) o
theorem box_below (w : World) (o : Obj) {w' : World} (h : Below (w.alloc o).heap.size (w.alloc o) w') : Below w.heap.size w w' := (below_box w o).trans (h.mono (by simp))
theorem own_slc {W : World} {base n e size : Nat} {v : Value} {xs : List Value} (h : W.ownsRow base e size v n xs) : ∃ o c, v = .slice o n c := by
  rcases h.2 with ⟨e1, h0⟩ | ⟨g, c, cur, e1, _⟩
  · exact ⟨none, 0, by rw [e1, h0]⟩
  · exact ⟨_, _, e1⟩
theorem own_below {W W' : World} {base e size : Nat} {v : Value} {n : Nat} {xs : List Value} (h : W.ownsRow base e size v n xs) (hb : Below W.heap.size W W') : W'.ownsRow base e size v n xs := by
  refine ⟨h.1, h.2.imp id ?_⟩
  rintro ⟨g, c, cur, e1, h1, h2, h3⟩
  exact ⟨g, c, cur, e1, h1, (hb.block g (Array.getElem?_eq_some_iff.1 h2).1).trans h2, h3⟩
theorem own_base {W : World} {base base' e size : Nat} {v : Value} {n : Nat} {xs : List Value} (h : W.ownsRow base e size v n xs) (hb : base' ≤ base) : W.ownsRow base' e size v n xs := by
  refine ⟨h.1, h.2.imp id ?_⟩
  rintro ⟨g, c, cur, e1, h1, h2⟩
  exact ⟨g, c, cur, e1, by omega, h2⟩
theorem own_set {W : World} {base b k e size : Nat} {v : Value} {n : Nat} {xs : List Value} (h : W.ownsRow base e size v n xs) (hb : b < base) (u : Value) : (W.setCell ⟨b, k, none⟩ u).ownsRow base e size v n xs := by
  refine ⟨h.1, h.2.imp id ?_⟩
  rintro ⟨g, c, cur, e1, h1, h2, h3⟩
  exact ⟨g, c, cur, e1, h1, (heap_other W u (by omega)).trans h2, h3⟩
theorem cell_lt {W : World} {b i : Nat} {v : Value} (h : W.cell? ⟨b, i, none⟩ = some v) : b < W.heap.size := by
  rcases Nat.lt_or_ge b W.heap.size with h' | h'
  · exact h'
  · have hn : W.heap[b]? = none := Array.getElem?_eq_none h'
    simp [World.cell?, hn] at h
theorem wpList_append_run {P : Program} {w w' : World} {ops : Array Oper} {rest : List Oper} {o : Oper} {a : Act} {Q : Exit → Act → World → Prop} (hgd : o.guard = none) (s x : Operand) (t u : TypeId)
    (ho : o.op = .call { callee := .builtin .append, args := #[s, x], argTypes := #[t, u] }) {v xv v' : Value} (hs : a.eval s = v) (hx : a.eval x = xv)
    (hrun : (Builtin.append_ #[t, u] o.type #[v, xv]).run P w = .ok v' w') (h : wpList P ops Q rest (a.put o.dst v') w') : wpList P ops Q (o :: rest) a w := by
  refine wpList_plain hgd fun K hK => ?_
  unfold Oper.wp
  simp [execOp, ho, resolve, invoke, builtin, hs, hx, hrun, Result.andThen]
  exact hK _ _ h

theorem own_blk {W : World} {base n size : Nat} {e : TypeId} {v : Value} {xs : List Value} {g : Nat} (h : W.ownsRow base e size v n xs) (hg : v.ownBlock = some g) : base ≤ g ∧ ∃ cur, W.heap[g]? = some (.cells cur e (0, 0)) := by
  rcases h.2 with ⟨rfl, _⟩ | ⟨g', cap, cur, rfl, hb, hgb, _⟩
  · cases hg
  · cases hg; exact ⟨hb, cur, hgb⟩
theorem own_some {W : World} {base n e : Nat} {v : Value} {xs : List Value} (h : W.ownsRow base e 1 v n xs) (hn : 0 < n) :
    ∃ g c cur, v = .slice (some ⟨g, 0, none⟩) n c ∧ base ≤ g ∧ W.heap[g]? = some (.cells cur e (0, 0)) ∧ n ≤ c ∧ c ≤ maxLen ∧ cur.size = c ∧ cur.toList.take n = xs := by
  rcases h.2 with ⟨_, h0⟩ | ⟨g, c, cur, h1, h2, h3, h4, h5, h6, h7⟩
  · omega
  · exact ⟨g, c, cur, h1, h2, h3, h4, h5, by rw [h6, Nat.mul_one], by rw [Nat.mul_one] at h7; exact h7⟩
theorem own_mk {W : World} {base n e g c : Nat} {cur : Array Value} {xs : List Value} (h2 : base ≤ g) (h3 : W.heap[g]? = some (.cells cur e (0, 0))) (h4 : n ≤ c) (h5 : c ≤ maxLen) (h6 : cur.size = c) (h7 : cur.toList.take n = xs) : W.ownsRow base e 1 (.slice (some ⟨g, 0, none⟩) n c) n xs := by
  refine ⟨?_, .inr ⟨g, c, cur, rfl, h2, h3, h4, h5, by rw [h6, Nat.mul_one], by rw [Nat.mul_one]; exact h7⟩⟩
  rw [← h7, List.length_take, Array.length_toList]; omega
theorem own_type {W : World} {base n e b t : Nat} {v : Value} {xs : List Value} {cs : Array Value} {fr : Nat × Nat} (h : W.ownsRow base e 1 v n xs) (hb : W.heap[b]? = some (.cells cs t fr)) (hne : t ≠ e) : some b ≠ v.ownBlock := by
  intro e1
  obtain ⟨_, cur, h2⟩ := own_blk h e1.symm
  rw [hb] at h2
  injection h2 with h2
  injection h2 with h2 h3
  exact hne h3

theorem lt_of_blk {W : World} {g : Nat} {o : Obj} (h : W.heap[g]? = some o) : g < W.heap.size := (Array.getElem?_eq_some_iff.1 h).1
def Drawn (w w' : World) : Prop := ∃ q, w' = w.drewN q
theorem Drawn.refl (w : World) : Drawn w w := ⟨0, rfl⟩
theorem Drawn.drewN {w w' : World} (h : Drawn w w') (n : Nat) : Drawn w (w'.drewN n) := by obtain ⟨q, rfl⟩ := h; exact ⟨q + n, by rw [World.drewN_drewN]⟩
theorem Drawn.below {w w' : World} (h : Drawn w w') : Below w.heap.size w w' := by obtain ⟨q, rfl⟩ := h; exact ⟨rfl, rfl, rfl, Nat.le_refl _, fun _ _ => rfl⟩
theorem own_other {W W' : World} {base e size n g : Nat} {v : Value} {xs : List Value} (h : W.ownsRow base e size v n xs) (hne : v.ownBlock ≠ some g) (ho : ∀ x, x ≠ g → W'.heap[x]? = W.heap[x]?) : W'.ownsRow base e size v n xs := by
  refine ⟨h.1, h.2.imp id ?_⟩
  rintro ⟨g', c, cur, e1, h1, h2, h3⟩
  refine ⟨g', c, cur, e1, h1, (ho g' (fun e => hne ?_)).trans h2, h3⟩
  rw [e1, e]; rfl
theorem own_grown2 {W W' : World} {base e size n : Nat} {v : Value} {xs : List Value} {row : Option Nat} (h : W.ownsRow base e size v n xs) (hg : W.grownBy W' row) (hne : ∀ q, v.ownBlock = some q → row ≠ some q) : W'.ownsRow base e size v n xs := by
  refine ⟨h.1, h.2.imp id ?_⟩
  rintro ⟨g', c, cur, e1, h1, h2, h3⟩
  exact ⟨g', c, cur, e1, h1, (hg.block g' (lt_of_blk h2) (fun e => hne g' (by rw [e1]; rfl) e.symm)).trans h2, h3⟩

theorem own_keep {W : World} {base e size n tb t : Nat} {v : Value} {xs : List Value} (h : W.ownsRow base e size v n xs) (hne : v.ownBlock ≠ some tb) (u : Value) : (W.setCell ⟨tb, t, none⟩ u).ownsRow base e size v n xs := by
  refine ⟨h.1, h.2.imp id ?_⟩
  rintro ⟨g, c, cur, e1, h1, h2, h3⟩
  refine ⟨g, c, cur, e1, h1, (heap_other W u (fun e => hne ?_)).trans h2, h3⟩
  rw [e1, e]; rfl

/-- Nothing is turned of what Q names. -/
structure Fq (Q : Nat → Prop) (W W' : World) : Prop where
  os : W'.os = W.os
  tape : W'.tape = W.tape
  output : W'.output = W.output
  size : W.heap.size ≤ W'.heap.size
  block : ∀ g o, W.heap[g]? = some o → Q g → W'.heap[g]? = some o
theorem Fq.refl (Q : Nat → Prop) (W : World) : Fq Q W W := ⟨rfl, rfl, rfl, Nat.le_refl _, fun _ _ h _ => h⟩
theorem Fq.trans {Q : Nat → Prop} {A B C : World} (h : Fq Q A B) (k : Fq Q B C) : Fq Q A C :=
  ⟨k.os.trans h.os, k.tape.trans h.tape, k.output.trans h.output, Nat.le_trans h.size k.size, fun g o hg hp => k.block g o (h.block g o hg hp) hp⟩
theorem Fq.of_below {Q : Nat → Prop} {W W' : World} (h : Below W.heap.size W W') : Fq Q W W' :=
  ⟨h.os, h.tape, h.output, h.size, fun g o hg _ => (h.block g (lt_of_blk hg)).trans hg⟩
theorem Fq.mono {Q Q' : Nat → Prop} {W W' : World} (h : Fq Q W W') (hq : ∀ g, Q' g → Q g) : Fq Q' W W' :=
  ⟨h.os, h.tape, h.output, h.size, fun g o hg hx => h.block g o hg (hq g hx)⟩
theorem Fq.below {Q : Nat → Prop} {W W' : World} {n : Nat} (h : Fq Q W W') (hn : n ≤ W.heap.size) (hq : ∀ g, g < n → Q g) : Below n W W' :=
  ⟨h.os, h.tape, h.output, h.size, fun g hg => by
    obtain ⟨o, ho⟩ : ∃ o, W.heap[g]? = some o := ⟨_, Array.getElem?_eq_getElem (by omega)⟩
    rw [ho]
    exact h.block g o ho (hq g hg)⟩
theorem Fq.grown {Q : Nat → Prop} {W W' : World} {row : Option Nat} (h : W.grownBy W' row) (hr : ∀ k, row = some k → ¬ Q k) : Fq Q W W' :=
  ⟨h.os, h.tape, h.output, h.size, fun g o hg hp => (h.block g (lt_of_blk hg) (fun e => hr g e.symm hp)).trans hg⟩
theorem Fq.set {Q : Nat → Prop} (W : World) {a : Addr} (u : Value) (hn : ¬ Q a.block) : Fq Q W (W.setCell a u) :=
  ⟨rfl, rfl, rfl, by simp [World.setCell], fun g o hg hq => (Below.heap_setCell W a u g (fun e => hn (e ▸ hq))).trans hg⟩
theorem Fq.alloc {Q : Nat → Prop} (W : World) (o : Obj) : Fq Q W (W.alloc o) := Fq.of_below (below_box W o)
theorem own_fq {Q : Nat → Prop} {W W' : World} {base e size n : Nat} {v : Value} {xs : List Value} (h : W.ownsRow base e size v n xs) (hf : Fq Q W W') (hp : ∀ g, v.ownBlock = some g → Q g) : W'.ownsRow base e size v n xs := by
  refine ⟨h.1, h.2.imp id ?_⟩
  rintro ⟨g, c, cur, e1, h1, h2, h3⟩
  exact ⟨g, c, cur, e1, h1, hf.block g _ h2 (hp g (by rw [e1]; rfl)), h3⟩
theorem own_setc {W : World} {base n e g c : Nat} {xs : List Value} (h : W.ownsRow base e 1 (.slice (some ⟨g, 0, none⟩) n c) n xs) (k : Nat) (u : Value) : (W.setCell ⟨g, k, none⟩ u).ownsRow base e 1 (.slice (some ⟨g, 0, none⟩) n c) n (xs.set k u) := by
  rcases h.2 with ⟨e1, _⟩ | ⟨g', c', cur, e1, h1, h2, h3, h4, h5, h6⟩
  · cases e1
  · cases e1
    rw [Nat.mul_one] at h5 h6
    refine own_mk h1 (heap_set_row h2 u) h3 h4 (by simpa using h5) ?_
    rw [Array.toList_setIfInBounds, List.take_set, h6]
def iss (sc : List Int) : List Value := sc.map (Value.int .i64)
theorem iss_set (sc : List Int) (k : Nat) (x : Int) : (iss sc).set k (.int .i64 x) = iss (sc.set k x) := by unfold iss; rw [List.map_set]
theorem iss_at {sc : List Int} {k : Nat} (h : k < sc.length) : (iss sc)[k]? = some (.int .i64 (sc.getD k 0)) := by
  unfold iss; rw [List.getElem?_map, List.getElem?_eq_getElem h, List.getD_eq_getElem?_getD, List.getElem?_eq_getElem h]; rfl
theorem iss_len {W : World} {base e n : Nat} {v : Value} {sc : List Int} (h : W.ownsRow base e 1 v n (iss sc)) : sc.length = n := by have := h.1; simpa [iss] using this
theorem info3 : (Try.prog.info? 3).map (fun i => (i.zero, i.size, i.bytes)) = some (some (.int .i64 0), 1, 8) := by kernel_rfl
theorem info2 : (Try.prog.info? 2).map (fun i => (i.zero, i.size, i.bytes)) = some (some (.int .i64 0), 1, 8) := by kernel_rfl
/-- A row's cells. -/
theorem own_cell {W : World} {base n e g c : Nat} {xs : List Value} (h : W.ownsRow base e 1 (.slice (some ⟨g, 0, none⟩) n c) n xs) {k : Nat} (hk : k < n) : W.cell? ⟨g, k, none⟩ = xs[k]? ∧ W.frozen? ⟨g, k, none⟩ = false := by
  rcases h.2 with ⟨e1, _⟩ | ⟨g', c', cur, e1, h1, h2, h3, h4, h5, h6⟩
  · cases e1
  · cases e1
    refine ⟨?_, row_frozen h2 k⟩
    rw [row_cell h2 k, ← h6, Nat.mul_one, List.getElem?_take_of_lt hk, Array.getElem?_toList]

theorem own_hp {W : World} {base n e g c : Nat} {xs : List Value} (h : W.ownsRow base e 1 (.slice (some ⟨g, 0, none⟩) n c) n xs) : ∃ cur, W.heap[g]? = some (.cells cur e (0, 0)) := (own_blk h rfl).2
theorem ty_ne {W : World} {a b t u : Nat} {ca cb : Array Value} {fa fb : Nat × Nat} (h : W.heap[a]? = some (.cells ca t fa)) (k : W.heap[b]? = some (.cells cb u fb)) (ht : t ≠ u) : a ≠ b := by
  rintro rfl
  rw [h] at k
  injection k with k
  injection k with k1 k2
  exact ht k2
def bls (bs : List Bool) : List Value := bs.map Value.bool
theorem bls_set (bs : List Bool) (k : Nat) (x : Bool) : (bls bs).set k (.bool x) = bls (bs.set k x) := by unfold bls; rw [List.map_set]
theorem bls_at {bs : List Bool} {k : Nat} (h : k < bs.length) : (bls bs)[k]? = some (.bool (bs.getD k false)) := by
  unfold bls; rw [List.getElem?_map, List.getElem?_eq_getElem h, List.getD_eq_getElem?_getD, List.getElem?_eq_getElem h]; rfl
/-- A row of literals that is only read. -/
def Lw (W : World) (a : Option Addr) (l : List Int) : Prop := l = [] ∨ ∃ b off, a = some ⟨b, off, none⟩ ∧ ∀ j, j < l.length → W.cell? ⟨b, off + j, none⟩ = some (.int .i32 (l.getD j 0)) ∧ -2147483648 ≤ l.getD j 0 ∧ l.getD j 0 ≤ 2147483647
theorem Lw.all {W W' : World} {a : Option Addr} {l : List Int} (h : Lw W a l) (hb : Below W.heap.size W W') : Lw W' a l := by
  rcases h with h | ⟨b, off, rfl, h⟩
  · exact .inl h
  · exact .inr ⟨b, off, rfl, fun j hj => ⟨(hb.cell (p := ⟨b, off + j, none⟩) (cell_lt (h j hj).1)).trans (h j hj).1, (h j hj).2⟩⟩
theorem Lw.shape {W : World} {a : Option Addr} {l : List Int} (h : Lw W a l) : l.length = 0 ∨ ∃ b off, a = some ⟨b, off, none⟩ := by
  rcases h with h' | ⟨b, off, e, _⟩
  · left; rw [h']; rfl
  · exact .inr ⟨b, off, e⟩
theorem Lw.fq {Q : Nat → Prop} {W W' : World} {a : Option Addr} {l : List Int} (h : Lw W a l) (hf : Fq Q W W') (hq : ∀ b off, a = some ⟨b, off, none⟩ → 0 < l.length → Q b) : Lw W' a l := by
  rcases h with h | ⟨b, off, rfl, h⟩
  · exact .inl h
  · refine .inr ⟨b, off, rfl, fun j hj => ⟨?_, (h j hj).2⟩⟩
    have hl := cell_lt (h j hj).1
    obtain ⟨o, ho⟩ : ∃ o, W.heap[b]? = some o := ⟨_, Array.getElem?_eq_getElem hl⟩
    have e := hf.block b o ho (hq b off rfl (by omega))
    have := (h j hj).1
    simp only [World.cell?, ho, e] at this ⊢
    exact this
/-- Where a store lies: its block, its three rows with their rooms, and how many variables it has. -/
structure Adr where
  pb : Nat
  gs : Nat
  gt : Nat
  gb : Nat
  cs : Nat
  ct : Nat
  cb : Nat
  n : Nat
def Adr.own (A : Adr) (g : Nat) : Prop := g = A.pb ∨ (0 < A.n ∧ (g = A.gs ∨ g = A.gt ∨ g = A.gb))
/-- Nothing is turned but the store's blocks. -/
abbrev Fa (A : Adr) (W W' : World) : Prop := Fq (fun g => ¬ A.own g) W W'
abbrev sls (g n c : Nat) : Value := .slice (some ⟨g, 0, none⟩) n c
/-- The store in memory. -/
structure Pr (A : Adr) (st : Bool) (sv : List Bool) (lt : Nat) (nt : Int) (mt : List Int) (lb : Nat) (nb : Int) (mb : List Int) (s : Int) (k : Nat) (W : World) : Prop where
  blk : W.heap[A.pb]? = some (.cells #[.bool st, sls A.gs A.n A.cs, .int .i64 (lt : Int), .int .i64 nt, sls A.gt A.n A.ct, .int .i64 (lb : Int), .int .i64 nb, sls A.gb A.n A.cb, .int .u64 s, .int .i64 (k : Int)] 63 (0, 0))
  rs : 0 < A.n → W.ownsRow 0 4 1 (sls A.gs A.n A.cs) A.n (bls sv)
  rt : 0 < A.n → W.ownsRow 0 2 1 (sls A.gt A.n A.ct) A.n (iss mt)
  rb : 0 < A.n → W.ownsRow 0 2 1 (sls A.gb A.n A.cb) A.n (iss mb)
  ls : sv.length = A.n
  lt' : mt.length = A.n
  lb' : mb.length = A.n
  ne : 0 < A.n → A.gt ≠ A.gb
  mx : A.n ≤ 1048576
section
variable {A : Adr} {st : Bool} {sv : List Bool} {lt : Nat} {nt : Int} {mt : List Int} {lb : Nat} {nb : Int} {mb : List Int} {s : Int} {k : Nat} {W : World}
theorem Pr.apart (H : Pr A st sv lt nt mt lb nb mb s k W) (h : 0 < A.n) : A.gs ≠ A.pb ∧ A.gt ≠ A.pb ∧ A.gb ≠ A.pb ∧ A.gs ≠ A.gt ∧ A.gs ≠ A.gb := by
  obtain ⟨c1, h1⟩ := own_hp (H.rs h)
  obtain ⟨c2, h2⟩ := own_hp (H.rt h)
  obtain ⟨c3, h3⟩ := own_hp (H.rb h)
  exact ⟨ty_ne h1 H.blk (by decide), ty_ne h2 H.blk (by decide), ty_ne h3 H.blk (by decide), ty_ne h1 h2 (by decide), ty_ne h1 h3 (by decide)⟩
theorem Pr.keep {W' : World} {Q : Nat → Prop} (H : Pr A st sv lt nt mt lb nb mb s k W) (hf : Fq Q W W') (hq : ∀ g, A.own g → Q g) : Pr A st sv lt nt mt lb nb mb s k W' :=
  ⟨hf.block _ _ H.blk (hq _ (.inl rfl)), fun h => own_fq (H.rs h) hf (fun g e => by cases e; exact hq _ (.inr ⟨h, .inl rfl⟩)), fun h => own_fq (H.rt h) hf (fun g e => by cases e; exact hq _ (.inr ⟨h, .inr (.inl rfl)⟩)), fun h => own_fq (H.rb h) hf (fun g e => by cases e; exact hq _ (.inr ⟨h, .inr (.inr rfl)⟩)), H.ls, H.lt', H.lb', H.ne, H.mx⟩
theorem Pr.ltsz (H : Pr A st sv lt nt mt lb nb mb s k W) {g : Nat} (hg : A.own g) : g < W.heap.size := by
  rcases hg with rfl | ⟨h, hg⟩
  · exact lt_of_blk H.blk
  · obtain ⟨c1, h1⟩ := own_hp (H.rs h)
    obtain ⟨c2, h2⟩ := own_hp (H.rt h)
    obtain ⟨c3, h3⟩ := own_hp (H.rb h)
    rcases hg with rfl | rfl | rfl
    · exact lt_of_blk h1
    · exact lt_of_blk h2
    · exact lt_of_blk h3
theorem Pr.below {W' : World} (H : Pr A st sv lt nt mt lb nb mb s k W) (h : Below W.heap.size W W') : Pr A st sv lt nt mt lb nb mb s k W' :=
  H.keep (Q := fun _ => True) (Fq.of_below h) (fun _ _ => trivial)
theorem Pr.setS (H : Pr A st sv lt nt mt lb nb mb s k W) {u : Nat} (hu : u < A.n) (x : Bool) :
    Pr A st (sv.set u x) lt nt mt lb nb mb s k (W.setCell ⟨A.gs, u, none⟩ (.bool x)) ∧ Fa A W (W.setCell ⟨A.gs, u, none⟩ (.bool x)) := by
  have h0 : 0 < A.n := by omega
  obtain ⟨n1, n2, n3, n4, n5⟩ := H.apart h0
  refine ⟨⟨?_, fun h => ?_, fun h => ?_, fun h => ?_, by simp [H.ls], H.lt', H.lb', H.ne, H.mx⟩, Fq.set W _ (fun h => h (.inr ⟨h0, .inl rfl⟩))⟩
  · rw [heap_other _ _ (Ne.symm n1)]; exact H.blk
  · have := own_setc (H.rs h) u (.bool x); rw [bls_set] at this; exact this
  · exact own_keep (H.rt h) (fun e => n4 (by injection e with e; exact e.symm)) _
  · exact own_keep (H.rb h) (fun e => n5 (by injection e with e; exact e.symm)) _
theorem Pr.setT (H : Pr A st sv lt nt mt lb nb mb s k W) {u : Nat} (hu : u < A.n) (x : Int) :
    Pr A st sv lt nt (mt.set u x) lb nb mb s k (W.setCell ⟨A.gt, u, none⟩ (.int .i64 x)) ∧ Fa A W (W.setCell ⟨A.gt, u, none⟩ (.int .i64 x)) := by
  have h0 : 0 < A.n := by omega
  obtain ⟨n1, n2, n3, n4, n5⟩ := H.apart h0
  refine ⟨⟨?_, fun h => ?_, fun h => ?_, fun h => ?_, H.ls, by simp [H.lt'], H.lb', H.ne, H.mx⟩, Fq.set W _ (fun h => h (.inr ⟨h0, .inr (.inl rfl)⟩))⟩
  · rw [heap_other _ _ (Ne.symm n2)]; exact H.blk
  · exact own_keep (H.rs h) (fun e => n4 (by injection e)) _
  · have := own_setc (H.rt h) u (.int .i64 x); rw [iss_set] at this; exact this
  · exact own_keep (H.rb h) (fun e => H.ne h0 (by injection e with e; exact e.symm)) _
theorem Pr.setB (H : Pr A st sv lt nt mt lb nb mb s k W) {u : Nat} (hu : u < A.n) (x : Int) :
    Pr A st sv lt nt mt lb nb (mb.set u x) s k (W.setCell ⟨A.gb, u, none⟩ (.int .i64 x)) ∧ Fa A W (W.setCell ⟨A.gb, u, none⟩ (.int .i64 x)) := by
  have h0 : 0 < A.n := by omega
  obtain ⟨n1, n2, n3, n4, n5⟩ := H.apart h0
  refine ⟨⟨?_, fun h => ?_, fun h => ?_, fun h => ?_, H.ls, H.lt', by simp [H.lb'], H.ne, H.mx⟩, Fq.set W _ (fun h => h (.inr ⟨h0, .inr (.inr rfl)⟩))⟩
  · rw [heap_other _ _ (Ne.symm n3)]; exact H.blk
  · exact own_keep (H.rs h) (fun e => n5 (by injection e)) _
  · exact own_keep (H.rt h) (fun e => H.ne h0 (by injection e)) _
  · have := own_setc (H.rb h) u (.int .i64 x); rw [iss_set] at this; exact this
theorem Pr.setLT (H : Pr A st sv lt nt mt lb nb mb s k W) (x : Nat) :
    Pr A st sv x nt mt lb nb mb s k (W.setCell ⟨A.pb, 2, none⟩ (.int .i64 (x : Int))) ∧ Fa A W (W.setCell ⟨A.pb, 2, none⟩ (.int .i64 (x : Int))) := by
  refine ⟨⟨?_, fun h => ?_, fun h => ?_, fun h => ?_, H.ls, H.lt', H.lb', H.ne, H.mx⟩, Fq.set W _ (fun h => h (.inl rfl))⟩
  · rw [heap_set_row H.blk]; rfl
  · exact own_keep (H.rs h) (fun e => (H.apart h).1 (by injection e)) _
  · exact own_keep (H.rt h) (fun e => (H.apart h).2.1 (by injection e)) _
  · exact own_keep (H.rb h) (fun e => (H.apart h).2.2.1 (by injection e)) _
theorem Pr.setNT (H : Pr A st sv lt nt mt lb nb mb s k W) (x : Int) :
    Pr A st sv lt x mt lb nb mb s k (W.setCell ⟨A.pb, 3, none⟩ (.int .i64 x)) ∧ Fa A W (W.setCell ⟨A.pb, 3, none⟩ (.int .i64 x)) := by
  refine ⟨⟨?_, fun h => ?_, fun h => ?_, fun h => ?_, H.ls, H.lt', H.lb', H.ne, H.mx⟩, Fq.set W _ (fun h => h (.inl rfl))⟩
  · rw [heap_set_row H.blk]; rfl
  · exact own_keep (H.rs h) (fun e => (H.apart h).1 (by injection e)) _
  · exact own_keep (H.rt h) (fun e => (H.apart h).2.1 (by injection e)) _
  · exact own_keep (H.rb h) (fun e => (H.apart h).2.2.1 (by injection e)) _
theorem Pr.setLB (H : Pr A st sv lt nt mt lb nb mb s k W) (x : Nat) :
    Pr A st sv lt nt mt x nb mb s k (W.setCell ⟨A.pb, 5, none⟩ (.int .i64 (x : Int))) ∧ Fa A W (W.setCell ⟨A.pb, 5, none⟩ (.int .i64 (x : Int))) := by
  refine ⟨⟨?_, fun h => ?_, fun h => ?_, fun h => ?_, H.ls, H.lt', H.lb', H.ne, H.mx⟩, Fq.set W _ (fun h => h (.inl rfl))⟩
  · rw [heap_set_row H.blk]; rfl
  · exact own_keep (H.rs h) (fun e => (H.apart h).1 (by injection e)) _
  · exact own_keep (H.rt h) (fun e => (H.apart h).2.1 (by injection e)) _
  · exact own_keep (H.rb h) (fun e => (H.apart h).2.2.1 (by injection e)) _
theorem Pr.setNB (H : Pr A st sv lt nt mt lb nb mb s k W) (x : Int) :
    Pr A st sv lt nt mt lb x mb s k (W.setCell ⟨A.pb, 6, none⟩ (.int .i64 x)) ∧ Fa A W (W.setCell ⟨A.pb, 6, none⟩ (.int .i64 x)) := by
  refine ⟨⟨?_, fun h => ?_, fun h => ?_, fun h => ?_, H.ls, H.lt', H.lb', H.ne, H.mx⟩, Fq.set W _ (fun h => h (.inl rfl))⟩
  · rw [heap_set_row H.blk]; rfl
  · exact own_keep (H.rs h) (fun e => (H.apart h).1 (by injection e)) _
  · exact own_keep (H.rt h) (fun e => (H.apart h).2.1 (by injection e)) _
  · exact own_keep (H.rb h) (fun e => (H.apart h).2.2.1 (by injection e)) _
theorem Pr.setD (H : Pr A st sv lt nt mt lb nb mb s k W) (x : Int) :
    Pr A st sv lt nt mt lb nb mb x k (W.setCell ⟨A.pb, 8, none⟩ (.int .u64 x)) ∧ Fa A W (W.setCell ⟨A.pb, 8, none⟩ (.int .u64 x)) := by
  refine ⟨⟨?_, fun h => ?_, fun h => ?_, fun h => ?_, H.ls, H.lt', H.lb', H.ne, H.mx⟩, Fq.set W _ (fun h => h (.inl rfl))⟩
  · rw [heap_set_row H.blk]; rfl
  · exact own_keep (H.rs h) (fun e => (H.apart h).1 (by injection e)) _
  · exact own_keep (H.rt h) (fun e => (H.apart h).2.1 (by injection e)) _
  · exact own_keep (H.rb h) (fun e => (H.apart h).2.2.1 (by injection e)) _
theorem Pr.setK (H : Pr A st sv lt nt mt lb nb mb s k W) (x : Nat) :
    Pr A st sv lt nt mt lb nb mb s x (W.setCell ⟨A.pb, 9, none⟩ (.int .i64 (x : Int))) ∧ Fa A W (W.setCell ⟨A.pb, 9, none⟩ (.int .i64 (x : Int))) := by
  refine ⟨⟨?_, fun h => ?_, fun h => ?_, fun h => ?_, H.ls, H.lt', H.lb', H.ne, H.mx⟩, Fq.set W _ (fun h => h (.inl rfl))⟩
  · rw [heap_set_row H.blk]; rfl
  · exact own_keep (H.rs h) (fun e => (H.apart h).1 (by injection e)) _
  · exact own_keep (H.rt h) (fun e => (H.apart h).2.1 (by injection e)) _
  · exact own_keep (H.rb h) (fun e => (H.apart h).2.2.1 (by injection e)) _
theorem Pr.cells (H : Pr A st sv lt nt mt lb nb mb s k W) :
    W.cell? ⟨A.pb, 0, none⟩ = some (.bool st) ∧ W.cell? ⟨A.pb, 1, none⟩ = some (sls A.gs A.n A.cs) ∧ W.cell? ⟨A.pb, 2, none⟩ = some (.int .i64 (lt : Int)) ∧ W.cell? ⟨A.pb, 3, none⟩ = some (.int .i64 nt) ∧ W.cell? ⟨A.pb, 4, none⟩ = some (sls A.gt A.n A.ct)
    ∧ W.cell? ⟨A.pb, 5, none⟩ = some (.int .i64 (lb : Int)) ∧ W.cell? ⟨A.pb, 6, none⟩ = some (.int .i64 nb) ∧ W.cell? ⟨A.pb, 7, none⟩ = some (sls A.gb A.n A.cb) ∧ W.cell? ⟨A.pb, 8, none⟩ = some (.int .u64 s) ∧ W.cell? ⟨A.pb, 9, none⟩ = some (.int .i64 (k : Int)) :=
  ⟨row_cell H.blk 0, row_cell H.blk 1, row_cell H.blk 2, row_cell H.blk 3, row_cell H.blk 4, row_cell H.blk 5, row_cell H.blk 6, row_cell H.blk 7, row_cell H.blk 8, row_cell H.blk 9⟩
theorem Pr.froz (H : Pr A st sv lt nt mt lb nb mb s k W) (i : Nat) : W.frozen? ⟨A.pb, i, none⟩ = false := row_frozen H.blk i
theorem Pr.atS (H : Pr A st sv lt nt mt lb nb mb s k W) {u : Nat} (hu : u < A.n) : W.cell? ⟨A.gs, u, none⟩ = some (.bool (sv.getD u false)) ∧ W.frozen? ⟨A.gs, u, none⟩ = false := by
  obtain ⟨h1, h2⟩ := own_cell (H.rs (by omega)) hu
  rw [bls_at (by rw [H.ls]; exact hu)] at h1
  exact ⟨h1, h2⟩
theorem Pr.atT (H : Pr A st sv lt nt mt lb nb mb s k W) {u : Nat} (hu : u < A.n) : W.cell? ⟨A.gt, u, none⟩ = some (.int .i64 (mt.getD u 0)) ∧ W.frozen? ⟨A.gt, u, none⟩ = false := by
  obtain ⟨h1, h2⟩ := own_cell (H.rt (by omega)) hu
  rw [iss_at (by rw [H.lt']; exact hu)] at h1
  exact ⟨h1, h2⟩
theorem Pr.atB (H : Pr A st sv lt nt mt lb nb mb s k W) {u : Nat} (hu : u < A.n) : W.cell? ⟨A.gb, u, none⟩ = some (.int .i64 (mb.getD u 0)) ∧ W.frozen? ⟨A.gb, u, none⟩ = false := by
  obtain ⟨h1, h2⟩ := own_cell (H.rb (by omega)) hu
  rw [iss_at (by rw [H.lb']; exact hu)] at h1
  exact ⟨h1, h2⟩
end
end Go.Proofs.Ytkodfojccodoaaa
