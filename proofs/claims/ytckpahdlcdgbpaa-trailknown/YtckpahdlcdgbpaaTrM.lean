/- The trail in memory; small laws. -/
import Derived.Test.YtckpahdlcdgbpaaProg
import Derived.Test.YtckpahdlcdgbpaaTrP
import Derived.WalkKit
import Derived.Deep.QuietTactic
import Derived.BigQuiet
import Derived.Below
import Derived.OwnWalk
import Derived.Laws.AppendOwn
import Derived.Laws.OwnMore
import Derived.Maps.AppendAt
import Derived.Maps.OwnSet
import Derived.Laws.Strings
import Derived.Deep.RegionHeld3
import Derived.Deep.RegionLaw
import Derived.Deep.AppendLies
namespace Trl
theorem getD_mem (xs : List Int) (j : Nat) (h : j < xs.length) : xs.getD j 0 ∈ xs := by simp [List.getD, h]
end Trl
namespace Go.Proofs.Ytckpahdlcdgbpaa
open Go.RowKit Go.Maps
set_option linter.unusedVariables false

theorem hid {p : Prop} (h : p) : Hid p := h
theorem heap_set_row {W : World} {b k : Nat} {cs : Array Value} {t : TypeId} {fr : Nat × Nat} (h : W.heap[b]? = some (.cells cs t fr)) (v : Value) : (W.setCell ⟨b, k, none⟩ v).heap[b]? = some (.cells (cs.setIfInBounds k v) t fr) := by
  simp [World.setCell, Array.getElem?_modify, h]
theorem row_cell {W : World} {b : Nat} {cs : Array Value} {t : TypeId} {fr : Nat × Nat} (h : W.heap[b]? = some (.cells cs t fr)) (k : Nat) : W.cell? ⟨b, k, none⟩ = cs[k]? := by
  simp [World.cell?, h]
theorem row_frozen {W : World} {b : Nat} {cs : Array Value} {t : TypeId} (h : W.heap[b]? = some (.cells cs t (0, 0))) (k : Nat) : W.frozen? ⟨b, k, none⟩ = false := by
  simp [World.frozen?, h]
theorem heap_other (W : World) {b k x : Nat} (u : Value) (hne : x ≠ b) : (W.setCell ⟨b, k, none⟩ u).heap[x]? = W.heap[x]? := Below.heap_setCell W ⟨b, k, none⟩ u x hne
theorem below_box (w : World) (o : Obj) : Below w.heap.size w (w.alloc o) := (Below.refl _ _).alloc (Nat.le_refl _) o
theorem box_below (w : World) (o : Obj) {w' : World} (h : Below (w.alloc o).heap.size (w.alloc o) w') : Below w.heap.size w w' := (below_box w o).trans (h.mono (by simp))
theorem own_slc {W : World} {base n e size : Nat} {v : Value} {xs : List Value} (h : W.ownsRow base e size v n xs) : ∃ o c, v = .slice o n c := by
  rcases h.2 with ⟨e1, h0⟩ | ⟨g, c, cur, e1, _⟩
  · exact ⟨none, 0, by rw [e1, h0]⟩
  · exact ⟨_, _, e1⟩
theorem own_below {W W' : World} {base e size : Nat} {v : Value} {n : Nat} {xs : List Value} (h : W.ownsRow base e size v n xs) (hb : Below W.heap.size W W') : W'.ownsRow base e size v n xs := by
  refine ⟨h.1, h.2.imp id ?_⟩
  rintro ⟨g, c, cur, e1, h1, h2, h3⟩
  exact ⟨g, c, cur, e1, h1, (hb.block g (Array.getElem?_eq_some_iff.1 h2).1).trans h2, h3⟩
theorem own_base {W : World} {base base' e size : Nat} {v : Value} {n : Nat} {xs : List Value} (h : W.ownsRow base e size v n xs) (hb : base' ≤ base) : W.ownsRow base' e size v n xs := by
  refine ⟨h.1, h.2.imp id ?_⟩
  rintro ⟨g, c, cur, e1, h1, h2⟩
  exact ⟨g, c, cur, e1, by omega, h2⟩
theorem own_set {W : World} {base b k e size : Nat} {v : Value} {n : Nat} {xs : List Value} (h : W.ownsRow base e size v n xs) (hb : b < base) (u : Value) : (W.setCell ⟨b, k, none⟩ u).ownsRow base e size v n xs := by
  refine ⟨h.1, h.2.imp id ?_⟩
  rintro ⟨g, c, cur, e1, h1, h2, h3⟩
  exact ⟨g, c, cur, e1, h1, (heap_other W u (by omega)).trans h2, h3⟩
theorem cell_lt {W : World} {b i : Nat} {v : Value} (h : W.cell? ⟨b, i, none⟩ = some v) : b < W.heap.size := by
  rcases Nat.lt_or_ge b W.heap.size with h' | h'
  · exact h'
  · have hn : W.heap[b]? = none := Array.getElem?_eq_none h'
    simp [World.cell?, hn] at h
theorem wpList_append_run {P : Program} {w w' : World} {ops : Array Oper} {rest : List Oper} {o : Oper} {a : Act} {Q : Exit → Act → World → Prop} (hgd : o.guard = none) (s x : Operand) (t u : TypeId)
    (ho : o.op = .call { callee := .builtin .append, args := #[s, x], argTypes := #[t, u] }) {v xv v' : Value} (hs : a.eval s = v) (hx : a.eval x = xv)
    (hrun : (Builtin.append_ #[t, u] o.type #[v, xv]).run P w = .ok v' w') (h : wpList P ops Q rest (a.put o.dst v') w') : wpList P ops Q (o :: rest) a w := by
  refine wpList_plain hgd fun K hK => ?_
  unfold Oper.wp
  simp [execOp, ho, resolve, invoke, builtin, hs, hx, hrun, Result.andThen]
  exact hK _ _ h

/-- A row of numbers of a kind. -/
def Row (k : IntKind) (lo hi : Int) (W : World) (a : Option Addr) (xs : List Int) : Prop :=
  (∀ x ∈ xs, lo ≤ x ∧ x ≤ hi) ∧ (xs = [] ∨ ∃ b off, a = some ⟨b, off, none⟩ ∧ b < W.heap.size ∧ ∀ j, j < xs.length → W.cell? ⟨b, off + j, none⟩ = some (.int k (xs.getD j 0)))
abbrev Lits := Row .i32 (-2147483648) 2147483647
abbrev Hnts := Row .i64 (-9223372036854775808) 9223372036854775807
theorem Row.below {k : IntKind} {lo hi : Int} {w w' : World} {a : Option Addr} {xs : List Int} (h : Row k lo hi w a xs) (hb : Below w.heap.size w w') : Row k lo hi w' a xs := by
  refine ⟨h.1, ?_⟩
  rcases h.2 with h | ⟨b, off, e, hl, hc⟩
  · exact .inl h
  · exact .inr ⟨b, off, e, Nat.lt_of_lt_of_le hl hb.size, fun j hj => (hb.cell (p := ⟨b, off + j, none⟩) hl).trans (hc j hj)⟩
theorem Row.nil (k : IntKind) (lo hi : Int) (W : World) (a : Option Addr) : Row k lo hi W a [] := ⟨(fun x h => by cases h), .inl rfl⟩
theorem Row.at {k : IntKind} {lo hi : Int} {w : World} {a : Option Addr} {xs : List Int} (h : Row k lo hi w a xs) {j : Nat} (hj : j < xs.length) :
    ∃ b off, a = some ⟨b, off, none⟩ ∧ b < w.heap.size ∧ w.cell? ⟨b, off + j, none⟩ = some (.int k (xs.getD j 0)) ∧ lo ≤ xs.getD j 0 ∧ xs.getD j 0 ≤ hi := by
  rcases h.2 with h' | ⟨b, off, e, hl, hc⟩
  · rw [h'] at hj; simp at hj
  · exact ⟨b, off, e, hl, hc j hj, h.1 _ (Trl.getD_mem xs j hj)⟩
theorem Row.shape {k : IntKind} {lo hi : Int} {w : World} {a : Option Addr} {xs : List Int} (h : Row k lo hi w a xs) : xs.length = 0 ∨ ∃ b off, a = some ⟨b, off, none⟩ := by
  rcases h.2 with h' | ⟨b, off, e, _⟩
  · left; rw [h']; rfl
  · exact .inr ⟨b, off, e⟩

theorem own_blk {W : World} {base n size : Nat} {e : TypeId} {v : Value} {xs : List Value} {g : Nat} (h : W.ownsRow base e size v n xs) (hg : v.ownBlock = some g) : base ≤ g ∧ ∃ cur, W.heap[g]? = some (.cells cur e (0, 0)) := by
  rcases h.2 with ⟨rfl, _⟩ | ⟨g', cap, cur, rfl, hb, hgb, _⟩
  · cases hg
  · cases hg; exact ⟨hb, cur, hgb⟩
theorem own_some {W : World} {base n e : Nat} {v : Value} {xs : List Value} (h : W.ownsRow base e 1 v n xs) (hn : 0 < n) :
    ∃ g c cur, v = .slice (some ⟨g, 0, none⟩) n c ∧ base ≤ g ∧ W.heap[g]? = some (.cells cur e (0, 0)) ∧ n ≤ c ∧ c ≤ maxLen ∧ cur.size = c ∧ cur.toList.take n = xs := by
  rcases h.2 with ⟨_, h0⟩ | ⟨g, c, cur, h1, h2, h3, h4, h5, h6, h7⟩
  · omega
  · exact ⟨g, c, cur, h1, h2, h3, h4, h5, by rw [h6, Nat.mul_one], by rw [Nat.mul_one] at h7; exact h7⟩
theorem own_mk {W : World} {base n e g c : Nat} {cur : Array Value} {xs : List Value} (h2 : base ≤ g) (h3 : W.heap[g]? = some (.cells cur e (0, 0))) (h4 : n ≤ c) (h5 : c ≤ maxLen) (h6 : cur.size = c) (h7 : cur.toList.take n = xs) : W.ownsRow base e 1 (.slice (some ⟨g, 0, none⟩) n c) n xs := by
  refine ⟨?_, .inr ⟨g, c, cur, rfl, h2, h3, h4, h5, by rw [h6, Nat.mul_one], by rw [Nat.mul_one]; exact h7⟩⟩
  rw [← h7, List.length_take, Array.length_toList]; omega
theorem setB_take (cur : Array Value) (xs : List Int) (q : IntKind) (n p : Nat) (x : Int) (h : cur.toList.take n = xs.map (Value.int q)) : (cur.setIfInBounds p (.int q x)).toList.take n = (xs.set p x).map (Value.int q) := by
  rw [Array.toList_setIfInBounds, List.take_set, h, List.map_set]
theorem own_type {W : World} {base n e b t : Nat} {v : Value} {xs : List Value} {cs : Array Value} {fr : Nat × Nat} (h : W.ownsRow base e 1 v n xs) (hb : W.heap[b]? = some (.cells cs t fr)) (hne : t ≠ e) : some b ≠ v.ownBlock := by
  intro e1
  obtain ⟨_, cur, h2⟩ := own_blk h e1.symm
  rw [hb] at h2
  injection h2 with h2
  injection h2 with h2 h3
  exact hne h3

/-- A number of 64 bits. -/
def I64 (n : Int) : Prop := -9223372036854775808 ≤ n ∧ n ≤ 9223372036854775807
def I32 (n : Int) : Prop := -2147483648 ≤ n ∧ n ≤ 2147483647
theorem lt_of_blk {W : World} {g : Nat} {o : Obj} (h : W.heap[g]? = some o) : g < W.heap.size := (Array.getElem?_eq_some_iff.1 h).1
/-- The trail's kinds of memory; the document's. -/
def pA : Obj → Prop
  | .cells _ t _ => t = 63 ∨ t = 74 ∨ t = 33 ∨ t = 3
  | _ => False
def pD : Obj → Prop
  | .cells _ t _ => t = 66 ∨ t = 84
  | _ => False
/-- Nothing is turned but memory of such a kind, out of what Q names. -/
structure Fr (p : Obj → Prop) (Q : Nat → Prop) (W W' : World) : Prop where
  os : W'.os = W.os
  tape : W'.tape = W.tape
  output : W'.output = W.output
  size : W.heap.size ≤ W'.heap.size
  block : ∀ g o, W.heap[g]? = some o → (Q g ∨ ¬ p o) → W'.heap[g]? = some o
theorem Fr.refl (p : Obj → Prop) (Q : Nat → Prop) (W : World) : Fr p Q W W := ⟨rfl, rfl, rfl, Nat.le_refl _, fun _ _ h _ => h⟩
theorem Fr.trans {p : Obj → Prop} {Q : Nat → Prop} {A B C : World} (h : Fr p Q A B) (k : Fr p Q B C) : Fr p Q A C :=
  ⟨k.os.trans h.os, k.tape.trans h.tape, k.output.trans h.output, Nat.le_trans h.size k.size, fun g o hg hp => k.block g o (h.block g o hg hp) hp⟩
theorem Fr.of_below {p : Obj → Prop} {Q : Nat → Prop} {W W' : World} (h : Below W.heap.size W W') : Fr p Q W W' :=
  ⟨h.os, h.tape, h.output, h.size, fun g o hg _ => (h.block g (lt_of_blk hg)).trans hg⟩
theorem Fr.mono {p p' : Obj → Prop} {Q Q' : Nat → Prop} {W W' : World} (h : Fr p Q W W') (hp : ∀ o, p o → p' o) (hq : ∀ g, Q' g → Q g) : Fr p' Q' W W' :=
  ⟨h.os, h.tape, h.output, h.size, fun g o hg hx => h.block g o hg (hx.imp (hq g) (fun hn hy => hn (hp o hy)))⟩
theorem Fr.below {p : Obj → Prop} {Q : Nat → Prop} {W W' : World} {n : Nat} (h : Fr p Q W W') (hn : n ≤ W.heap.size) (hq : ∀ g, g < n → Q g) : Below n W W' :=
  ⟨h.os, h.tape, h.output, h.size, fun g hg => by
    obtain ⟨o, ho⟩ : ∃ o, W.heap[g]? = some o := ⟨_, Array.getElem?_eq_getElem (by omega)⟩
    rw [ho]
    exact h.block g o ho (.inl (hq g hg))⟩
theorem Fr.grown {p : Obj → Prop} {Q : Nat → Prop} {W W' : World} {row : Option Nat} (h : W.grownBy W' row) (hr : ∀ k, row = some k → ¬ Q k ∧ ∀ o, W.heap[k]? = some o → p o) : Fr p Q W W' :=
  ⟨h.os, h.tape, h.output, h.size, fun g o hg hp => by
    refine (h.block g (lt_of_blk hg) (fun e => ?_)).trans hg
    have := hr g e.symm
    rcases hp with hp | hp
    · exact this.1 hp
    · exact hp (this.2 o hg)⟩
theorem Fr.set {p : Obj → Prop} {Q : Nat → Prop} (W : World) {a : Addr} (u : Value) (hn : ¬ Q a.block) (hp : ∀ o, W.heap[a.block]? = some o → p o) : Fr p Q W (W.setCell a u) :=
  ⟨rfl, rfl, rfl, by simp [World.setCell], fun g o hg hq => by
    refine (Below.heap_setCell W a u g (fun e => ?_)).trans hg
    subst e
    rcases hq with hq | hq
    · exact hn hq
    · exact hq (hp o hg)⟩
theorem Fr.alloc {p : Obj → Prop} {Q : Nat → Prop} (W : World) (o : Obj) : Fr p Q W (W.alloc o) := Fr.of_below (below_box W o)
theorem Fr.drew {p : Obj → Prop} {Q : Nat → Prop} {W W' : World} (h : Fr p Q W W') : Fr p Q W W'.drew := h.trans (Fr.of_below (Below.refl _ _).drew)
theorem own_fr {p : Obj → Prop} {Q : Nat → Prop} {W W' : World} {base e size n : Nat} {v : Value} {xs : List Value} (h : W.ownsRow base e size v n xs) (hf : Fr p Q W W') (hp : ∀ cs fr, ¬ p (.cells cs e fr)) : W'.ownsRow base e size v n xs := by
  refine ⟨h.1, h.2.imp id ?_⟩
  rintro ⟨g, c, cur, e1, h1, h2, h3⟩
  exact ⟨g, c, cur, e1, h1, hf.block g _ h2 (.inr (hp _ _)), h3⟩
/-- What is known of each variable, as it lies. -/
def Vr (cur : Array Value) (n : Nat) (f : Nat → Trl.K) : Prop :=
  cur.size = n * 4 ∧ ∀ v, v < n → cur[v * 4]? = some (.int .i32 (f v).lit) ∧ cur[v * 4 + 1]? = some (.int .i64 (f v).lev) ∧ cur[v * 4 + 2]? = some (.int .i64 (f v).rea) ∧ cur[v * 4 + 3]? = some (.int .i64 (f v).pla)
theorem Vr.congr {cur : Array Value} {n : Nat} {f f' : Nat → Trl.K} (h : Vr cur n f) (he : ∀ v, v < n → f v = f' v) : Vr cur n f' := ⟨h.1, fun v hv => by rw [← he v hv]; exact h.2 v hv⟩
theorem Vr.set4 {cur : Array Value} {n : Nat} {f : Nat → Trl.K} (h : Vr cur n f) {v : Nat} (hv : v < n) (k : Trl.K) :
    Vr ((((cur.setIfInBounds (v * 4) (.int .i32 k.lit)).setIfInBounds (v * 4 + 1) (.int .i64 k.lev)).setIfInBounds (v * 4 + 2) (.int .i64 k.rea)).setIfInBounds (v * 4 + 3) (.int .i64 k.pla)) n (fun u => if u = v then k else f u) := by
  have hs := h.1
  refine ⟨by simpa using hs, fun u hu => ?_⟩
  dsimp only
  by_cases e : u = v
  · subst e
    rw [if_pos rfl]
    refine ⟨?_, ?_, ?_, ?_⟩ <;> simp only [Array.getElem?_setIfInBounds, Array.size_setIfInBounds] <;> (repeat rw [if_neg (by omega)]) <;> rw [if_pos (by trivial), if_pos (by omega)]
  · rw [if_neg e]
    obtain ⟨h1, h2, h3, h4⟩ := h.2 u hu
    refine ⟨?_, ?_, ?_, ?_⟩ <;> simp only [Array.getElem?_setIfInBounds, Array.size_setIfInBounds] <;> (repeat rw [if_neg (by omega)]) <;> assumption
theorem Vr.set1 {cur : Array Value} {n : Nat} {f : Nat → Trl.K} (h : Vr cur n f) {v : Nat} (hv : v < n) (r : Int) :
    Vr (cur.setIfInBounds (v * 4 + 2) (.int .i64 r)) n (fun u => if u = v then ⟨(f v).lit, (f v).lev, r, (f v).pla⟩ else f u) := by
  have hs := h.1
  refine ⟨by simpa using hs, fun u hu => ?_⟩
  obtain ⟨h1, h2, h3, h4⟩ := h.2 u hu
  dsimp only
  by_cases e : u = v
  · subst e
    rw [if_pos rfl]
    refine ⟨?_, ?_, ?_, ?_⟩ <;> simp only [Array.getElem?_setIfInBounds]
    · rw [if_neg (by omega)]; exact h1
    · rw [if_neg (by omega)]; exact h2
    · rw [if_pos (by trivial), if_pos (by omega)]
    · rw [if_neg (by omega)]; exact h4
  · rw [if_neg e]
    refine ⟨?_, ?_, ?_, ?_⟩ <;> simp only [Array.getElem?_setIfInBounds] <;> (repeat rw [if_neg (by omega)]) <;> assumption
def ilits (R : List Trl.E) : List Value := R.map (fun e => Value.int .i32 e.lit)
def ibegs (B : List Nat) : List Value := B.map (fun b => Value.int .i64 (b : Nat))
/-- The trail in memory: its block, its rows; f: what lies of the variables. -/
structure Tr (Q : Nat → Prop) (tb gv : Nat) (lv bv : Value) (n : Nat) (f : Nat → Trl.K) (R : List Trl.E) (B : List Nat) (h : Nat) (W : World) : Prop where
  lt : ∀ g, Q g → g < W.heap.size
  nt : ¬ Q tb
  nv : ¬ Q gv
  nl : ∀ g, lv.ownBlock = some g → ¬ Q g
  nb : ∀ g, bv.ownBlock = some g → ¬ Q g
  blk : W.heap[tb]? = some (.cells #[.slice (some ⟨gv, 0, none⟩) n n, lv, bv, .int .i64 h] 63 (0, 0))
  var : ∃ cur, W.heap[gv]? = some (.cells cur 74 (0, 0)) ∧ Vr cur n f
  lits : W.ownsRow 0 33 1 lv R.length (ilits R)
  begs : W.ownsRow 0 3 1 bv B.length (ibegs B)
theorem Tr.kept {p : Obj → Prop} {Q Q' : Nat → Prop} {tb gv : Nat} {lv bv : Value} {n : Nat} {f : Nat → Trl.K} {R : List Trl.E} {B : List Nat} {h : Nat} {W W' : World} (H : Tr Q tb gv lv bv n f R B h W) (hf : Fr p Q' W W') (hp : ∀ o, p o → ¬ pA o) : Tr Q tb gv lv bv n f R B h W' := by
  obtain ⟨cur, h1, h2⟩ := H.var
  exact ⟨fun g hg => Nat.lt_of_lt_of_le (H.lt g hg) hf.size, H.nt, H.nv, H.nl, H.nb, hf.block _ _ H.blk (.inr (fun k => hp _ k (.inl rfl))), ⟨cur, hf.block _ _ h1 (.inr (fun k => hp _ k (.inr (.inl rfl)))), h2⟩, own_fr H.lits hf (fun cs fr k => hp _ k (.inr (.inr (.inl rfl)))), own_fr H.begs hf (fun cs fr k => hp _ k (.inr (.inr (.inr rfl))))⟩
theorem Tr.below {Q : Nat → Prop} {tb gv : Nat} {lv bv : Value} {n : Nat} {f : Nat → Trl.K} {R : List Trl.E} {B : List Nat} {h : Nat} {W W' : World} (H : Tr Q tb gv lv bv n f R B h W) (hb : Below W.heap.size W W') : Tr Q tb gv lv bv n f R B h W' :=
  H.kept (p := fun _ => False) (Q' := fun _ => False) (Fr.of_below hb) (fun _ k => k.elim)
/-- A name more that is kept out. -/
theorem Tr.more {Q Q' : Nat → Prop} {tb gv : Nat} {lv bv : Value} {n : Nat} {f : Nat → Trl.K} {R : List Trl.E} {B : List Nat} {h : Nat} {W : World} (H : Tr Q tb gv lv bv n f R B h W) (m : Nat) (hq : ∀ g, Q' g → Q g ∨ (m ≤ g ∧ g < W.heap.size)) (hm : tb < m ∧ gv < m ∧ (∀ g, lv.ownBlock = some g → g < m) ∧ (∀ g, bv.ownBlock = some g → g < m)) : Tr Q' tb gv lv bv n f R B h W :=
  ⟨fun g hg => (hq g hg).elim (H.lt g) (·.2), fun hg => (hq _ hg).elim H.nt (fun h => by omega), fun hg => (hq _ hg).elim H.nv (fun h => by omega), fun g e hg => (hq _ hg).elim (H.nl g e) (fun h => by have := hm.2.2.1 g e; omega), fun g e hg => (hq _ hg).elim (H.nb g e) (fun h => by have := hm.2.2.2 g e; omega), H.blk, H.var, H.lits, H.begs⟩
/-- Blocks of it are there. -/
theorem Tr.lts {Q : Nat → Prop} {tb gv : Nat} {lv bv : Value} {n : Nat} {f : Nat → Trl.K} {R : List Trl.E} {B : List Nat} {h : Nat} {W : World} (H : Tr Q tb gv lv bv n f R B h W) : tb < W.heap.size ∧ gv < W.heap.size ∧ (∀ g, lv.ownBlock = some g → g < W.heap.size) ∧ (∀ g, bv.ownBlock = some g → g < W.heap.size) := by
  obtain ⟨cur, h1, _⟩ := H.var
  exact ⟨lt_of_blk H.blk, lt_of_blk h1, fun g e => by obtain ⟨_, c, hc⟩ := own_blk H.lits e; exact lt_of_blk hc, fun g e => by obtain ⟨_, c, hc⟩ := own_blk H.begs e; exact lt_of_blk hc⟩
/-- The blocks of it are unlike. -/
theorem Tr.apart {Q : Nat → Prop} {tb gv : Nat} {lv bv : Value} {n : Nat} {f : Nat → Trl.K} {R : List Trl.E} {B : List Nat} {h : Nat} {W : World} (H : Tr Q tb gv lv bv n f R B h W) : tb ≠ gv ∧ lv.ownBlock ≠ some tb ∧ bv.ownBlock ≠ some tb ∧ lv.ownBlock ≠ some gv ∧ bv.ownBlock ≠ some gv ∧ ∀ g, lv.ownBlock = some g → bv.ownBlock ≠ some g := by
  obtain ⟨cur, h1, _⟩ := H.var
  refine ⟨?_, fun e => own_type H.lits H.blk (by decide) e.symm, fun e => own_type H.begs H.blk (by decide) e.symm, fun e => own_type H.lits h1 (by decide) e.symm, fun e => own_type H.begs h1 (by decide) e.symm, ?_⟩
  · rintro rfl
    have := H.blk
    rw [h1] at this
    injection this with e; injection e with _ e; cases e
  · intro g e1 e2
    obtain ⟨_, c, hc⟩ := own_blk H.lits e1
    exact own_type H.begs hc (by decide) e2.symm
/-- A trail that stands as s. -/
def Trx (Q : Nat → Prop) (tb n : Nat) (s : Trl.S) (W : World) : Prop := ∃ gv lv bv, Tr Q tb gv lv bv n (fun v => Trl.know s.R ((v : Nat) + 1)) s.R s.B s.h W ∧ Trl.Ok n s
theorem Trx.below {Q : Nat → Prop} {tb n : Nat} {s : Trl.S} {W W' : World} (h : Trx Q tb n s W) (hb : Below W.heap.size W W') : Trx Q tb n s W' := by
  obtain ⟨gv, lv, bv, h1, h2⟩ := h
  exact ⟨gv, lv, bv, h1.below hb, h2⟩
theorem Trx.kept {p : Obj → Prop} {Q Q' : Nat → Prop} {tb n : Nat} {s : Trl.S} {W W' : World} (h : Trx Q tb n s W) (hf : Fr p Q' W W') (hp : ∀ o, p o → ¬ pA o) : Trx Q tb n s W' := by
  obtain ⟨gv, lv, bv, h1, h2⟩ := h
  exact ⟨gv, lv, bv, h1.kept hf hp, h2⟩
theorem Trx.ok {Q : Nat → Prop} {tb n : Nat} {s : Trl.S} {W : World} (h : Trx Q tb n s W) : Trl.Ok n s := by
  obtain ⟨gv, lv, bv, h1, h2⟩ := h
  exact h2
/-- What a call leaves: the trail as s', nothing else turned. -/
def Did (Q : Nat → Prop) (tb n : Nat) (W : World) (s' : Trl.S) (w' : World) : Prop := Trx Q tb n s' w' ∧ Fr pA Q W w'
theorem Did.below {Q : Nat → Prop} {tb n : Nat} {s : Trl.S} {W W' : World} (h : Trx Q tb n s W) (hb : Below W.heap.size W W') : Did Q tb n W s W' := ⟨h.below hb, Fr.of_below hb⟩
end Go.Proofs.Ytckpahdlcdgbpaa
