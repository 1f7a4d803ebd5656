/- Steps of a proof, plain and in memory; small laws. -/
import Derived.Test.YtmgeoeajnpnadaaProg
import Derived.WalkKit
import Derived.Deep.QuietTactic
import Derived.BigQuiet
import Derived.Below
import Derived.OwnWalk
import Derived.Laws.AppendOwn
import Derived.Maps.AppendAt
import Derived.Laws.Strings
namespace Lra
/-- A step: its kind, its id, its literals, its hints. -/
structure Stp where
  kind : Int
  id : Int
  lits : List Int
  hints : List Int
deriving DecidableEq
def maxID : Int := 4611686018427387903
def added (n : Int) : Bool := decide (1 ≤ n) && decide (n ≤ 4611686018427387903)
def known (n : Int) : Bool := decide (0 ≤ n) && decide (n ≤ 4611686018427387903)
def literal (n : Int) : Bool := n != 0 && (decide (-1048576 ≤ n) && decide (n ≤ 1048576))
def hint (n : Int) : Bool := n != 0 && (decide (-4611686018427387903 ≤ n) && decide (n ≤ 4611686018427387903))
def may (s : Stp) : Bool :=
  if s.kind = 1 then added s.id && (s.lits.all literal && s.hints.all hint)
  else if s.kind = 2 then known s.id && (s.lits.isEmpty && s.hints.all added)
  else false
def items (ss : List Stp) : Nat := (ss.map (fun s => s.lits.length + s.hints.length)).sum
theorem getD_mem (xs : List Int) (k : Nat) (h : k < xs.length) : xs.getD k 0 ∈ xs := by simp [List.getD, List.getElem?_eq_getElem h]
theorem take_snoc (xs : List Int) (k : Nat) (h : k < xs.length) : xs.take (k + 1) = xs.take k ++ [xs.getD k 0] := by
  rw [List.take_succ_eq_append_getElem h]; simp [List.getD, List.getElem?_eq_getElem h]
theorem all_take (p : Int → Bool) (xs : List Int) (k : Nat) (h : k < xs.length) (h1 : (xs.take k).all p = true) (h2 : p (xs.getD k 0) = true) : (xs.take (k + 1)).all p = true := by
  rw [take_snoc xs k h, List.all_append, h1]
  simpa using h2
theorem all_false (p : Int → Bool) (xs : List Int) (k : Nat) (h : k < xs.length) (h2 : p (xs.getD k 0) = false) : xs.all p = false := by
  cases e : xs.all p
  · rfl
  · have := List.all_eq_true.1 e _ (getD_mem xs k h)
    rw [h2] at this
    cases this
end Lra
namespace Go.Proofs.Ytmgeoeajnpnadaa
open Go.RowKit
set_option linter.unusedVariables false

theorem hid {p : Prop} (h : p) : Hid p := h
theorem heap_set_row {W : World} {b k : Nat} {cs : Array Value} {t : TypeId} {fr : Nat × Nat} (h : W.heap[b]? = some (.cells cs t fr)) (v : Value) : (W.setCell ⟨b, k, none⟩ v).heap[b]? = some (.cells (cs.setIfInBounds k v) t fr) := by
  simp [World.setCell, Array.getElem?_modify, h]
theorem row_cell {W : World} {b : Nat} {cs : Array Value} {t : TypeId} {fr : Nat × Nat} (h : W.heap[b]? = some (.cells cs t fr)) (k : Nat) : W.cell? ⟨b, k, none⟩ = cs[k]? := by
  simp [World.cell?, h]
theorem row_frozen {W : World} {b : Nat} {cs : Array Value} {t : TypeId} (h : W.heap[b]? = some (.cells cs t (0, 0))) (k : Nat) : W.frozen? ⟨b, k, none⟩ = false := by
  simp [World.frozen?, h]
theorem heap_other (W : World) {b k x : Nat} (u : Value) (hne : x ≠ b) : (W.setCell ⟨b, k, none⟩ u).heap[x]? = W.heap[x]? := Below.heap_setCell W ⟨b, k, none⟩ u x hne
theorem below_box (w : World) (o : Obj) : Below w.heap.size w (w.alloc o) := (Below.refl _ _).alloc (Nat.le_refl _) o
theorem box_below (w : World) (o : Obj) {w' : World} (h : Below (w.alloc o).heap.size (w.alloc o) w') : Below w.heap.size w w' := (below_box w o).trans (h.mono (by simp))
theorem own_slc {W : World} {base n e size : Nat} {v : Value} {xs : List Value} (h : W.ownsRow base e size v n xs) : ∃ o c, v = .slice o n c := by
  rcases h.2 with ⟨e1, h0⟩ | ⟨g, c, cur, e1, _⟩
  · exact ⟨none, 0, by rw [e1, h0]⟩
  · exact ⟨_, _, e1⟩
theorem own_below {W W' : World} {base e size : Nat} {v : Value} {n : Nat} {xs : List Value} (h : W.ownsRow base e size v n xs) (hb : Below W.heap.size W W') : W'.ownsRow base e size v n xs := by
  refine ⟨h.1, h.2.imp id ?_⟩
  rintro ⟨g, c, cur, e1, h1, h2, h3⟩
  exact ⟨g, c, cur, e1, h1, (hb.block g (Array.getElem?_eq_some_iff.1 h2).1).trans h2, h3⟩
theorem own_base {W : World} {base base' e size : Nat} {v : Value} {n : Nat} {xs : List Value} (h : W.ownsRow base e size v n xs) (hb : base' ≤ base) : W.ownsRow base' e size v n xs := by
  refine ⟨h.1, h.2.imp id ?_⟩
  rintro ⟨g, c, cur, e1, h1, h2⟩
  exact ⟨g, c, cur, e1, by omega, h2⟩
theorem own_set {W : World} {base b k e size : Nat} {v : Value} {n : Nat} {xs : List Value} (h : W.ownsRow base e size v n xs) (hb : b < base) (u : Value) : (W.setCell ⟨b, k, none⟩ u).ownsRow base e size v n xs := by
  refine ⟨h.1, h.2.imp id ?_⟩
  rintro ⟨g, c, cur, e1, h1, h2, h3⟩
  exact ⟨g, c, cur, e1, h1, (heap_other W u (by omega)).trans h2, h3⟩
theorem cell_lt {W : World} {b i : Nat} {v : Value} (h : W.cell? ⟨b, i, none⟩ = some v) : b < W.heap.size := by
  rcases Nat.lt_or_ge b W.heap.size with h' | h'
  · exact h'
  · have hn : W.heap[b]? = none := Array.getElem?_eq_none h'
    simp [World.cell?, hn] at h
theorem wpList_append_run {P : Program} {w w' : World} {ops : Array Oper} {rest : List Oper} {o : Oper} {a : Act} {Q : Exit → Act → World → Prop} (hgd : o.guard = none) (s x : Operand) (t u : TypeId)
    (ho : o.op = .call { callee := .builtin .append, args := #[s, x], argTypes := #[t, u] }) {v xv v' : Value} (hs : a.eval s = v) (hx : a.eval x = xv)
    (hrun : (Builtin.append_ #[t, u] o.type #[v, xv]).run P w = .ok v' w') (h : wpList P ops Q rest (a.put o.dst v') w') : wpList P ops Q (o :: rest) a w := by
  refine wpList_plain hgd fun K hK => ?_
  unfold Oper.wp
  simp [execOp, ho, resolve, invoke, builtin, hs, hx, hrun, Result.andThen]
  exact hK _ _ h

/-- A row of numbers of a kind. -/
def Row (k : IntKind) (lo hi : Int) (W : World) (a : Option Addr) (xs : List Int) : Prop :=
  (∀ x ∈ xs, lo ≤ x ∧ x ≤ hi) ∧ (xs = [] ∨ ∃ b off, a = some ⟨b, off, none⟩ ∧ b < W.heap.size ∧ ∀ j, j < xs.length → W.cell? ⟨b, off + j, none⟩ = some (.int k (xs.getD j 0)))
abbrev Lits := Row .i32 (-2147483648) 2147483647
abbrev Hnts := Row .i64 (-9223372036854775808) 9223372036854775807
theorem Row.below {k : IntKind} {lo hi : Int} {w w' : World} {a : Option Addr} {xs : List Int} (h : Row k lo hi w a xs) (hb : Below w.heap.size w w') : Row k lo hi w' a xs := by
  refine ⟨h.1, ?_⟩
  rcases h.2 with h | ⟨b, off, e, hl, hc⟩
  · exact .inl h
  · exact .inr ⟨b, off, e, Nat.lt_of_lt_of_le hl hb.size, fun j hj => (hb.cell (p := ⟨b, off + j, none⟩) hl).trans (hc j hj)⟩
theorem Row.nil (k : IntKind) (lo hi : Int) (W : World) (a : Option Addr) : Row k lo hi W a [] := ⟨(fun x h => by cases h), .inl rfl⟩
theorem Row.at {k : IntKind} {lo hi : Int} {w : World} {a : Option Addr} {xs : List Int} (h : Row k lo hi w a xs) {j : Nat} (hj : j < xs.length) :
    ∃ b off, a = some ⟨b, off, none⟩ ∧ b < w.heap.size ∧ w.cell? ⟨b, off + j, none⟩ = some (.int k (xs.getD j 0)) ∧ lo ≤ xs.getD j 0 ∧ xs.getD j 0 ≤ hi := by
  rcases h.2 with h' | ⟨b, off, e, hl, hc⟩
  · rw [h'] at hj; simp at hj
  · exact ⟨b, off, e, hl, hc j hj, h.1 _ (Lra.getD_mem xs j hj)⟩
theorem Row.shape {k : IntKind} {lo hi : Int} {w : World} {a : Option Addr} {xs : List Int} (h : Row k lo hi w a xs) : xs.length = 0 ∨ ∃ b off, a = some ⟨b, off, none⟩ := by
  rcases h.2 with h' | ⟨b, off, e, _⟩
  · left; rw [h']; rfl
  · exact .inr ⟨b, off, e⟩

set_option maxHeartbeats 1000000 in
theorem added28 (n : Int) (w : World) : Calls Try.prog 28 #[.int .i64 n] w fun e w' => e = .returned (.bool (Lra.added n)) ∧ w' = w := by
  go_enter Try.func28, Try.ntmps28
  go_wp2
  all_goals go_ret
  all_goals exact ⟨by simp_all [Lra.added] <;> omega, rfl⟩
set_option maxHeartbeats 1000000 in
theorem literal30 (n : Int) (w : World) : Calls Try.prog 30 #[.int .i64 n] w fun e w' => e = .returned (.bool (Lra.literal n)) ∧ w' = w := by
  go_enter Try.func30, Try.ntmps30
  go_wp2
  all_goals go_ret
  all_goals exact ⟨by simp_all [Lra.literal] <;> omega, rfl⟩
set_option maxHeartbeats 1000000 in
theorem hint32 (n : Int) (w : World) : Calls Try.prog 32 #[.int .i64 n] w fun e w' => e = .returned (.bool (Lra.hint n)) ∧ w' = w := by
  go_enter Try.func32, Try.ntmps32
  go_wp2
  all_goals go_ret
  all_goals exact ⟨by simp_all [Lra.hint] <;> omega, rfl⟩
set_option maxHeartbeats 1000000 in
theorem known33 (n : Int) (w : World) : Calls Try.prog 33 #[.int .i64 n] w fun e w' => e = .returned (.bool (Lra.known n)) ∧ w' = w := by
  go_enter Try.func33, Try.ntmps33
  go_wp2
  all_goals go_ret
  all_goals exact ⟨by simp_all [Lra.known] <;> omega, rfl⟩
end Go.Proofs.Ytmgeoeajnpnadaa
