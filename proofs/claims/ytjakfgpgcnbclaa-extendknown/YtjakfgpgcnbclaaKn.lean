/- The examples: the rows as they are laid. -/
import Derived.Test.YtjakfgpgcnbclaaLaw4
namespace Go.Proofs.Ytjakfgpgcnbclaa
open Go.RowKit
set_option linter.unusedVariables false
set_option linter.unusedSimpArgs false

/-- Blocks laid one behind the other. -/
def seqA (W : World) (os : List Obj) : World := os.foldl World.alloc W
theorem seqA_below (W : World) : ∀ os, Below W.heap.size W (seqA W os) ∧ (seqA W os).heap.size = W.heap.size + os.length := by
  intro os
  induction os generalizing W with
  | nil => exact ⟨Below.refl _ _, rfl⟩
  | cons o os ih =>
    obtain ⟨h1, h2⟩ := ih (W.alloc o)
    refine ⟨(below_box W o).trans (h1.mono (by simp)), ?_⟩
    show (seqA (W.alloc o) os).heap.size = _
    rw [h2]
    simp
    omega
theorem seqA_heap (W : World) : ∀ (os : List Obj) (i : Nat) (x : Obj) (h : os[i]? = some x), (seqA W os).heap[W.heap.size + i]? = some x := by
  intro os
  induction os generalizing W with
  | nil => intro i x h; simp at h
  | cons o os ih =>
    intro i x h
    cases i with
    | zero =>
      obtain rfl : o = x := by simpa using h
      exact ((seqA_below (W.alloc o) os).1.block W.heap.size (by simp)).trans (World.alloc_heap_new W o)
    | succ i =>
      have := ih (W.alloc o) i x (by simpa using h)
      rw [World.size_alloc] at this
      rw [show W.heap.size + (i + 1) = W.heap.size + 1 + i by omega]
      exact this
theorem lits_any {W : World} {b : Nat} {t : TypeId} (xs : List Int) (h : W.heap[b]? = some (.cells (xs.map (Value.int .i32)).toArray t (0, 0))) (hb : ∀ x ∈ xs, -2147483648 ≤ x ∧ x ≤ 2147483647) : Lits W (some ⟨b, 0, none⟩) xs := by
  refine ⟨hb, .inr ⟨b, 0, rfl, (Array.getElem?_eq_some_iff.1 h).1, fun j hj => ?_⟩⟩
  rw [Nat.zero_add, row_cell h j]
  simp [hj, List.getD]
theorem bools_any {W : World} {b : Nat} {t : TypeId} (xs : List Bool) (h : W.heap[b]? = some (.cells (xs.map Value.bool).toArray t (0, 0))) : Bools W (some ⟨b, 0, none⟩) xs := by
  refine .inr ⟨b, 0, rfl, (Array.getElem?_eq_some_iff.1 h).1, fun j hj => ?_⟩
  rw [Nat.zero_add, row_cell h j]
  simp [hj, List.getD]
theorem wits_any {W : World} {b : Nat} {t : TypeId} (rows : List Wq) (h : W.heap[b]? = some (.cells (rows.flatMap wqv).toArray t (0, 0))) (hr : ∀ r ∈ rows, WqOk W r) : Wits W (some ⟨b, 0, none⟩) (rows.map (·.1)) := by
  refine .inr ⟨b, 0, rfl, fun j hj => ?_⟩
  have hj' : j < rows.length := by simpa using hj
  have hq := hr rows[j] (List.getElem_mem hj')
  have e : (rows.map fun r => r.1).getD j ([], []) = rows[j].1 := by simp [List.getD, hj']
  obtain ⟨t0, t1⟩ := Ext.two_at (fun r : Wq => Value.slice r.2.1.1 r.1.1.length r.2.1.2) (fun r => Value.slice r.2.2.1 r.1.2.length r.2.2.2) rows j hj'
  rw [e]
  refine ⟨rows[j].2.1.1, rows[j].2.1.2, rows[j].2.2.1, rows[j].2.2.2, ?_, ?_, hq.1.1, hq.2.1, hq.1.2, hq.2.2⟩
  · rw [Nat.zero_add, row_cell h]
    rw [List.getElem?_toArray]
    exact t0
  · rw [Nat.zero_add, row_cell h]
    rw [List.getElem?_toArray]
    exact t1
def AnyMod (W : World) (v : Value) : Prop := ∃ a n c m, v = .slice a n c ∧ m.length = n ∧ Bools W a m
def AnyStk (W : World) (v : Value) : Prop := ∃ a n c s, v = .slice a n c ∧ s.length = n ∧ n ≤ 8796093022208 ∧ Wits W a s
theorem AnyMod.below {W W' : World} {v : Value} (h : AnyMod W v) (hb : Below W.heap.size W W') : AnyMod W' v := by
  obtain ⟨a, n, c, m, e, h1, h2⟩ := h
  exact ⟨a, n, c, m, e, h1, h2.below hb⟩
theorem AnyStk.below {W W' : World} {v : Value} (h : AnyStk W v) (hb : Below W.heap.size W W') : AnyStk W' v := by
  obtain ⟨a, n, c, m, e, h1, h2, h3⟩ := h
  exact ⟨a, n, c, m, e, h1, h2, h3.below hb⟩
theorem lits_nil (W : World) (a : Option Addr) : Lits W a [] := ⟨(fun x h => by cases h), .inl rfl⟩
theorem wq_ok {W : World} {p : Ext.Wt} {a1 a2 : Option Addr} {c1 c2 : Nat} (h1 : Lits W a1 p.1) (h2 : Lits W a2 p.2) (h3 : p.1.length ≤ 1000) (h4 : p.2.length ≤ 1000) : WqOk W (p, (a1, c1), (a2, c2)) := ⟨⟨h1, by simp only; omega⟩, h2, by simp only; omega⟩
theorem stk_any {W : World} {b n : Nat} {t : TypeId} (rows : List Wq) (h : W.heap[b]? = some (.cells (rows.flatMap wqv).toArray t (0, 0))) (hr : ∀ r ∈ rows, WqOk W r) (hn : rows.length = n) (hn2 : n ≤ 1000) : AnyStk W (.slice (some ⟨b, 0, none⟩) n n) :=
  ⟨_, _, _, _, rfl, by simpa using hn, by omega, wits_any rows h hr⟩
theorem all1 {α : Type} {P : α → Prop} {a : α} (h : P a) : ∀ x ∈ [a], P x := by intro x hx; simp at hx; subst hx; exact h
theorem all2 {α : Type} {P : α → Prop} {a b : α} (h : P a) (k : P b) : ∀ x ∈ [a, b], P x := by intro x hx; simp at hx; rcases hx with rfl | rfl; exact h; exact k

set_option maxRecDepth 100000 in
set_option maxHeartbeats 4000000 in
theorem laid0 (w : World) : ∃ A, seqA w [(.cells #[.int .i32 2] 47),
      (.cells #[.int .i32 1, .int .i32 2] 47),
      (.cells #[.int .i32 1, .int .i32 (-2)] 47),
      (.cells #[.int .i32 1] 47),
      (.cells #[.slice (some ⟨w.heap.size, 0, none⟩) 1 1, .slice (some ⟨w.heap.size + 1, 0, none⟩) 2 2] 42),
      (.cells #[.slice (some ⟨w.heap.size + 1 + 1, 0, none⟩) 2 2, .slice (some ⟨w.heap.size + 1 + 1 + 1, 0, none⟩) 1 1] 42),
      (.cells #[.bool true] 4),
      (.cells #[.bool false, .bool false] 4),
      (.cells #[.bool false, .bool true] 4),
      (.cells #[.bool true, .bool true, .bool false] 4),
      (.cells #[.slice none 0 0, .slice (some ⟨w.heap.size + 1 + 1 + 1 + 1 + 1 + 1, 0, none⟩) 1 1, .slice (some ⟨w.heap.size + 1 + 1 + 1 + 1 + 1 + 1 + 1, 0, none⟩) 2 2, .slice (some ⟨w.heap.size + 1 + 1 + 1 + 1 + 1 + 1 + 1 + 1, 0, none⟩) 2 2, .slice (some ⟨w.heap.size + 1 + 1 + 1 + 1 + 1 + 1 + 1 + 1 + 1, 0, none⟩) 3 3] 23)] = A ∧ Below w.heap.size w A ∧ A.heap.size = w.heap.size + 11 ∧
    (Lits A (some ⟨w.heap.size, 0, none⟩) [2] ∧ Lits A (some ⟨w.heap.size + 1, 0, none⟩) [1, 2] ∧ Lits A (some ⟨w.heap.size + 1 + 1, 0, none⟩) [1, -2] ∧ Lits A (some ⟨w.heap.size + 1 + 1 + 1, 0, none⟩) [1]) ∧
    A.heap[w.heap.size + 1 + 1 + 1 + 1]? = some (.cells #[.slice (some ⟨w.heap.size, 0, none⟩) 1 1, .slice (some ⟨w.heap.size + 1, 0, none⟩) 2 2] 42 (0, 0)) ∧ A.heap[w.heap.size + 1 + 1 + 1 + 1 + 1]? = some (.cells #[.slice (some ⟨w.heap.size + 1 + 1, 0, none⟩) 2 2, .slice (some ⟨w.heap.size + 1 + 1 + 1, 0, none⟩) 1 1] 42 (0, 0)) ∧
    A.heap[w.heap.size + 1 + 1 + 1 + 1 + 1 + 1 + 1 + 1 + 1 + 1]? = some (.cells #[.slice none 0 0, .slice (some ⟨w.heap.size + 1 + 1 + 1 + 1 + 1 + 1, 0, none⟩) 1 1, .slice (some ⟨w.heap.size + 1 + 1 + 1 + 1 + 1 + 1 + 1, 0, none⟩) 2 2, .slice (some ⟨w.heap.size + 1 + 1 + 1 + 1 + 1 + 1 + 1 + 1, 0, none⟩) 2 2, .slice (some ⟨w.heap.size + 1 + 1 + 1 + 1 + 1 + 1 + 1 + 1 + 1, 0, none⟩) 3 3] 23 (0, 0)) ∧ (∀ v ∈ ([.slice none 0 0, .slice (some ⟨w.heap.size + 1 + 1 + 1 + 1 + 1 + 1, 0, none⟩) 1 1, .slice (some ⟨w.heap.size + 1 + 1 + 1 + 1 + 1 + 1 + 1, 0, none⟩) 2 2, .slice (some ⟨w.heap.size + 1 + 1 + 1 + 1 + 1 + 1 + 1 + 1, 0, none⟩) 2 2, .slice (some ⟨w.heap.size + 1 + 1 + 1 + 1 + 1 + 1 + 1 + 1 + 1, 0, none⟩) 3 3] : List Value), AnyMod A v) := by
  refine ⟨_, rfl, (seqA_below w _).1, (seqA_below w _).2, ?_⟩
  have k := seqA_heap w [(.cells #[.int .i32 2] 47),
      (.cells #[.int .i32 1, .int .i32 2] 47),
      (.cells #[.int .i32 1, .int .i32 (-2)] 47),
      (.cells #[.int .i32 1] 47),
      (.cells #[.slice (some ⟨w.heap.size, 0, none⟩) 1 1, .slice (some ⟨w.heap.size + 1, 0, none⟩) 2 2] 42),
      (.cells #[.slice (some ⟨w.heap.size + 1 + 1, 0, none⟩) 2 2, .slice (some ⟨w.heap.size + 1 + 1 + 1, 0, none⟩) 1 1] 42),
      (.cells #[.bool true] 4),
      (.cells #[.bool false, .bool false] 4),
      (.cells #[.bool false, .bool true] 4),
      (.cells #[.bool true, .bool true, .bool false] 4),
      (.cells #[.slice none 0 0, .slice (some ⟨w.heap.size + 1 + 1 + 1 + 1 + 1 + 1, 0, none⟩) 1 1, .slice (some ⟨w.heap.size + 1 + 1 + 1 + 1 + 1 + 1 + 1, 0, none⟩) 2 2, .slice (some ⟨w.heap.size + 1 + 1 + 1 + 1 + 1 + 1 + 1 + 1, 0, none⟩) 2 2, .slice (some ⟨w.heap.size + 1 + 1 + 1 + 1 + 1 + 1 + 1 + 1 + 1, 0, none⟩) 3 3] 23)]
  refine ⟨⟨lits_any [2] (k 0 _ rfl) (by decide), lits_any [1, 2] (k 1 _ rfl) (by decide), lits_any [1, -2] (k 2 _ rfl) (by decide), lits_any [1] (k 3 _ rfl) (by decide)⟩, k 4 _ rfl, k 5 _ rfl, k 10 _ rfl, ?_⟩
  intro v hv
  simp only [List.mem_cons, List.not_mem_nil, or_false] at hv
  rcases hv with rfl | rfl | rfl | rfl | rfl
  · exact ⟨none, 0, 0, [], rfl, rfl, .inl rfl⟩
  · exact ⟨_, _, _, _, rfl, rfl, bools_any [true] (k 6 _ rfl)⟩
  · exact ⟨_, _, _, _, rfl, rfl, bools_any [false, false] (k 7 _ rfl)⟩
  · exact ⟨_, _, _, _, rfl, rfl, bools_any [false, true] (k 8 _ rfl)⟩
  · exact ⟨_, _, _, _, rfl, rfl, bools_any [true, true, false] (k 9 _ rfl)⟩

set_option maxRecDepth 100000 in
set_option maxHeartbeats 4000000 in
theorem laid1 (w wr : World) (ha : Lits wr (some ⟨w.heap.size, 0, none⟩) [2]) (hb : Lits wr (some ⟨w.heap.size + 1, 0, none⟩) [1, 2]) (hc : Lits wr (some ⟨w.heap.size + 1 + 1, 0, none⟩) [1, -2]) (hd : Lits wr (some ⟨w.heap.size + 1 + 1 + 1, 0, none⟩) [1]) :
    ∃ B, seqA wr [(.cells #[.slice (some ⟨w.heap.size, 0, none⟩) 1 1, .slice (some ⟨w.heap.size + 1, 0, none⟩) 2 2] 42),
      (.cells #[.slice (some ⟨w.heap.size + 1 + 1, 0, none⟩) 2 2, .slice (some ⟨w.heap.size + 1 + 1 + 1, 0, none⟩) 1 1] 42),
      (.cells #[.slice (some ⟨w.heap.size, 0, none⟩) 1 1, .slice (some ⟨w.heap.size + 1, 0, none⟩) 2 2, .slice (some ⟨w.heap.size + 1 + 1, 0, none⟩) 2 2, .slice (some ⟨w.heap.size + 1 + 1 + 1, 0, none⟩) 1 1] 42),
      (.cells #[.slice (some ⟨w.heap.size + 1 + 1, 0, none⟩) 2 2, .slice (some ⟨w.heap.size + 1 + 1 + 1, 0, none⟩) 1 1, .slice (some ⟨w.heap.size, 0, none⟩) 1 1, .slice (some ⟨w.heap.size + 1, 0, none⟩) 2 2] 42),
      (.cells #[.slice (some ⟨w.heap.size, 0, none⟩) 1 1, .slice (some ⟨w.heap.size + 1, 0, none⟩) 2 2, .slice (some ⟨w.heap.size, 0, none⟩) 1 1, .slice (some ⟨w.heap.size + 1, 0, none⟩) 2 2] 42),
      (.cells #[.slice none 0 0, .slice none 0 0] 42),
      (.cells #[.int .i32 1, .int .i32 (-1)] 47),
      (.cells #[.slice (some ⟨wr.heap.size + 1 + 1 + 1 + 1 + 1 + 1, 0, none⟩) 2 2, .slice none 0 0] 42),
      (.cells #[.int .i32 0] 47),
      (.cells #[.slice (some ⟨wr.heap.size + 1 + 1 + 1 + 1 + 1 + 1 + 1 + 1, 0, none⟩) 1 1, .slice none 0 0] 42),
      (.cells #[.int .i32 3] 47),
      (.cells #[.slice none 0 0, .slice (some ⟨wr.heap.size + 1 + 1 + 1 + 1 + 1 + 1 + 1 + 1 + 1 + 1, 0, none⟩) 1 1] 42),
      (.cells #[.int .i32 (-2147483648)] 47),
      (.cells #[.int .i32 1] 47),
      (.cells #[.slice (some ⟨wr.heap.size + 1 + 1 + 1 + 1 + 1 + 1 + 1 + 1 + 1 + 1 + 1 + 1, 0, none⟩) 1 1, .slice (some ⟨wr.heap.size + 1 + 1 + 1 + 1 + 1 + 1 + 1 + 1 + 1 + 1 + 1 + 1 + 1, 0, none⟩) 1 1] 42),
      (.cells #[.int .i32 1, .int .i32 2] 47),
      (.cells #[.slice none 0 0, .slice (some ⟨wr.heap.size + 1 + 1 + 1 + 1 + 1 + 1 + 1 + 1 + 1 + 1 + 1 + 1 + 1 + 1 + 1, 0, none⟩) 2 2, .slice (some ⟨w.heap.size + 1 + 1, 0, none⟩) 2 2, .slice (some ⟨w.heap.size + 1 + 1 + 1, 0, none⟩) 1 1] 42),
      (.cells #[.slice none 0 0, .slice (some ⟨wr.heap.size, 0, none⟩) 1 1, .slice (some ⟨wr.heap.size + 1, 0, none⟩) 1 1, .slice (some ⟨wr.heap.size + 1 + 1, 0, none⟩) 2 2, .slice (some ⟨wr.heap.size + 1 + 1 + 1, 0, none⟩) 2 2, .slice (some ⟨wr.heap.size + 1 + 1 + 1 + 1, 0, none⟩) 2 2, .slice (some ⟨wr.heap.size + 1 + 1 + 1 + 1 + 1, 0, none⟩) 1 1, .slice (some ⟨wr.heap.size + 1 + 1 + 1 + 1 + 1 + 1 + 1, 0, none⟩) 1 1, .slice (some ⟨wr.heap.size + 1 + 1 + 1 + 1 + 1 + 1 + 1 + 1 + 1, 0, none⟩) 1 1, .slice (some ⟨wr.heap.size + 1 + 1 + 1 + 1 + 1 + 1 + 1 + 1 + 1 + 1 + 1, 0, none⟩) 1 1, .slice (some ⟨wr.heap.size + 1 + 1 + 1 + 1 + 1 + 1 + 1 + 1 + 1 + 1 + 1 + 1 + 1 + 1, 0, none⟩) 1 1, .slice (some ⟨wr.heap.size + 1 + 1 + 1 + 1 + 1 + 1 + 1 + 1 + 1 + 1 + 1 + 1 + 1 + 1 + 1 + 1, 0, none⟩) 2 2] 24)] = B ∧ Below wr.heap.size wr B ∧ B.heap.size = wr.heap.size + 18 ∧
    B.heap[wr.heap.size + 1 + 1 + 1 + 1 + 1 + 1 + 1 + 1 + 1 + 1 + 1 + 1 + 1 + 1 + 1 + 1 + 1]? = some (.cells #[.slice none 0 0, .slice (some ⟨wr.heap.size, 0, none⟩) 1 1, .slice (some ⟨wr.heap.size + 1, 0, none⟩) 1 1, .slice (some ⟨wr.heap.size + 1 + 1, 0, none⟩) 2 2, .slice (some ⟨wr.heap.size + 1 + 1 + 1, 0, none⟩) 2 2, .slice (some ⟨wr.heap.size + 1 + 1 + 1 + 1, 0, none⟩) 2 2, .slice (some ⟨wr.heap.size + 1 + 1 + 1 + 1 + 1, 0, none⟩) 1 1, .slice (some ⟨wr.heap.size + 1 + 1 + 1 + 1 + 1 + 1 + 1, 0, none⟩) 1 1, .slice (some ⟨wr.heap.size + 1 + 1 + 1 + 1 + 1 + 1 + 1 + 1 + 1, 0, none⟩) 1 1, .slice (some ⟨wr.heap.size + 1 + 1 + 1 + 1 + 1 + 1 + 1 + 1 + 1 + 1 + 1, 0, none⟩) 1 1, .slice (some ⟨wr.heap.size + 1 + 1 + 1 + 1 + 1 + 1 + 1 + 1 + 1 + 1 + 1 + 1 + 1 + 1, 0, none⟩) 1 1, .slice (some ⟨wr.heap.size + 1 + 1 + 1 + 1 + 1 + 1 + 1 + 1 + 1 + 1 + 1 + 1 + 1 + 1 + 1 + 1, 0, none⟩) 2 2] 24 (0, 0)) ∧ (∀ v ∈ ([.slice none 0 0, .slice (some ⟨wr.heap.size, 0, none⟩) 1 1, .slice (some ⟨wr.heap.size + 1, 0, none⟩) 1 1, .slice (some ⟨wr.heap.size + 1 + 1, 0, none⟩) 2 2, .slice (some ⟨wr.heap.size + 1 + 1 + 1, 0, none⟩) 2 2, .slice (some ⟨wr.heap.size + 1 + 1 + 1 + 1, 0, none⟩) 2 2, .slice (some ⟨wr.heap.size + 1 + 1 + 1 + 1 + 1, 0, none⟩) 1 1, .slice (some ⟨wr.heap.size + 1 + 1 + 1 + 1 + 1 + 1 + 1, 0, none⟩) 1 1, .slice (some ⟨wr.heap.size + 1 + 1 + 1 + 1 + 1 + 1 + 1 + 1 + 1, 0, none⟩) 1 1, .slice (some ⟨wr.heap.size + 1 + 1 + 1 + 1 + 1 + 1 + 1 + 1 + 1 + 1 + 1, 0, none⟩) 1 1, .slice (some ⟨wr.heap.size + 1 + 1 + 1 + 1 + 1 + 1 + 1 + 1 + 1 + 1 + 1 + 1 + 1 + 1, 0, none⟩) 1 1, .slice (some ⟨wr.heap.size + 1 + 1 + 1 + 1 + 1 + 1 + 1 + 1 + 1 + 1 + 1 + 1 + 1 + 1 + 1 + 1, 0, none⟩) 2 2] : List Value), AnyStk B v) := by
  have bl := (seqA_below wr [(.cells #[.slice (some ⟨w.heap.size, 0, none⟩) 1 1, .slice (some ⟨w.heap.size + 1, 0, none⟩) 2 2] 42),
      (.cells #[.slice (some ⟨w.heap.size + 1 + 1, 0, none⟩) 2 2, .slice (some ⟨w.heap.size + 1 + 1 + 1, 0, none⟩) 1 1] 42),
      (.cells #[.slice (some ⟨w.heap.size, 0, none⟩) 1 1, .slice (some ⟨w.heap.size + 1, 0, none⟩) 2 2, .slice (some ⟨w.heap.size + 1 + 1, 0, none⟩) 2 2, .slice (some ⟨w.heap.size + 1 + 1 + 1, 0, none⟩) 1 1] 42),
      (.cells #[.slice (some ⟨w.heap.size + 1 + 1, 0, none⟩) 2 2, .slice (some ⟨w.heap.size + 1 + 1 + 1, 0, none⟩) 1 1, .slice (some ⟨w.heap.size, 0, none⟩) 1 1, .slice (some ⟨w.heap.size + 1, 0, none⟩) 2 2] 42),
      (.cells #[.slice (some ⟨w.heap.size, 0, none⟩) 1 1, .slice (some ⟨w.heap.size + 1, 0, none⟩) 2 2, .slice (some ⟨w.heap.size, 0, none⟩) 1 1, .slice (some ⟨w.heap.size + 1, 0, none⟩) 2 2] 42),
      (.cells #[.slice none 0 0, .slice none 0 0] 42),
      (.cells #[.int .i32 1, .int .i32 (-1)] 47),
      (.cells #[.slice (some ⟨wr.heap.size + 1 + 1 + 1 + 1 + 1 + 1, 0, none⟩) 2 2, .slice none 0 0] 42),
      (.cells #[.int .i32 0] 47),
      (.cells #[.slice (some ⟨wr.heap.size + 1 + 1 + 1 + 1 + 1 + 1 + 1 + 1, 0, none⟩) 1 1, .slice none 0 0] 42),
      (.cells #[.int .i32 3] 47),
      (.cells #[.slice none 0 0, .slice (some ⟨wr.heap.size + 1 + 1 + 1 + 1 + 1 + 1 + 1 + 1 + 1 + 1, 0, none⟩) 1 1] 42),
      (.cells #[.int .i32 (-2147483648)] 47),
      (.cells #[.int .i32 1] 47),
      (.cells #[.slice (some ⟨wr.heap.size + 1 + 1 + 1 + 1 + 1 + 1 + 1 + 1 + 1 + 1 + 1 + 1, 0, none⟩) 1 1, .slice (some ⟨wr.heap.size + 1 + 1 + 1 + 1 + 1 + 1 + 1 + 1 + 1 + 1 + 1 + 1 + 1, 0, none⟩) 1 1] 42),
      (.cells #[.int .i32 1, .int .i32 2] 47),
      (.cells #[.slice none 0 0, .slice (some ⟨wr.heap.size + 1 + 1 + 1 + 1 + 1 + 1 + 1 + 1 + 1 + 1 + 1 + 1 + 1 + 1 + 1, 0, none⟩) 2 2, .slice (some ⟨w.heap.size + 1 + 1, 0, none⟩) 2 2, .slice (some ⟨w.heap.size + 1 + 1 + 1, 0, none⟩) 1 1] 42),
      (.cells #[.slice none 0 0, .slice (some ⟨wr.heap.size, 0, none⟩) 1 1, .slice (some ⟨wr.heap.size + 1, 0, none⟩) 1 1, .slice (some ⟨wr.heap.size + 1 + 1, 0, none⟩) 2 2, .slice (some ⟨wr.heap.size + 1 + 1 + 1, 0, none⟩) 2 2, .slice (some ⟨wr.heap.size + 1 + 1 + 1 + 1, 0, none⟩) 2 2, .slice (some ⟨wr.heap.size + 1 + 1 + 1 + 1 + 1, 0, none⟩) 1 1, .slice (some ⟨wr.heap.size + 1 + 1 + 1 + 1 + 1 + 1 + 1, 0, none⟩) 1 1, .slice (some ⟨wr.heap.size + 1 + 1 + 1 + 1 + 1 + 1 + 1 + 1 + 1, 0, none⟩) 1 1, .slice (some ⟨wr.heap.size + 1 + 1 + 1 + 1 + 1 + 1 + 1 + 1 + 1 + 1 + 1, 0, none⟩) 1 1, .slice (some ⟨wr.heap.size + 1 + 1 + 1 + 1 + 1 + 1 + 1 + 1 + 1 + 1 + 1 + 1 + 1 + 1, 0, none⟩) 1 1, .slice (some ⟨wr.heap.size + 1 + 1 + 1 + 1 + 1 + 1 + 1 + 1 + 1 + 1 + 1 + 1 + 1 + 1 + 1 + 1, 0, none⟩) 2 2] 24)])
  have k := seqA_heap wr [(.cells #[.slice (some ⟨w.heap.size, 0, none⟩) 1 1, .slice (some ⟨w.heap.size + 1, 0, none⟩) 2 2] 42),
      (.cells #[.slice (some ⟨w.heap.size + 1 + 1, 0, none⟩) 2 2, .slice (some ⟨w.heap.size + 1 + 1 + 1, 0, none⟩) 1 1] 42),
      (.cells #[.slice (some ⟨w.heap.size, 0, none⟩) 1 1, .slice (some ⟨w.heap.size + 1, 0, none⟩) 2 2, .slice (some ⟨w.heap.size + 1 + 1, 0, none⟩) 2 2, .slice (some ⟨w.heap.size + 1 + 1 + 1, 0, none⟩) 1 1] 42),
      (.cells #[.slice (some ⟨w.heap.size + 1 + 1, 0, none⟩) 2 2, .slice (some ⟨w.heap.size + 1 + 1 + 1, 0, none⟩) 1 1, .slice (some ⟨w.heap.size, 0, none⟩) 1 1, .slice (some ⟨w.heap.size + 1, 0, none⟩) 2 2] 42),
      (.cells #[.slice (some ⟨w.heap.size, 0, none⟩) 1 1, .slice (some ⟨w.heap.size + 1, 0, none⟩) 2 2, .slice (some ⟨w.heap.size, 0, none⟩) 1 1, .slice (some ⟨w.heap.size + 1, 0, none⟩) 2 2] 42),
      (.cells #[.slice none 0 0, .slice none 0 0] 42),
      (.cells #[.int .i32 1, .int .i32 (-1)] 47),
      (.cells #[.slice (some ⟨wr.heap.size + 1 + 1 + 1 + 1 + 1 + 1, 0, none⟩) 2 2, .slice none 0 0] 42),
      (.cells #[.int .i32 0] 47),
      (.cells #[.slice (some ⟨wr.heap.size + 1 + 1 + 1 + 1 + 1 + 1 + 1 + 1, 0, none⟩) 1 1, .slice none 0 0] 42),
      (.cells #[.int .i32 3] 47),
      (.cells #[.slice none 0 0, .slice (some ⟨wr.heap.size + 1 + 1 + 1 + 1 + 1 + 1 + 1 + 1 + 1 + 1, 0, none⟩) 1 1] 42),
      (.cells #[.int .i32 (-2147483648)] 47),
      (.cells #[.int .i32 1] 47),
      (.cells #[.slice (some ⟨wr.heap.size + 1 + 1 + 1 + 1 + 1 + 1 + 1 + 1 + 1 + 1 + 1 + 1, 0, none⟩) 1 1, .slice (some ⟨wr.heap.size + 1 + 1 + 1 + 1 + 1 + 1 + 1 + 1 + 1 + 1 + 1 + 1 + 1, 0, none⟩) 1 1] 42),
      (.cells #[.int .i32 1, .int .i32 2] 47),
      (.cells #[.slice none 0 0, .slice (some ⟨wr.heap.size + 1 + 1 + 1 + 1 + 1 + 1 + 1 + 1 + 1 + 1 + 1 + 1 + 1 + 1 + 1, 0, none⟩) 2 2, .slice (some ⟨w.heap.size + 1 + 1, 0, none⟩) 2 2, .slice (some ⟨w.heap.size + 1 + 1 + 1, 0, none⟩) 1 1] 42),
      (.cells #[.slice none 0 0, .slice (some ⟨wr.heap.size, 0, none⟩) 1 1, .slice (some ⟨wr.heap.size + 1, 0, none⟩) 1 1, .slice (some ⟨wr.heap.size + 1 + 1, 0, none⟩) 2 2, .slice (some ⟨wr.heap.size + 1 + 1 + 1, 0, none⟩) 2 2, .slice (some ⟨wr.heap.size + 1 + 1 + 1 + 1, 0, none⟩) 2 2, .slice (some ⟨wr.heap.size + 1 + 1 + 1 + 1 + 1, 0, none⟩) 1 1, .slice (some ⟨wr.heap.size + 1 + 1 + 1 + 1 + 1 + 1 + 1, 0, none⟩) 1 1, .slice (some ⟨wr.heap.size + 1 + 1 + 1 + 1 + 1 + 1 + 1 + 1 + 1, 0, none⟩) 1 1, .slice (some ⟨wr.heap.size + 1 + 1 + 1 + 1 + 1 + 1 + 1 + 1 + 1 + 1 + 1, 0, none⟩) 1 1, .slice (some ⟨wr.heap.size + 1 + 1 + 1 + 1 + 1 + 1 + 1 + 1 + 1 + 1 + 1 + 1 + 1 + 1, 0, none⟩) 1 1, .slice (some ⟨wr.heap.size + 1 + 1 + 1 + 1 + 1 + 1 + 1 + 1 + 1 + 1 + 1 + 1 + 1 + 1 + 1 + 1, 0, none⟩) 2 2] 24)]
  refine ⟨_, rfl, bl.1, bl.2, k 17 _ rfl, ?_⟩
  have oa := wq_ok (c1 := 1) (c2 := 2) (p := ([2], [1, 2])) (ha.below bl.1) (hb.below bl.1) (by decide) (by decide)
  have ob := wq_ok (c1 := 2) (c2 := 1) (p := ([1, -2], [1])) (hc.below bl.1) (hd.below bl.1) (by decide) (by decide)
  have l6 := lits_any [1, -1] (k 6 _ rfl) (by decide)
  have l8 := lits_any [0] (k 8 _ rfl) (by decide)
  have l10 := lits_any [3] (k 10 _ rfl) (by decide)
  have l12 := lits_any [-2147483648] (k 12 _ rfl) (by decide)
  have l13 := lits_any [1] (k 13 _ rfl) (by decide)
  have l15 := lits_any [1, 2] (k 15 _ rfl) (by decide)
  have s0 := stk_any (n := 1) [(([2], [1, 2]), (some ⟨w.heap.size, 0, none⟩, 1), (some ⟨w.heap.size + 1, 0, none⟩, 2))] (k 0 _ rfl) (all1 oa) rfl (by decide)
  have s1 := stk_any (n := 1) [(([1, -2], [1]), (some ⟨w.heap.size + 1 + 1, 0, none⟩, 2), (some ⟨w.heap.size + 1 + 1 + 1, 0, none⟩, 1))] (k 1 _ rfl) (all1 ob) rfl (by decide)
  have s2 := stk_any (n := 2) [(([2], [1, 2]), (some ⟨w.heap.size, 0, none⟩, 1), (some ⟨w.heap.size + 1, 0, none⟩, 2)), (([1, -2], [1]), (some ⟨w.heap.size + 1 + 1, 0, none⟩, 2), (some ⟨w.heap.size + 1 + 1 + 1, 0, none⟩, 1))] (k 2 _ rfl) (all2 oa ob) rfl (by decide)
  have s3 := stk_any (n := 2) [(([1, -2], [1]), (some ⟨w.heap.size + 1 + 1, 0, none⟩, 2), (some ⟨w.heap.size + 1 + 1 + 1, 0, none⟩, 1)), (([2], [1, 2]), (some ⟨w.heap.size, 0, none⟩, 1), (some ⟨w.heap.size + 1, 0, none⟩, 2))] (k 3 _ rfl) (all2 ob oa) rfl (by decide)
  have s4 := stk_any (n := 2) [(([2], [1, 2]), (some ⟨w.heap.size, 0, none⟩, 1), (some ⟨w.heap.size + 1, 0, none⟩, 2)), (([2], [1, 2]), (some ⟨w.heap.size, 0, none⟩, 1), (some ⟨w.heap.size + 1, 0, none⟩, 2))] (k 4 _ rfl) (all2 oa oa) rfl (by decide)
  have s5 := stk_any (n := 1) [(([], []), (none, 0), (none, 0))] (k 5 _ rfl) (all1 (wq_ok (lits_nil _ _) (lits_nil _ _) (by decide) (by decide))) rfl (by decide)
  have s7 := stk_any (n := 1) [(([1, -1], []), (some ⟨wr.heap.size + 1 + 1 + 1 + 1 + 1 + 1, 0, none⟩, 2), (none, 0))] (k 7 _ rfl) (all1 (wq_ok (l6) (lits_nil _ _) (by decide) (by decide))) rfl (by decide)
  have s9 := stk_any (n := 1) [(([0], []), (some ⟨wr.heap.size + 1 + 1 + 1 + 1 + 1 + 1 + 1 + 1, 0, none⟩, 1), (none, 0))] (k 9 _ rfl) (all1 (wq_ok (l8) (lits_nil _ _) (by decide) (by decide))) rfl (by decide)
  have s11 := stk_any (n := 1) [(([], [3]), (none, 0), (some ⟨wr.heap.size + 1 + 1 + 1 + 1 + 1 + 1 + 1 + 1 + 1 + 1, 0, none⟩, 1))] (k 11 _ rfl) (all1 (wq_ok (lits_nil _ _) (l10) (by decide) (by decide))) rfl (by decide)
  have s14 := stk_any (n := 1) [(([-2147483648], [1]), (some ⟨wr.heap.size + 1 + 1 + 1 + 1 + 1 + 1 + 1 + 1 + 1 + 1 + 1 + 1, 0, none⟩, 1), (some ⟨wr.heap.size + 1 + 1 + 1 + 1 + 1 + 1 + 1 + 1 + 1 + 1 + 1 + 1 + 1, 0, none⟩, 1))] (k 14 _ rfl) (all1 (wq_ok (l12) (l13) (by decide) (by decide))) rfl (by decide)
  have s16 := stk_any (n := 2) [(([], [1, 2]), (none, 0), (some ⟨wr.heap.size + 1 + 1 + 1 + 1 + 1 + 1 + 1 + 1 + 1 + 1 + 1 + 1 + 1 + 1 + 1, 0, none⟩, 2)), (([1, -2], [1]), (some ⟨w.heap.size + 1 + 1, 0, none⟩, 2), (some ⟨w.heap.size + 1 + 1 + 1, 0, none⟩, 1))] (k 16 _ rfl) (all2 (wq_ok (lits_nil _ _) (l15) (by decide) (by decide)) ob) rfl (by decide)
  clear oa ob k bl l6 l8 l10 l12 l13 l15
  intro v hv
  simp only [List.mem_cons, List.not_mem_nil, or_false] at hv
  rcases hv with rfl | rfl | rfl | rfl | rfl | rfl | rfl | rfl | rfl | rfl | rfl | rfl
  · exact ⟨none, 0, 0, [], rfl, rfl, by omega, .inl rfl⟩
  · exact s0
  · exact s1
  · exact s2
  · exact s3
  · exact s4
  · exact s5
  · exact s7
  · exact s9
  · exact s11
  · exact s14
  · exact s16

theorem cls_any {W : World} {b : Nat} {t : TypeId} (qs : List Cq) (h : W.heap[b]? = some (.cells (qs.map cqv).toArray t (0, 0))) (hq : ∀ q ∈ qs, CqOk W q) : Cls W (some ⟨b, 0, none⟩) (qs.map (·.1)) := by
  refine ⟨fun c hc => ?_, .inr ⟨b, 0, rfl, (Array.getElem?_eq_some_iff.1 h).1, fun j hj => ?_⟩⟩
  · obtain ⟨q, hq', rfl⟩ := List.mem_map.1 hc
    exact (hq q hq').2
  · have hj' : j < qs.length := by simpa using hj
    have e : (qs.map (·.1)).getD j [] = qs[j].1 := by simp [List.getD, hj']
    rw [e, Nat.zero_add]
    refine ⟨qs[j].2.1, qs[j].2.2, ?_, (hq _ (List.getElem_mem hj')).1⟩
    rw [row_cell h j]
    simp [hj', cqv]
theorem ints_any {W : World} {b : Nat} {t : TypeId} (xs : List Int) (h : W.heap[b]? = some (.cells (xs.map (Value.int .i64)).toArray t (0, 0))) (hb : ∀ x ∈ xs, -9223372036854775808 ≤ x ∧ x ≤ 9223372036854775807) : Ints W (some ⟨b, 0, none⟩) xs := by
  refine ⟨hb, .inr ⟨b, 0, rfl, (Array.getElem?_eq_some_iff.1 h).1, fun j hj => ?_⟩⟩
  rw [Nat.zero_add, row_cell h j]
  simp [hj, List.getD]
theorem cq_ok {W : World} {xs : List Int} {a : Option Addr} {c : Nat} (h : Lits W a xs) (h2 : xs.length ≤ 1000) : CqOk W (xs, a, c) := ⟨h, by simp only; omega⟩
theorem all4 {α : Type} {P : α → Prop} {a b c d : α} (h1 : P a) (h2 : P b) (h3 : P c) (h4 : P d) : ∀ x ∈ [a, b, c, d], P x := by
  intro x hx
  simp at hx
  rcases hx with rfl | rfl | rfl | rfl
  · exact h1
  · exact h2
  · exact h3
  · exact h4

set_option maxRecDepth 100000 in
set_option maxHeartbeats 4000000 in
theorem laid2 (wr : World) : ∃ B, seqA wr [(.cells #[.int .i32 1, .int .i32 2] 47),
      (.cells #[.int .i32 (-1), .int .i32 (-2)] 47),
      (.cells #[.int .i32 3, .int .i32 1] 47),
      (.cells #[.int .i32 (-3), .int .i32 2] 47),
      (.cells #[.slice (some ⟨wr.heap.size, 0, none⟩) 2 2, .slice (some ⟨wr.heap.size + 1, 0, none⟩) 2 2, .slice (some ⟨wr.heap.size + 1 + 1, 0, none⟩) 2 2, .slice (some ⟨wr.heap.size + 1 + 1 + 1, 0, none⟩) 2 2] 40),
      (.cells #[.int .i64 3, .slice (some ⟨wr.heap.size + 1 + 1 + 1 + 1, 0, none⟩) 4 4] 34),
      (.cells #[.int .i64 2, .int .i64 2, .int .i64 0, .int .i64 0] 3),
      (.cells #[.int .i32 3] 47),
      (.cells #[.int .i32 (-3)] 47),
      (.cells #[.int .i32 1, .int .i32 (-2)] 47),
      (.cells #[.int .i32 (-2)] 47),
      (.cells #[.slice (some ⟨wr.heap.size + 1 + 1 + 1 + 1 + 1 + 1 + 1, 0, none⟩) 1 1, .slice (some ⟨wr.heap.size + 1 + 1 + 1 + 1 + 1 + 1 + 1 + 1, 0, none⟩) 1 1, .slice (some ⟨wr.heap.size + 1 + 1 + 1 + 1 + 1 + 1 + 1 + 1 + 1, 0, none⟩) 2 2, .slice (some ⟨wr.heap.size + 1 + 1 + 1 + 1 + 1 + 1 + 1 + 1 + 1 + 1, 0, none⟩) 1 1] 40)] = B ∧ Below wr.heap.size wr B ∧ B.heap.size = wr.heap.size + 12 ∧
    B.heap[wr.heap.size + 1 + 1 + 1 + 1 + 1]? = some (.cells #[.int .i64 3, .slice (some ⟨wr.heap.size + 1 + 1 + 1 + 1, 0, none⟩) 4 4] 34 (0, 0)) ∧ Cls B (some ⟨wr.heap.size + 1 + 1 + 1 + 1, 0, none⟩) [[1, 2], [-1, -2], [3, 1], [-3, 2]] ∧ Ints B (some ⟨wr.heap.size + 1 + 1 + 1 + 1 + 1 + 1, 0, none⟩) [2, 2, 0, 0] ∧ Cls B (some ⟨wr.heap.size + 1 + 1 + 1 + 1 + 1 + 1 + 1 + 1 + 1 + 1 + 1, 0, none⟩) [[3], [-3], [1, -2], [-2]] := by
  have k := seqA_heap wr [(.cells #[.int .i32 1, .int .i32 2] 47),
      (.cells #[.int .i32 (-1), .int .i32 (-2)] 47),
      (.cells #[.int .i32 3, .int .i32 1] 47),
      (.cells #[.int .i32 (-3), .int .i32 2] 47),
      (.cells #[.slice (some ⟨wr.heap.size, 0, none⟩) 2 2, .slice (some ⟨wr.heap.size + 1, 0, none⟩) 2 2, .slice (some ⟨wr.heap.size + 1 + 1, 0, none⟩) 2 2, .slice (some ⟨wr.heap.size + 1 + 1 + 1, 0, none⟩) 2 2] 40),
      (.cells #[.int .i64 3, .slice (some ⟨wr.heap.size + 1 + 1 + 1 + 1, 0, none⟩) 4 4] 34),
      (.cells #[.int .i64 2, .int .i64 2, .int .i64 0, .int .i64 0] 3),
      (.cells #[.int .i32 3] 47),
      (.cells #[.int .i32 (-3)] 47),
      (.cells #[.int .i32 1, .int .i32 (-2)] 47),
      (.cells #[.int .i32 (-2)] 47),
      (.cells #[.slice (some ⟨wr.heap.size + 1 + 1 + 1 + 1 + 1 + 1 + 1, 0, none⟩) 1 1, .slice (some ⟨wr.heap.size + 1 + 1 + 1 + 1 + 1 + 1 + 1 + 1, 0, none⟩) 1 1, .slice (some ⟨wr.heap.size + 1 + 1 + 1 + 1 + 1 + 1 + 1 + 1 + 1, 0, none⟩) 2 2, .slice (some ⟨wr.heap.size + 1 + 1 + 1 + 1 + 1 + 1 + 1 + 1 + 1 + 1, 0, none⟩) 1 1] 40)]
  have bl := (seqA_below wr [(.cells #[.int .i32 1, .int .i32 2] 47),
      (.cells #[.int .i32 (-1), .int .i32 (-2)] 47),
      (.cells #[.int .i32 3, .int .i32 1] 47),
      (.cells #[.int .i32 (-3), .int .i32 2] 47),
      (.cells #[.slice (some ⟨wr.heap.size, 0, none⟩) 2 2, .slice (some ⟨wr.heap.size + 1, 0, none⟩) 2 2, .slice (some ⟨wr.heap.size + 1 + 1, 0, none⟩) 2 2, .slice (some ⟨wr.heap.size + 1 + 1 + 1, 0, none⟩) 2 2] 40),
      (.cells #[.int .i64 3, .slice (some ⟨wr.heap.size + 1 + 1 + 1 + 1, 0, none⟩) 4 4] 34),
      (.cells #[.int .i64 2, .int .i64 2, .int .i64 0, .int .i64 0] 3),
      (.cells #[.int .i32 3] 47),
      (.cells #[.int .i32 (-3)] 47),
      (.cells #[.int .i32 1, .int .i32 (-2)] 47),
      (.cells #[.int .i32 (-2)] 47),
      (.cells #[.slice (some ⟨wr.heap.size + 1 + 1 + 1 + 1 + 1 + 1 + 1, 0, none⟩) 1 1, .slice (some ⟨wr.heap.size + 1 + 1 + 1 + 1 + 1 + 1 + 1 + 1, 0, none⟩) 1 1, .slice (some ⟨wr.heap.size + 1 + 1 + 1 + 1 + 1 + 1 + 1 + 1 + 1, 0, none⟩) 2 2, .slice (some ⟨wr.heap.size + 1 + 1 + 1 + 1 + 1 + 1 + 1 + 1 + 1 + 1, 0, none⟩) 1 1] 40)])
  exact ⟨_, rfl, bl.1, bl.2, k 5 _ rfl, cls_any [([1, 2], some ⟨wr.heap.size, 0, none⟩, 2), ([-1, -2], some ⟨wr.heap.size + 1, 0, none⟩, 2), ([3, 1], some ⟨wr.heap.size + 1 + 1, 0, none⟩, 2), ([-3, 2], some ⟨wr.heap.size + 1 + 1 + 1, 0, none⟩, 2)] (k 4 _ rfl) (all4 (cq_ok (lits_any [1, 2] (k 0 _ rfl) (by decide)) (by decide)) (cq_ok (lits_any [-1, -2] (k 1 _ rfl) (by decide)) (by decide)) (cq_ok (lits_any [3, 1] (k 2 _ rfl) (by decide)) (by decide)) (cq_ok (lits_any [-3, 2] (k 3 _ rfl) (by decide)) (by decide))), ints_any [2, 2, 0, 0] (k 6 _ rfl) (by decide), cls_any [([3], some ⟨wr.heap.size + 1 + 1 + 1 + 1 + 1 + 1 + 1, 0, none⟩, 1), ([-3], some ⟨wr.heap.size + 1 + 1 + 1 + 1 + 1 + 1 + 1 + 1, 0, none⟩, 1), ([1, -2], some ⟨wr.heap.size + 1 + 1 + 1 + 1 + 1 + 1 + 1 + 1 + 1, 0, none⟩, 2), ([-2], some ⟨wr.heap.size + 1 + 1 + 1 + 1 + 1 + 1 + 1 + 1 + 1 + 1, 0, none⟩, 1)] (k 11 _ rfl) (all4 (cq_ok (lits_any [3] (k 7 _ rfl) (by decide)) (by decide)) (cq_ok (lits_any [-3] (k 8 _ rfl) (by decide)) (by decide)) (cq_ok (lits_any [1, -2] (k 9 _ rfl) (by decide)) (by decide)) (cq_ok (lits_any [-2] (k 10 _ rfl) (by decide)) (by decide)))⟩
set_option maxRecDepth 100000 in
set_option maxHeartbeats 4000000 in
theorem laid3 (wr : World) : ∃ B, seqA wr [(.cells #[.int .i64 0, .int .i64 0, .int .i64 0, .int .i64 0] 3),
      (.cells #[.int .i32 1] 47),
      (.cells #[.int .i32 (-1)] 47),
      (.cells #[.int .i32 3] 47),
      (.cells #[.int .i32 2, .int .i32 (-3)] 47),
      (.cells #[.slice (some ⟨wr.heap.size + 1, 0, none⟩) 1 1, .slice (some ⟨wr.heap.size + 1 + 1, 0, none⟩) 1 1, .slice (some ⟨wr.heap.size + 1 + 1 + 1, 0, none⟩) 1 1, .slice (some ⟨wr.heap.size + 1 + 1 + 1 + 1, 0, none⟩) 2 2] 40)] = B ∧ Below wr.heap.size wr B ∧
    Ints B (some ⟨wr.heap.size, 0, none⟩) [0, 0, 0, 0] ∧ Cls B (some ⟨wr.heap.size + 1 + 1 + 1 + 1 + 1, 0, none⟩) [[1], [-1], [3], [2, -3]] := by
  have k := seqA_heap wr [(.cells #[.int .i64 0, .int .i64 0, .int .i64 0, .int .i64 0] 3),
      (.cells #[.int .i32 1] 47),
      (.cells #[.int .i32 (-1)] 47),
      (.cells #[.int .i32 3] 47),
      (.cells #[.int .i32 2, .int .i32 (-3)] 47),
      (.cells #[.slice (some ⟨wr.heap.size + 1, 0, none⟩) 1 1, .slice (some ⟨wr.heap.size + 1 + 1, 0, none⟩) 1 1, .slice (some ⟨wr.heap.size + 1 + 1 + 1, 0, none⟩) 1 1, .slice (some ⟨wr.heap.size + 1 + 1 + 1 + 1, 0, none⟩) 2 2] 40)]
  have bl := (seqA_below wr [(.cells #[.int .i64 0, .int .i64 0, .int .i64 0, .int .i64 0] 3),
      (.cells #[.int .i32 1] 47),
      (.cells #[.int .i32 (-1)] 47),
      (.cells #[.int .i32 3] 47),
      (.cells #[.int .i32 2, .int .i32 (-3)] 47),
      (.cells #[.slice (some ⟨wr.heap.size + 1, 0, none⟩) 1 1, .slice (some ⟨wr.heap.size + 1 + 1, 0, none⟩) 1 1, .slice (some ⟨wr.heap.size + 1 + 1 + 1, 0, none⟩) 1 1, .slice (some ⟨wr.heap.size + 1 + 1 + 1 + 1, 0, none⟩) 2 2] 40)])
  exact ⟨_, rfl, bl.1, ints_any [0, 0, 0, 0] (k 0 _ rfl) (by decide), cls_any [([1], some ⟨wr.heap.size + 1, 0, none⟩, 1), ([-1], some ⟨wr.heap.size + 1 + 1, 0, none⟩, 1), ([3], some ⟨wr.heap.size + 1 + 1 + 1, 0, none⟩, 1), ([2, -3], some ⟨wr.heap.size + 1 + 1 + 1 + 1, 0, none⟩, 2)] (k 5 _ rfl) (all4 (cq_ok (lits_any [1] (k 1 _ rfl) (by decide)) (by decide)) (cq_ok (lits_any [-1] (k 2 _ rfl) (by decide)) (by decide)) (cq_ok (lits_any [3] (k 3 _ rfl) (by decide)) (by decide)) (cq_ok (lits_any [2, -3] (k 4 _ rfl) (by decide)) (by decide)))⟩
end Go.Proofs.Ytjakfgpgcnbclaa
