/- The examples: the row of calls, as it is laid. -/
import Derived.Test.YtckpahdlcdgbpaaLaw3
import Derived.Test.YtckpahdlcdgbpaaLaw4
import Derived.Test.YtckpahdlcdgbpaaLaw5
namespace Go.Proofs.Ytckpahdlcdgbpaa
open Go.RowKit Go.Maps
set_option linter.unusedVariables false
set_option linter.unusedSimpArgs false
set_option maxRecDepth 100000

/-- Blocks laid one behind the other. -/
def seqA (W : World) (os : List Obj) : World := os.foldl World.alloc W
theorem seqA_below (W : World) : ∀ os, Below W.heap.size W (seqA W os) ∧ (seqA W os).heap.size = W.heap.size + os.length := by
  intro os
  induction os generalizing W with
  | nil => exact ⟨Below.refl _ _, rfl⟩
  | cons o os ih =>
    obtain ⟨h1, h2⟩ := ih (W.alloc o)
    refine ⟨(below_box W o).trans (h1.mono (by simp)), ?_⟩
    show (seqA (W.alloc o) os).heap.size = _
    rw [h2]
    simp
    omega
theorem seqA_heap (W : World) : ∀ (os : List Obj) (i : Nat) (x : Obj) (h : os[i]? = some x), (seqA W os).heap[W.heap.size + i]? = some x := by
  intro os
  induction os generalizing W with
  | nil => intro i x h; simp at h
  | cons o os ih =>
    intro i x h
    cases i with
    | zero =>
      obtain rfl : o = x := by simpa using h
      exact ((seqA_below (W.alloc o) os).1.block W.heap.size (by simp)).trans (World.alloc_heap_new W o)
    | succ i =>
      have := ih (W.alloc o) i x (by simpa using h)
      rw [World.size_alloc] at this
      rw [show W.heap.size + (i + 1) = W.heap.size + 1 + i by omega]
      exact this
theorem hnts_any {W : World} {b : Nat} {t : TypeId} (xs : List Int) (h : W.heap[b]? = some (.cells (xs.map (Value.int .i64)).toArray t (0, 0))) (hb : ∀ x ∈ xs, -9223372036854775808 ≤ x ∧ x ≤ 9223372036854775807) : Hnts W (some ⟨b, 0, none⟩) xs := by
  refine ⟨hb, .inr ⟨b, 0, rfl, (Array.getElem?_eq_some_iff.1 h).1, fun j hj => ?_⟩⟩
  rw [Nat.zero_add, row_cell h j]
  simp [hj, List.getD]
theorem hnts_nil (W : World) : Hnts W none [] := ⟨by simp, .inl rfl⟩
/-- A row of calls with where their numbers lie. -/
def rowV : List Trl.Stp → List (Option Addr × Nat) → List Value
  | s :: ss, p :: ps => sval s p.1 p.2 ++ rowV ss ps
  | _, _ => []
def RowO (W : World) : List Trl.Stp → List (Option Addr × Nat) → Prop
  | s :: ss, p :: ps => StpOk W s p.1 ∧ RowO W ss ps
  | [], [] => True
  | _, _ => False
theorem rowV_at (W : World) : ∀ (ss : List Trl.Stp) (ps : List (Option Addr × Nat)) (h : RowO W ss ps) (j : Nat) (hj : j < ss.length), ∃ a' cap', StpOk W ss[j] a' ∧ ∀ t v, (sval ss[j] a' cap')[t]? = some v → (rowV ss ps)[j * 4 + t]? = some v
  | [], _, _, j, hj => by simp at hj
  | s :: ss, [], h, _, _ => by simp [RowO] at h
  | s :: ss, p :: ps, h, 0, _ => by
    refine ⟨p.1, p.2, h.1, fun t v hv => ?_⟩
    have hv' : (sval s p.1 p.2)[t]? = some v := hv
    have ht := (List.getElem?_eq_some_iff.1 hv').1
    rw [Nat.zero_mul, Nat.zero_add]
    show (sval s p.1 p.2 ++ rowV ss ps)[t]? = _
    rw [List.getElem?_append_left ht]
    exact hv'
  | s :: ss, p :: ps, h, j + 1, hj => by
    obtain ⟨a', c', h1, h2⟩ := rowV_at W ss ps h.2 j (by simpa using hj)
    refine ⟨a', c', h1, fun t v hv => ?_⟩
    have := h2 t v hv
    show (sval s p.1 p.2 ++ rowV ss ps)[(j + 1) * 4 + t]? = _
    rw [List.getElem?_append_right (by simp [sval]; omega)]
    rw [show (j + 1) * 4 + t - (sval s p.1 p.2).length = j * 4 + t by simp [sval]; omega]
    exact this
theorem stps_any {W : World} {b : Nat} {t : TypeId} (ss : List Trl.Stp) (ps : List (Option Addr × Nat)) (h : W.heap[b]? = some (.cells (rowV ss ps).toArray t (0, 0))) (hr : RowO W ss ps) : Stps W (some ⟨b, 0, none⟩) ss := by
  refine .inr ⟨b, 0, rfl, (Array.getElem?_eq_some_iff.1 h).1, fun j hj => ?_⟩
  obtain ⟨a', c', h1, h2⟩ := rowV_at W ss ps hr j hj
  refine ⟨a', c', h1, fun q v hv => ?_⟩
  rw [Nat.zero_add, row_cell h, List.getElem?_toArray]
  exact h2 q v hv
theorem Stps.part {W : World} {b : Nat} {ss : List Trl.Stp} (h : Stps W (some ⟨b, 0, none⟩) ss) (i n : Nat) (hn : i + n ≤ ss.length) (h0 : 0 < ss.length) : Stps W (some ⟨b, i * 4, none⟩) ((ss.drop i).take n) := by
  rcases h with h | ⟨b', off, e, hl, hc⟩
  · rw [h] at h0; simp at h0
  · cases e
    refine .inr ⟨b, i * 4, rfl, hl, fun j hj => ?_⟩
    have hj2 : j < n := by simp at hj; omega
    obtain ⟨a', c', h1, h2⟩ := hc (i + j) (by omega)
    have e : ((ss.drop i).take n)[j] = ss[i + j]'(by omega) := by simp
    rw [e]
    refine ⟨a', c', h1, fun t v hv => ?_⟩
    have := h2 t v hv
    rwa [show 0 + (i + j) * 4 + t = i * 4 + j * 4 + t by omega] at this
def exRow : List Trl.Stp := [⟨2, 1, (-1), []⟩, ⟨0, (-2), 0, []⟩, ⟨2, 3, 7, []⟩, ⟨5, 0, 0, []⟩, ⟨5, 0, 0, []⟩, ⟨2, 2, 5, []⟩, ⟨0, 4, 0, []⟩, ⟨2, 1, (-2), []⟩, ⟨2, 9, (-2), []⟩, ⟨4, 0, 2, []⟩, ⟨4, 0, (-1), []⟩, ⟨4, 0, 1, []⟩, ⟨6, 0, 0, [0, 1, 2, 3, 4, 5, 6, 3]⟩, ⟨6, 0, 0, [0, 1, 2, (-1)]⟩, ⟨6, 0, 0, [0, 1, 2]⟩, ⟨6, 0, 0, [5, 5, 5, 0]⟩, ⟨5, 0, 0, []⟩, ⟨5, 0, 0, []⟩, ⟨4, 0, 0, []⟩, ⟨5, 0, 0, []⟩, ⟨0, 3, 0, []⟩, ⟨0, 2, 0, []⟩, ⟨4, 0, 1, []⟩, ⟨0, (-2), 0, []⟩, ⟨4, 0, 0, []⟩, ⟨6, 0, 0, []⟩, ⟨0, (-2147483648), 0, []⟩, ⟨0, 0, 0, []⟩, ⟨2, (-3), 9223372036854775807, []⟩, ⟨6, 0, 0, [1]⟩]
set_option maxHeartbeats 4000000 in
theorem row_laid (W : World) : ∃ A, seqA W [(.cells #[.int .i64 0, .int .i64 1, .int .i64 2, .int .i64 3, .int .i64 4, .int .i64 5, .int .i64 6, .int .i64 3] 3),
      (.cells #[.int .i64 0, .int .i64 1, .int .i64 2, .int .i64 (-1)] 3),
      (.cells #[.int .i64 0, .int .i64 1, .int .i64 2] 3),
      (.cells #[.int .i64 5, .int .i64 5, .int .i64 5, .int .i64 0] 3),
      (.cells #[.int .i64 1] 3),
      (.cells #[.int .i64 2, .int .i32 1, .int .i64 (-1), .slice none 0 0, .int .i64 0, .int .i32 (-2), .int .i64 0, .slice none 0 0, .int .i64 2, .int .i32 3, .int .i64 7, .slice none 0 0, .int .i64 5, .int .i32 0, .int .i64 0, .slice none 0 0, .int .i64 5, .int .i32 0, .int .i64 0, .slice none 0 0, .int .i64 2, .int .i32 2, .int .i64 5, .slice none 0 0, .int .i64 0, .int .i32 4, .int .i64 0, .slice none 0 0, .int .i64 2, .int .i32 1, .int .i64 (-2), .slice none 0 0, .int .i64 2, .int .i32 9, .int .i64 (-2), .slice none 0 0, .int .i64 4, .int .i32 0, .int .i64 2, .slice none 0 0, .int .i64 4, .int .i32 0, .int .i64 (-1), .slice none 0 0, .int .i64 4, .int .i32 0, .int .i64 1, .slice none 0 0, .int .i64 6, .int .i32 0, .int .i64 0, .slice (some ⟨W.heap.size, 0, none⟩) 8 8, .int .i64 6, .int .i32 0, .int .i64 0, .slice (some ⟨W.heap.size + 1, 0, none⟩) 4 4, .int .i64 6, .int .i32 0, .int .i64 0, .slice (some ⟨W.heap.size + 1 + 1, 0, none⟩) 3 3, .int .i64 6, .int .i32 0, .int .i64 0, .slice (some ⟨W.heap.size + 1 + 1 + 1, 0, none⟩) 4 4, .int .i64 5, .int .i32 0, .int .i64 0, .slice none 0 0, .int .i64 5, .int .i32 0, .int .i64 0, .slice none 0 0, .int .i64 4, .int .i32 0, .int .i64 0, .slice none 0 0, .int .i64 5, .int .i32 0, .int .i64 0, .slice none 0 0, .int .i64 0, .int .i32 3, .int .i64 0, .slice none 0 0, .int .i64 0, .int .i32 2, .int .i64 0, .slice none 0 0, .int .i64 4, .int .i32 0, .int .i64 1, .slice none 0 0, .int .i64 0, .int .i32 (-2), .int .i64 0, .slice none 0 0, .int .i64 4, .int .i32 0, .int .i64 0, .slice none 0 0, .int .i64 6, .int .i32 0, .int .i64 0, .slice none 0 0, .int .i64 0, .int .i32 (-2147483648), .int .i64 0, .slice none 0 0, .int .i64 0, .int .i32 0, .int .i64 0, .slice none 0 0, .int .i64 2, .int .i32 (-3), .int .i64 9223372036854775807, .slice none 0 0, .int .i64 6, .int .i32 0, .int .i64 0, .slice (some ⟨W.heap.size + 1 + 1 + 1 + 1, 0, none⟩) 1 1] 36)] = A ∧ Below W.heap.size W A ∧ A.heap.size = W.heap.size + 6 ∧ Stps A (some ⟨W.heap.size + 1 + 1 + 1 + 1 + 1, 0, none⟩) exRow := by
  refine ⟨_, rfl, (seqA_below W _).1, (seqA_below W _).2, ?_⟩
  have k := seqA_heap W [(.cells #[.int .i64 0, .int .i64 1, .int .i64 2, .int .i64 3, .int .i64 4, .int .i64 5, .int .i64 6, .int .i64 3] 3),
      (.cells #[.int .i64 0, .int .i64 1, .int .i64 2, .int .i64 (-1)] 3),
      (.cells #[.int .i64 0, .int .i64 1, .int .i64 2] 3),
      (.cells #[.int .i64 5, .int .i64 5, .int .i64 5, .int .i64 0] 3),
      (.cells #[.int .i64 1] 3),
      (.cells #[.int .i64 2, .int .i32 1, .int .i64 (-1), .slice none 0 0, .int .i64 0, .int .i32 (-2), .int .i64 0, .slice none 0 0, .int .i64 2, .int .i32 3, .int .i64 7, .slice none 0 0, .int .i64 5, .int .i32 0, .int .i64 0, .slice none 0 0, .int .i64 5, .int .i32 0, .int .i64 0, .slice none 0 0, .int .i64 2, .int .i32 2, .int .i64 5, .slice none 0 0, .int .i64 0, .int .i32 4, .int .i64 0, .slice none 0 0, .int .i64 2, .int .i32 1, .int .i64 (-2), .slice none 0 0, .int .i64 2, .int .i32 9, .int .i64 (-2), .slice none 0 0, .int .i64 4, .int .i32 0, .int .i64 2, .slice none 0 0, .int .i64 4, .int .i32 0, .int .i64 (-1), .slice none 0 0, .int .i64 4, .int .i32 0, .int .i64 1, .slice none 0 0, .int .i64 6, .int .i32 0, .int .i64 0, .slice (some ⟨W.heap.size, 0, none⟩) 8 8, .int .i64 6, .int .i32 0, .int .i64 0, .slice (some ⟨W.heap.size + 1, 0, none⟩) 4 4, .int .i64 6, .int .i32 0, .int .i64 0, .slice (some ⟨W.heap.size + 1 + 1, 0, none⟩) 3 3, .int .i64 6, .int .i32 0, .int .i64 0, .slice (some ⟨W.heap.size + 1 + 1 + 1, 0, none⟩) 4 4, .int .i64 5, .int .i32 0, .int .i64 0, .slice none 0 0, .int .i64 5, .int .i32 0, .int .i64 0, .slice none 0 0, .int .i64 4, .int .i32 0, .int .i64 0, .slice none 0 0, .int .i64 5, .int .i32 0, .int .i64 0, .slice none 0 0, .int .i64 0, .int .i32 3, .int .i64 0, .slice none 0 0, .int .i64 0, .int .i32 2, .int .i64 0, .slice none 0 0, .int .i64 4, .int .i32 0, .int .i64 1, .slice none 0 0, .int .i64 0, .int .i32 (-2), .int .i64 0, .slice none 0 0, .int .i64 4, .int .i32 0, .int .i64 0, .slice none 0 0, .int .i64 6, .int .i32 0, .int .i64 0, .slice none 0 0, .int .i64 0, .int .i32 (-2147483648), .int .i64 0, .slice none 0 0, .int .i64 0, .int .i32 0, .int .i64 0, .slice none 0 0, .int .i64 2, .int .i32 (-3), .int .i64 9223372036854775807, .slice none 0 0, .int .i64 6, .int .i32 0, .int .i64 0, .slice (some ⟨W.heap.size + 1 + 1 + 1 + 1, 0, none⟩) 1 1] 36)]
  have k0 := hnts_any [0, 1, 2, 3, 4, 5, 6, 3] (k 0 _ rfl) (by decide)
  have k1 := hnts_any [0, 1, 2, (-1)] (k 1 _ rfl) (by decide)
  have k2 := hnts_any [0, 1, 2] (k 2 _ rfl) (by decide)
  have k3 := hnts_any [5, 5, 5, 0] (k 3 _ rfl) (by decide)
  have k4 := hnts_any [1] (k 4 _ rfl) (by decide)
  have k5 := k 5 _ rfl
  have kn := hnts_nil (seqA W [(.cells #[.int .i64 0, .int .i64 1, .int .i64 2, .int .i64 3, .int .i64 4, .int .i64 5, .int .i64 6, .int .i64 3] 3),
      (.cells #[.int .i64 0, .int .i64 1, .int .i64 2, .int .i64 (-1)] 3),
      (.cells #[.int .i64 0, .int .i64 1, .int .i64 2] 3),
      (.cells #[.int .i64 5, .int .i64 5, .int .i64 5, .int .i64 0] 3),
      (.cells #[.int .i64 1] 3),
      (.cells #[.int .i64 2, .int .i32 1, .int .i64 (-1), .slice none 0 0, .int .i64 0, .int .i32 (-2), .int .i64 0, .slice none 0 0, .int .i64 2, .int .i32 3, .int .i64 7, .slice none 0 0, .int .i64 5, .int .i32 0, .int .i64 0, .slice none 0 0, .int .i64 5, .int .i32 0, .int .i64 0, .slice none 0 0, .int .i64 2, .int .i32 2, .int .i64 5, .slice none 0 0, .int .i64 0, .int .i32 4, .int .i64 0, .slice none 0 0, .int .i64 2, .int .i32 1, .int .i64 (-2), .slice none 0 0, .int .i64 2, .int .i32 9, .int .i64 (-2), .slice none 0 0, .int .i64 4, .int .i32 0, .int .i64 2, .slice none 0 0, .int .i64 4, .int .i32 0, .int .i64 (-1), .slice none 0 0, .int .i64 4, .int .i32 0, .int .i64 1, .slice none 0 0, .int .i64 6, .int .i32 0, .int .i64 0, .slice (some ⟨W.heap.size, 0, none⟩) 8 8, .int .i64 6, .int .i32 0, .int .i64 0, .slice (some ⟨W.heap.size + 1, 0, none⟩) 4 4, .int .i64 6, .int .i32 0, .int .i64 0, .slice (some ⟨W.heap.size + 1 + 1, 0, none⟩) 3 3, .int .i64 6, .int .i32 0, .int .i64 0, .slice (some ⟨W.heap.size + 1 + 1 + 1, 0, none⟩) 4 4, .int .i64 5, .int .i32 0, .int .i64 0, .slice none 0 0, .int .i64 5, .int .i32 0, .int .i64 0, .slice none 0 0, .int .i64 4, .int .i32 0, .int .i64 0, .slice none 0 0, .int .i64 5, .int .i32 0, .int .i64 0, .slice none 0 0, .int .i64 0, .int .i32 3, .int .i64 0, .slice none 0 0, .int .i64 0, .int .i32 2, .int .i64 0, .slice none 0 0, .int .i64 4, .int .i32 0, .int .i64 1, .slice none 0 0, .int .i64 0, .int .i32 (-2), .int .i64 0, .slice none 0 0, .int .i64 4, .int .i32 0, .int .i64 0, .slice none 0 0, .int .i64 6, .int .i32 0, .int .i64 0, .slice none 0 0, .int .i64 0, .int .i32 (-2147483648), .int .i64 0, .slice none 0 0, .int .i64 0, .int .i32 0, .int .i64 0, .slice none 0 0, .int .i64 2, .int .i32 (-3), .int .i64 9223372036854775807, .slice none 0 0, .int .i64 6, .int .i32 0, .int .i64 0, .slice (some ⟨W.heap.size + 1 + 1 + 1 + 1, 0, none⟩) 1 1] 36)])
  clear k
  generalize seqA W [(.cells #[.int .i64 0, .int .i64 1, .int .i64 2, .int .i64 3, .int .i64 4, .int .i64 5, .int .i64 6, .int .i64 3] 3),
      (.cells #[.int .i64 0, .int .i64 1, .int .i64 2, .int .i64 (-1)] 3),
      (.cells #[.int .i64 0, .int .i64 1, .int .i64 2] 3),
      (.cells #[.int .i64 5, .int .i64 5, .int .i64 5, .int .i64 0] 3),
      (.cells #[.int .i64 1] 3),
      (.cells #[.int .i64 2, .int .i32 1, .int .i64 (-1), .slice none 0 0, .int .i64 0, .int .i32 (-2), .int .i64 0, .slice none 0 0, .int .i64 2, .int .i32 3, .int .i64 7, .slice none 0 0, .int .i64 5, .int .i32 0, .int .i64 0, .slice none 0 0, .int .i64 5, .int .i32 0, .int .i64 0, .slice none 0 0, .int .i64 2, .int .i32 2, .int .i64 5, .slice none 0 0, .int .i64 0, .int .i32 4, .int .i64 0, .slice none 0 0, .int .i64 2, .int .i32 1, .int .i64 (-2), .slice none 0 0, .int .i64 2, .int .i32 9, .int .i64 (-2), .slice none 0 0, .int .i64 4, .int .i32 0, .int .i64 2, .slice none 0 0, .int .i64 4, .int .i32 0, .int .i64 (-1), .slice none 0 0, .int .i64 4, .int .i32 0, .int .i64 1, .slice none 0 0, .int .i64 6, .int .i32 0, .int .i64 0, .slice (some ⟨W.heap.size, 0, none⟩) 8 8, .int .i64 6, .int .i32 0, .int .i64 0, .slice (some ⟨W.heap.size + 1, 0, none⟩) 4 4, .int .i64 6, .int .i32 0, .int .i64 0, .slice (some ⟨W.heap.size + 1 + 1, 0, none⟩) 3 3, .int .i64 6, .int .i32 0, .int .i64 0, .slice (some ⟨W.heap.size + 1 + 1 + 1, 0, none⟩) 4 4, .int .i64 5, .int .i32 0, .int .i64 0, .slice none 0 0, .int .i64 5, .int .i32 0, .int .i64 0, .slice none 0 0, .int .i64 4, .int .i32 0, .int .i64 0, .slice none 0 0, .int .i64 5, .int .i32 0, .int .i64 0, .slice none 0 0, .int .i64 0, .int .i32 3, .int .i64 0, .slice none 0 0, .int .i64 0, .int .i32 2, .int .i64 0, .slice none 0 0, .int .i64 4, .int .i32 0, .int .i64 1, .slice none 0 0, .int .i64 0, .int .i32 (-2), .int .i64 0, .slice none 0 0, .int .i64 4, .int .i32 0, .int .i64 0, .slice none 0 0, .int .i64 6, .int .i32 0, .int .i64 0, .slice none 0 0, .int .i64 0, .int .i32 (-2147483648), .int .i64 0, .slice none 0 0, .int .i64 0, .int .i32 0, .int .i64 0, .slice none 0 0, .int .i64 2, .int .i32 (-3), .int .i64 9223372036854775807, .slice none 0 0, .int .i64 6, .int .i32 0, .int .i64 0, .slice (some ⟨W.heap.size + 1 + 1 + 1 + 1, 0, none⟩) 1 1] 36)] = A at *
  refine stps_any exRow [(none, 0), (none, 0), (none, 0), (none, 0), (none, 0), (none, 0), (none, 0), (none, 0), (none, 0), (none, 0), (none, 0), (none, 0), (some ⟨W.heap.size, 0, none⟩, 8), (some ⟨W.heap.size + 1, 0, none⟩, 4), (some ⟨W.heap.size + 1 + 1, 0, none⟩, 3), (some ⟨W.heap.size + 1 + 1 + 1, 0, none⟩, 4), (none, 0), (none, 0), (none, 0), (none, 0), (none, 0), (none, 0), (none, 0), (none, 0), (none, 0), (none, 0), (none, 0), (none, 0), (none, 0), (some ⟨W.heap.size + 1 + 1 + 1 + 1, 0, none⟩, 1)] k5 ?_
  simp only [exRow, RowO]
  refine ⟨⟨kn, by decide, ⟨by decide, by decide⟩, ⟨by decide, by decide⟩, ⟨by decide, by decide⟩⟩, ⟨kn, by decide, ⟨by decide, by decide⟩, ⟨by decide, by decide⟩, ⟨by decide, by decide⟩⟩, ⟨kn, by decide, ⟨by decide, by decide⟩, ⟨by decide, by decide⟩, ⟨by decide, by decide⟩⟩, ⟨kn, by decide, ⟨by decide, by decide⟩, ⟨by decide, by decide⟩, ⟨by decide, by decide⟩⟩, ⟨kn, by decide, ⟨by decide, by decide⟩, ⟨by decide, by decide⟩, ⟨by decide, by decide⟩⟩, ⟨kn, by decide, ⟨by decide, by decide⟩, ⟨by decide, by decide⟩, ⟨by decide, by decide⟩⟩, ⟨kn, by decide, ⟨by decide, by decide⟩, ⟨by decide, by decide⟩, ⟨by decide, by decide⟩⟩, ⟨kn, by decide, ⟨by decide, by decide⟩, ⟨by decide, by decide⟩, ⟨by decide, by decide⟩⟩, ⟨kn, by decide, ⟨by decide, by decide⟩, ⟨by decide, by decide⟩, ⟨by decide, by decide⟩⟩, ⟨kn, by decide, ⟨by decide, by decide⟩, ⟨by decide, by decide⟩, ⟨by decide, by decide⟩⟩, ⟨kn, by decide, ⟨by decide, by decide⟩, ⟨by decide, by decide⟩, ⟨by decide, by decide⟩⟩, ⟨kn, by decide, ⟨by decide, by decide⟩, ⟨by decide, by decide⟩, ⟨by decide, by decide⟩⟩, ⟨k0, by decide, ⟨by decide, by decide⟩, ⟨by decide, by decide⟩, ⟨by decide, by decide⟩⟩, ⟨k1, by decide, ⟨by decide, by decide⟩, ⟨by decide, by decide⟩, ⟨by decide, by decide⟩⟩, ⟨k2, by decide, ⟨by decide, by decide⟩, ⟨by decide, by decide⟩, ⟨by decide, by decide⟩⟩, ⟨k3, by decide, ⟨by decide, by decide⟩, ⟨by decide, by decide⟩, ⟨by decide, by decide⟩⟩, ⟨kn, by decide, ⟨by decide, by decide⟩, ⟨by decide, by decide⟩, ⟨by decide, by decide⟩⟩, ⟨kn, by decide, ⟨by decide, by decide⟩, ⟨by decide, by decide⟩, ⟨by decide, by decide⟩⟩, ⟨kn, by decide, ⟨by decide, by decide⟩, ⟨by decide, by decide⟩, ⟨by decide, by decide⟩⟩, ⟨kn, by decide, ⟨by decide, by decide⟩, ⟨by decide, by decide⟩, ⟨by decide, by decide⟩⟩, ⟨kn, by decide, ⟨by decide, by decide⟩, ⟨by decide, by decide⟩, ⟨by decide, by decide⟩⟩, ⟨kn, by decide, ⟨by decide, by decide⟩, ⟨by decide, by decide⟩, ⟨by decide, by decide⟩⟩, ⟨kn, by decide, ⟨by decide, by decide⟩, ⟨by decide, by decide⟩, ⟨by decide, by decide⟩⟩, ⟨kn, by decide, ⟨by decide, by decide⟩, ⟨by decide, by decide⟩, ⟨by decide, by decide⟩⟩, ⟨kn, by decide, ⟨by decide, by decide⟩, ⟨by decide, by decide⟩, ⟨by decide, by decide⟩⟩, ⟨kn, by decide, ⟨by decide, by decide⟩, ⟨by decide, by decide⟩, ⟨by decide, by decide⟩⟩, ⟨kn, by decide, ⟨by decide, by decide⟩, ⟨by decide, by decide⟩, ⟨by decide, by decide⟩⟩, ⟨kn, by decide, ⟨by decide, by decide⟩, ⟨by decide, by decide⟩, ⟨by decide, by decide⟩⟩, ⟨kn, by decide, ⟨by decide, by decide⟩, ⟨by decide, by decide⟩, ⟨by decide, by decide⟩⟩, ⟨k4, by decide, ⟨by decide, by decide⟩, ⟨by decide, by decide⟩, ⟨by decide, by decide⟩⟩, trivial⟩
end Go.Proofs.Ytckpahdlcdgbpaa
