/- The closed statement, as a call. -/
import Derived.Test.YtlhpnkgdnmnclaaDoorMods
import Derived.Test.YtlhpnkgdnmnclaaDoorBlanks
namespace Go.Proofs.YtlhpnkgdnmnclaaDoor
open Go.RowKit
set_option linter.unusedVariables false
set_option linter.unusedSimpArgs false

def isStr : Value → Bool
  | .string _ => true
  | _ => false
theorem str_at (cs : Array Value) (h : cs.toList.all isStr = true) (i : Nat) (hi : i < cs.size) : ∃ S, cs[i]? = some (.string S) := by
  have h1 : isStr cs[i] = true := List.all_eq_true.1 h _ (by simp)
  rw [Array.getElem?_eq_getElem hi]
  generalize cs[i] = v at h1
  cases v <;> first | (cases h1; done) | exact ⟨_, rfl⟩
theorem str_cells (w : World) (cs : Array Value) (h : cs.toList.all isStr = true) (i : Nat) (hi : i < cs.size) : ∃ S, (w.alloc (.cells cs 9)).cell? ⟨w.heap.size, i, none⟩ = some (.string S) := by
  rw [row_cell (World.alloc_heap_new w (.cells cs 9)) i]
  exact str_at cs h i hi

theorem cell_lt {W : World} {b i : Nat} {v : Value} (h : W.cell? ⟨b, i, none⟩ = some v) : b < W.heap.size := by
  rcases Nat.lt_or_ge b W.heap.size with h' | h'
  · exact h'
  · have hn : W.heap[b]? = none := Array.getElem?_eq_none h'
    simp [World.cell?, hn] at h
theorem nine (w : World) (j : Nat) (hj : j < 9) : ∃ n : Nat, n ≤ 200 ∧ (w.alloc (.cells #[.int .i64 0, .int .i64 1, .int .i64 9, .int .i64 25, .int .i64 26, .int .i64 27, .int .i64 28, .int .i64 99, .int .i64 200] 3)).cell? ⟨w.heap.size, j, none⟩ = some (.int .i64 n) := by
  rw [row_cell (World.alloc_heap_new w _) j]
  match j, hj with
  | 0, _ => exact ⟨0, by omega, rfl⟩
  | 1, _ => exact ⟨1, by omega, rfl⟩
  | 2, _ => exact ⟨9, by omega, rfl⟩
  | 3, _ => exact ⟨25, by omega, rfl⟩
  | 4, _ => exact ⟨26, by omega, rfl⟩
  | 5, _ => exact ⟨27, by omega, rfl⟩
  | 6, _ => exact ⟨28, by omega, rfl⟩
  | 7, _ => exact ⟨99, by omega, rfl⟩
  | 8, _ => exact ⟨200, by omega, rfl⟩
theorem four (w : World) (j : Nat) (hj : j < 4) : ∃ n : Int, (w.alloc (.cells #[.int .i64 (-1), .int .i64 0, .int .i64 2, .int .i64 1048577] 3)).cell? ⟨w.heap.size, j, none⟩ = some (.int .i64 n) := by
  rw [row_cell (World.alloc_heap_new w _) j]
  match j, hj with
  | 0, _ => exact ⟨_, rfl⟩
  | 1, _ => exact ⟨_, rfl⟩
  | 2, _ => exact ⟨_, rfl⟩
  | 3, _ => exact ⟨_, rfl⟩
/-- A model's block while it is filled. -/
structure MBl (mb : Nat) (w : World) (n : Nat) (ms : List Bool) (W : World) : Prop where
  len : ms.length = n
  blk : W.heap[mb]? = some (.cells (ms.map Value.bool).toArray 4 (0, 0))
  below : Below w.heap.size w W
theorem MBl.set {mb : Nat} {w : World} {n : Nat} {ms : List Bool} {W : World} (h : MBl mb w n ms W) (hm : w.heap.size ≤ mb) (k : Nat) (b : Bool) : MBl mb w n (ms.set k b) (W.setCell ⟨mb, k, none⟩ (.bool b)) := by
  refine ⟨by simp [h.len], ?_, h.below.setCell hm _⟩
  have := heap_set_row (k := k) h.blk (.bool b)
  rw [this]
  simp [List.map_set]
theorem MBl.bools {mb : Nat} {w : World} {n : Nat} {ms : List Bool} {W : World} (h : MBl mb w n ms W) : Bools W (some ⟨mb, 0, none⟩) ms := by
  refine .inr ⟨mb, 0, rfl, (Array.getElem?_eq_some_iff.1 h.blk).1, fun j hj => ?_⟩
  rw [Nat.zero_add, row_cell h.blk j]
  simp [List.getD, List.getElem?_eq_getElem hj]
theorem Lits.alloc {W : World} {a : Option Addr} {xs : List Int} (h : Lits W a xs) (o : Obj) : Lits (W.alloc o) a xs := h.below (below_box _ _)
theorem row3 (W : World) (n : Nat) (hn : n ≤ 200) :
    Cls ((((W.alloc (.cells #[.int .i32 n] 50)).alloc (.cells #[] 50)).alloc (.cells #[.int .i32 (-1), .int .i32 1] 50)).alloc (.cells #[.slice (some ⟨W.heap.size, 0, none⟩) 1 1, .slice (some ⟨W.heap.size + 1, 0, none⟩) 0 0, .slice (some ⟨W.heap.size + 1 + 1, 0, none⟩) 2 2] 52)) (some ⟨W.heap.size + 1 + 1 + 1, 0, none⟩) [[(n : Int)], [], [-1, 1]] ∧
    Below W.heap.size W ((((W.alloc (.cells #[.int .i32 n] 50)).alloc (.cells #[] 50)).alloc (.cells #[.int .i32 (-1), .int .i32 1] 50)).alloc (.cells #[.slice (some ⟨W.heap.size, 0, none⟩) 1 1, .slice (some ⟨W.heap.size + 1, 0, none⟩) 0 0, .slice (some ⟨W.heap.size + 1 + 1, 0, none⟩) 2 2] 52)) := by
  obtain ⟨W1, h1⟩ : ∃ W1, W.alloc (.cells #[.int .i32 n] 50) = W1 := ⟨_, rfl⟩
  have z1 : W1.heap.size = W.heap.size + 1 := by rw [← h1]; simp
  have b1 : Below W.heap.size W W1 := by rw [← h1]; exact below_box _ _
  have l1 : Lits W1 (some ⟨W.heap.size, 0, none⟩) [(n : Int)] := ⟨(fun x hx => by rw [List.mem_singleton] at hx; subst hx; omega), .inr ⟨W.heap.size, 0, rfl, by omega, fun j hj => by
    obtain rfl : j = 0 := by simp at hj; omega
    rw [← h1, row_cell (World.alloc_heap_new _ _)]; rfl⟩⟩
  obtain ⟨W2, h2⟩ : ∃ W2, W1.alloc (.cells #[] 50) = W2 := ⟨_, rfl⟩
  have z2 : W2.heap.size = W.heap.size + 1 + 1 := by rw [← h2]; simp [z1]
  have b2 : Below W.heap.size W W2 := by rw [← h2]; exact b1.alloc (by omega) _
  have l2 : Lits W2 (some ⟨W.heap.size, 0, none⟩) [(n : Int)] := by rw [← h2]; exact l1.alloc _
  obtain ⟨W3, h3⟩ : ∃ W3, W2.alloc (.cells #[.int .i32 (-1), .int .i32 1] 50) = W3 := ⟨_, rfl⟩
  have z3 : W3.heap.size = W.heap.size + 1 + 1 + 1 := by rw [← h3]; simp [z2]
  have b3 : Below W.heap.size W W3 := by rw [← h3]; exact b2.alloc (by omega) _
  have l3 : Lits W3 (some ⟨W.heap.size, 0, none⟩) [(n : Int)] := by rw [← h3]; exact l2.alloc _
  have m3 : Lits W3 (some ⟨W.heap.size + 1 + 1, 0, none⟩) [-1, 1] := ⟨by decide, .inr ⟨W.heap.size + 1 + 1, 0, rfl, by omega, fun j hj => by
    rw [← h3, ← z2, row_cell (World.alloc_heap_new _ _)]
    match j, hj with
    | 0, _ => rfl
    | 1, _ => rfl⟩⟩
  rw [h1, h2, h3]
  refine ⟨⟨by intro c hc; simp at hc; rcases hc with rfl | rfl | rfl <;> simp, .inr ⟨W.heap.size + 1 + 1 + 1, 0, rfl, by simp [z3], fun j hj => ?_⟩⟩, b3.alloc (by omega) _⟩
  rw [← z3, row_cell (World.alloc_heap_new _ _)]
  match j, hj with
  | 0, _ => exact ⟨_, _, rfl, l3.alloc _⟩
  | 1, _ => exact ⟨_, _, rfl, (fun x hx => by cases hx), .inl rfl⟩
  | 2, _ => exact ⟨_, _, rfl, m3.alloc _⟩
theorem row2 (W : World) : Cls (W.alloc (.cells #[.slice none 0 0, .slice none 0 0] 52)) (some ⟨W.heap.size, 0, none⟩) [[], []] := by
  refine ⟨by intro c hc; simp at hc; subst hc; simp, .inr ⟨W.heap.size, 0, rfl, by simp, fun j hj => ?_⟩⟩
  rw [row_cell (World.alloc_heap_new _ _)]
  match j, hj with
  | 0, _ => exact ⟨_, _, rfl, (fun x hx => by cases hx), .inl rfl⟩
  | 1, _ => exact ⟨_, _, rfl, (fun x hx => by cases hx), .inl rfl⟩
theorem tab_on {w W : World} (h : Below w.heap.size w W) (htab : Lib.TabBelow Tryd.prog w.heap.size w "internal/strconv.uint64pow10" .u64 Lib.pow10Tab) : Lib.TabBelow Tryd.prog W.heap.size W "internal/strconv.uint64pow10" .u64 Lib.pow10Tab :=
  fun w' hw => htab w' (h.trans (hw.mono h.size))
theorem law7' (S R : ByteArray) (w : World) (htab : Lib.TabBelow Tryd.prog w.heap.size w "internal/strconv.uint64pow10" .u64 Lib.pow10Tab) :
    Calls Tryd.prog 7 #[.string S, .string R] w fun e w' => e = .returned (.bool true) ∧ Below w.heap.size w w' := by
  by_cases h1 : (3000 : Int) < S.size
  · clear htab
    go_enter Tryd.func7, Tryd.ntmps7
    go_wp2
    go_ret
    exact ⟨rfl, Below.refl _ _⟩
  · by_cases h2 : (3000 : Int) < R.size
    · clear htab
      go_enter Tryd.func7, Tryd.ntmps7
      go_wp2
      go_ret
      exact ⟨rfl, Below.refl _ _⟩
    · exact law7 S R w (by omega) (by omega) htab

set_option maxRecDepth 100000 in
set_option maxHeartbeats 4000000 in
theorem law8 (w : World) (htab : Lib.TabBelow Tryd.prog w.heap.size w "internal/strconv.uint64pow10" .u64 Lib.pow10Tab) :
    Calls Tryd.prog 8 #[] w fun e w' => e = .returned (.bool true) ∧ Below w.heap.size w w' := by
  have HT := hid htab
  clear htab
  have HS := hid (fun i (hi : i < 49) => str_cells w #[.string ⟨#[]⟩, .string ⟨#[99]⟩, .string ⟨#[99, 10]⟩, .string ⟨#[10, 10]⟩, .string ⟨#[112]⟩, .string ⟨#[112, 32, 99, 110, 102]⟩, .string ⟨#[112, 32, 99, 110, 102, 32, 49]⟩, .string ⟨#[112, 32, 99, 110, 102, 32, 49, 32, 49]⟩, .string ⟨#[112, 32, 99, 110, 102, 32, 49, 32, 49, 32, 49]⟩, .string ⟨#[112, 32, 99, 110, 102, 32, 45, 49, 32, 49]⟩, .string ⟨#[112, 32, 99, 110, 102, 32, 48, 49, 32, 49]⟩, .string ⟨#[112, 32, 99, 110, 102, 32, 48, 32, 48]⟩, .string ⟨#[112, 32, 99, 110, 102, 32, 48, 32, 48, 10, 48]⟩, .string ⟨#[112, 32, 100, 110, 102, 32, 49, 32, 49]⟩, .string ⟨#[80, 32, 99, 110, 102, 32, 49, 32, 49]⟩, .string ⟨#[32, 112, 32, 99, 110, 102, 32, 50, 32, 49, 10, 49, 32, 48]⟩, .string ⟨#[9, 112, 9, 99, 110, 102, 9, 50, 13, 49, 13, 10, 49, 13, 48, 10]⟩, .string ⟨#[112, 32, 99, 110, 102, 32, 50, 32, 49, 10, 49]⟩, .string ⟨#[112, 32, 99, 110, 102, 32, 50, 32, 49, 10, 49, 10]⟩, .string ⟨#[112, 32, 99, 110, 102, 32, 50, 32, 50, 10, 49, 32, 48, 10]⟩, .string ⟨#[112, 32, 99, 110, 102, 32, 50, 32, 49, 10, 51, 32, 48]⟩, .string ⟨#[112, 32, 99, 110, 102, 32, 50, 32, 49, 10, 45, 51, 32, 48]⟩, .string ⟨#[112, 32, 99, 110, 102, 32, 50, 32, 49, 10, 49, 32, 48, 32, 50, 32, 48]⟩, .string ⟨#[112, 32, 99, 110, 102, 32, 50, 32, 49, 10, 49, 32, 48, 10, 10, 50]⟩, .string ⟨#[112, 32, 99, 110, 102, 32, 50, 32, 49, 10, 48, 49, 32, 48]⟩, .string ⟨#[112, 32, 99, 110, 102, 32, 50, 32, 49, 10, 45, 48, 32, 48]⟩, .string ⟨#[112, 32, 99, 110, 102, 32, 50, 32, 49, 10, 45, 32, 48]⟩, .string ⟨#[112, 32, 99, 110, 102, 32, 50, 32, 49, 10, 45, 45, 49, 32, 48]⟩, .string ⟨#[112, 32, 99, 110, 102, 32, 50, 32, 49, 10, 43, 49, 32, 48]⟩, .string ⟨#[112, 32, 99, 110, 102, 32, 50, 32, 49, 10, 49, 32, 48, 32, 120]⟩, .string ⟨#[112, 32, 99, 110, 102, 32, 50, 32, 49, 10, 49, 32, 48, 120]⟩, .string ⟨#[112, 32, 99, 110, 102, 32, 50, 32, 50, 10, 49, 32, 45, 50, 32, 48, 32, 50, 10, 48]⟩, .string ⟨#[112, 32, 99, 110, 102, 32, 50, 32, 49, 10, 99, 32, 57, 10, 32, 49, 32, 48]⟩, .string ⟨#[112, 32, 99, 110, 102, 32, 50, 32, 49, 10, 32, 99, 32, 57, 10, 49, 32, 48]⟩, .string ⟨#[112, 32, 99, 110, 102, 32, 50, 32, 49, 32, 99, 10, 49, 32, 48]⟩, .string ⟨#[112, 32, 99, 110, 102, 32, 49, 48, 52, 56, 53, 55, 54, 32, 49, 10, 45, 49, 48, 52, 56, 53, 55, 54, 32, 48]⟩, .string ⟨#[112, 32, 99, 110, 102, 32, 49, 48, 52, 56, 53, 55, 55, 32, 49, 10, 49, 32, 48]⟩, .string ⟨#[112, 32, 99, 110, 102, 32, 49, 32, 49, 48, 52, 56, 53, 55, 55, 10, 49, 32, 48]⟩, .string ⟨#[112, 32, 99, 110, 102, 32, 57, 57, 57, 57, 57, 57, 57, 57, 57, 57, 57, 57, 57, 57, 57, 57, 57, 57, 57, 57, 32, 49, 10]⟩, .string ⟨#[112, 32, 99, 110, 102, 32, 49, 32, 57, 57, 57, 57, 57, 57, 57, 57, 57, 57, 57, 57, 57, 57, 57, 57, 57, 57, 57, 57, 10]⟩, .string ⟨#[112, 32, 99, 110, 102, 32, 50, 32, 49, 10, 57, 57, 57, 57, 57, 57, 57, 57, 57, 57, 57, 57, 57, 57, 57, 57, 57, 57, 57, 57, 32, 48]⟩, .string ⟨#[112, 32, 99, 110, 102, 32, 50, 32, 49, 10, 45, 57, 57, 57, 57, 57, 57, 57, 57, 57, 57, 57, 57, 57, 57, 57, 57, 57, 57, 57, 57, 32, 48]⟩, .string ⟨#[112, 32, 99, 110, 102, 32, 50, 32, 48, 10, 10, 32, 99, 10]⟩, .string ⟨#[112, 32, 99, 110, 102, 32, 50, 32, 48, 10, 49]⟩, .string ⟨#[112, 32, 99, 110, 102, 32, 50, 32, 51, 10, 48, 32, 48, 32, 48]⟩, .string ⟨#[112, 32, 99, 110, 102, 32, 50, 32, 49, 10, 49, 11, 48]⟩, .string ⟨#[112, 32, 99, 110, 102, 32, 50, 32, 49, 10, 49, 32, 255, 32, 48]⟩, .string ⟨#[112, 32, 99, 110, 102, 10, 50, 32, 49, 10, 49, 32, 48]⟩, .string ⟨#[112, 32, 99, 110, 102, 32, 50, 32, 49, 10, 112, 32, 99, 110, 102, 32, 50, 32, 49, 10]⟩] (by rfl) i hi)
  have HB := hid (below_box w (.cells #[.string ⟨#[]⟩, .string ⟨#[99]⟩, .string ⟨#[99, 10]⟩, .string ⟨#[10, 10]⟩, .string ⟨#[112]⟩, .string ⟨#[112, 32, 99, 110, 102]⟩, .string ⟨#[112, 32, 99, 110, 102, 32, 49]⟩, .string ⟨#[112, 32, 99, 110, 102, 32, 49, 32, 49]⟩, .string ⟨#[112, 32, 99, 110, 102, 32, 49, 32, 49, 32, 49]⟩, .string ⟨#[112, 32, 99, 110, 102, 32, 45, 49, 32, 49]⟩, .string ⟨#[112, 32, 99, 110, 102, 32, 48, 49, 32, 49]⟩, .string ⟨#[112, 32, 99, 110, 102, 32, 48, 32, 48]⟩, .string ⟨#[112, 32, 99, 110, 102, 32, 48, 32, 48, 10, 48]⟩, .string ⟨#[112, 32, 100, 110, 102, 32, 49, 32, 49]⟩, .string ⟨#[80, 32, 99, 110, 102, 32, 49, 32, 49]⟩, .string ⟨#[32, 112, 32, 99, 110, 102, 32, 50, 32, 49, 10, 49, 32, 48]⟩, .string ⟨#[9, 112, 9, 99, 110, 102, 9, 50, 13, 49, 13, 10, 49, 13, 48, 10]⟩, .string ⟨#[112, 32, 99, 110, 102, 32, 50, 32, 49, 10, 49]⟩, .string ⟨#[112, 32, 99, 110, 102, 32, 50, 32, 49, 10, 49, 10]⟩, .string ⟨#[112, 32, 99, 110, 102, 32, 50, 32, 50, 10, 49, 32, 48, 10]⟩, .string ⟨#[112, 32, 99, 110, 102, 32, 50, 32, 49, 10, 51, 32, 48]⟩, .string ⟨#[112, 32, 99, 110, 102, 32, 50, 32, 49, 10, 45, 51, 32, 48]⟩, .string ⟨#[112, 32, 99, 110, 102, 32, 50, 32, 49, 10, 49, 32, 48, 32, 50, 32, 48]⟩, .string ⟨#[112, 32, 99, 110, 102, 32, 50, 32, 49, 10, 49, 32, 48, 10, 10, 50]⟩, .string ⟨#[112, 32, 99, 110, 102, 32, 50, 32, 49, 10, 48, 49, 32, 48]⟩, .string ⟨#[112, 32, 99, 110, 102, 32, 50, 32, 49, 10, 45, 48, 32, 48]⟩, .string ⟨#[112, 32, 99, 110, 102, 32, 50, 32, 49, 10, 45, 32, 48]⟩, .string ⟨#[112, 32, 99, 110, 102, 32, 50, 32, 49, 10, 45, 45, 49, 32, 48]⟩, .string ⟨#[112, 32, 99, 110, 102, 32, 50, 32, 49, 10, 43, 49, 32, 48]⟩, .string ⟨#[112, 32, 99, 110, 102, 32, 50, 32, 49, 10, 49, 32, 48, 32, 120]⟩, .string ⟨#[112, 32, 99, 110, 102, 32, 50, 32, 49, 10, 49, 32, 48, 120]⟩, .string ⟨#[112, 32, 99, 110, 102, 32, 50, 32, 50, 10, 49, 32, 45, 50, 32, 48, 32, 50, 10, 48]⟩, .string ⟨#[112, 32, 99, 110, 102, 32, 50, 32, 49, 10, 99, 32, 57, 10, 32, 49, 32, 48]⟩, .string ⟨#[112, 32, 99, 110, 102, 32, 50, 32, 49, 10, 32, 99, 32, 57, 10, 49, 32, 48]⟩, .string ⟨#[112, 32, 99, 110, 102, 32, 50, 32, 49, 32, 99, 10, 49, 32, 48]⟩, .string ⟨#[112, 32, 99, 110, 102, 32, 49, 48, 52, 56, 53, 55, 54, 32, 49, 10, 45, 49, 48, 52, 56, 53, 55, 54, 32, 48]⟩, .string ⟨#[112, 32, 99, 110, 102, 32, 49, 48, 52, 56, 53, 55, 55, 32, 49, 10, 49, 32, 48]⟩, .string ⟨#[112, 32, 99, 110, 102, 32, 49, 32, 49, 48, 52, 56, 53, 55, 55, 10, 49, 32, 48]⟩, .string ⟨#[112, 32, 99, 110, 102, 32, 57, 57, 57, 57, 57, 57, 57, 57, 57, 57, 57, 57, 57, 57, 57, 57, 57, 57, 57, 57, 32, 49, 10]⟩, .string ⟨#[112, 32, 99, 110, 102, 32, 49, 32, 57, 57, 57, 57, 57, 57, 57, 57, 57, 57, 57, 57, 57, 57, 57, 57, 57, 57, 57, 57, 10]⟩, .string ⟨#[112, 32, 99, 110, 102, 32, 50, 32, 49, 10, 57, 57, 57, 57, 57, 57, 57, 57, 57, 57, 57, 57, 57, 57, 57, 57, 57, 57, 57, 57, 32, 48]⟩, .string ⟨#[112, 32, 99, 110, 102, 32, 50, 32, 49, 10, 45, 57, 57, 57, 57, 57, 57, 57, 57, 57, 57, 57, 57, 57, 57, 57, 57, 57, 57, 57, 57, 32, 48]⟩, .string ⟨#[112, 32, 99, 110, 102, 32, 50, 32, 48, 10, 10, 32, 99, 10]⟩, .string ⟨#[112, 32, 99, 110, 102, 32, 50, 32, 48, 10, 49]⟩, .string ⟨#[112, 32, 99, 110, 102, 32, 50, 32, 51, 10, 48, 32, 48, 32, 48]⟩, .string ⟨#[112, 32, 99, 110, 102, 32, 50, 32, 49, 10, 49, 11, 48]⟩, .string ⟨#[112, 32, 99, 110, 102, 32, 50, 32, 49, 10, 49, 32, 255, 32, 48]⟩, .string ⟨#[112, 32, 99, 110, 102, 10, 50, 32, 49, 10, 49, 32, 48]⟩, .string ⟨#[112, 32, 99, 110, 102, 32, 50, 32, 49, 10, 112, 32, 99, 110, 102, 32, 50, 32, 49, 10]⟩] 9))
  go_enter Tryd.func8, Tryd.ntmps8
  go_wp2
  generalize w.alloc (.cells #[.string ⟨#[]⟩, .string ⟨#[99]⟩, .string ⟨#[99, 10]⟩, .string ⟨#[10, 10]⟩, .string ⟨#[112]⟩, .string ⟨#[112, 32, 99, 110, 102]⟩, .string ⟨#[112, 32, 99, 110, 102, 32, 49]⟩, .string ⟨#[112, 32, 99, 110, 102, 32, 49, 32, 49]⟩, .string ⟨#[112, 32, 99, 110, 102, 32, 49, 32, 49, 32, 49]⟩, .string ⟨#[112, 32, 99, 110, 102, 32, 45, 49, 32, 49]⟩, .string ⟨#[112, 32, 99, 110, 102, 32, 48, 49, 32, 49]⟩, .string ⟨#[112, 32, 99, 110, 102, 32, 48, 32, 48]⟩, .string ⟨#[112, 32, 99, 110, 102, 32, 48, 32, 48, 10, 48]⟩, .string ⟨#[112, 32, 100, 110, 102, 32, 49, 32, 49]⟩, .string ⟨#[80, 32, 99, 110, 102, 32, 49, 32, 49]⟩, .string ⟨#[32, 112, 32, 99, 110, 102, 32, 50, 32, 49, 10, 49, 32, 48]⟩, .string ⟨#[9, 112, 9, 99, 110, 102, 9, 50, 13, 49, 13, 10, 49, 13, 48, 10]⟩, .string ⟨#[112, 32, 99, 110, 102, 32, 50, 32, 49, 10, 49]⟩, .string ⟨#[112, 32, 99, 110, 102, 32, 50, 32, 49, 10, 49, 10]⟩, .string ⟨#[112, 32, 99, 110, 102, 32, 50, 32, 50, 10, 49, 32, 48, 10]⟩, .string ⟨#[112, 32, 99, 110, 102, 32, 50, 32, 49, 10, 51, 32, 48]⟩, .string ⟨#[112, 32, 99, 110, 102, 32, 50, 32, 49, 10, 45, 51, 32, 48]⟩, .string ⟨#[112, 32, 99, 110, 102, 32, 50, 32, 49, 10, 49, 32, 48, 32, 50, 32, 48]⟩, .string ⟨#[112, 32, 99, 110, 102, 32, 50, 32, 49, 10, 49, 32, 48, 10, 10, 50]⟩, .string ⟨#[112, 32, 99, 110, 102, 32, 50, 32, 49, 10, 48, 49, 32, 48]⟩, .string ⟨#[112, 32, 99, 110, 102, 32, 50, 32, 49, 10, 45, 48, 32, 48]⟩, .string ⟨#[112, 32, 99, 110, 102, 32, 50, 32, 49, 10, 45, 32, 48]⟩, .string ⟨#[112, 32, 99, 110, 102, 32, 50, 32, 49, 10, 45, 45, 49, 32, 48]⟩, .string ⟨#[112, 32, 99, 110, 102, 32, 50, 32, 49, 10, 43, 49, 32, 48]⟩, .string ⟨#[112, 32, 99, 110, 102, 32, 50, 32, 49, 10, 49, 32, 48, 32, 120]⟩, .string ⟨#[112, 32, 99, 110, 102, 32, 50, 32, 49, 10, 49, 32, 48, 120]⟩, .string ⟨#[112, 32, 99, 110, 102, 32, 50, 32, 50, 10, 49, 32, 45, 50, 32, 48, 32, 50, 10, 48]⟩, .string ⟨#[112, 32, 99, 110, 102, 32, 50, 32, 49, 10, 99, 32, 57, 10, 32, 49, 32, 48]⟩, .string ⟨#[112, 32, 99, 110, 102, 32, 50, 32, 49, 10, 32, 99, 32, 57, 10, 49, 32, 48]⟩, .string ⟨#[112, 32, 99, 110, 102, 32, 50, 32, 49, 32, 99, 10, 49, 32, 48]⟩, .string ⟨#[112, 32, 99, 110, 102, 32, 49, 48, 52, 56, 53, 55, 54, 32, 49, 10, 45, 49, 48, 52, 56, 53, 55, 54, 32, 48]⟩, .string ⟨#[112, 32, 99, 110, 102, 32, 49, 48, 52, 56, 53, 55, 55, 32, 49, 10, 49, 32, 48]⟩, .string ⟨#[112, 32, 99, 110, 102, 32, 49, 32, 49, 48, 52, 56, 53, 55, 55, 10, 49, 32, 48]⟩, .string ⟨#[112, 32, 99, 110, 102, 32, 57, 57, 57, 57, 57, 57, 57, 57, 57, 57, 57, 57, 57, 57, 57, 57, 57, 57, 57, 57, 32, 49, 10]⟩, .string ⟨#[112, 32, 99, 110, 102, 32, 49, 32, 57, 57, 57, 57, 57, 57, 57, 57, 57, 57, 57, 57, 57, 57, 57, 57, 57, 57, 57, 57, 10]⟩, .string ⟨#[112, 32, 99, 110, 102, 32, 50, 32, 49, 10, 57, 57, 57, 57, 57, 57, 57, 57, 57, 57, 57, 57, 57, 57, 57, 57, 57, 57, 57, 57, 32, 48]⟩, .string ⟨#[112, 32, 99, 110, 102, 32, 50, 32, 49, 10, 45, 57, 57, 57, 57, 57, 57, 57, 57, 57, 57, 57, 57, 57, 57, 57, 57, 57, 57, 57, 57, 32, 48]⟩, .string ⟨#[112, 32, 99, 110, 102, 32, 50, 32, 48, 10, 10, 32, 99, 10]⟩, .string ⟨#[112, 32, 99, 110, 102, 32, 50, 32, 48, 10, 49]⟩, .string ⟨#[112, 32, 99, 110, 102, 32, 50, 32, 51, 10, 48, 32, 48, 32, 48]⟩, .string ⟨#[112, 32, 99, 110, 102, 32, 50, 32, 49, 10, 49, 11, 48]⟩, .string ⟨#[112, 32, 99, 110, 102, 32, 50, 32, 49, 10, 49, 32, 255, 32, 48]⟩, .string ⟨#[112, 32, 99, 110, 102, 10, 50, 32, 49, 10, 49, 32, 48]⟩, .string ⟨#[112, 32, 99, 110, 102, 32, 50, 32, 49, 10, 112, 32, 99, 110, 102, 32, 50, 32, 49, 10]⟩] 9) = W1 at HS HB
  have HD7 := hid (show ∀ (S : ByteArray) (W : World), Below w.heap.size w W → Calls Tryd.prog 7 #[.string S, .string ⟨#[48, 32, 112, 32, 99, 110, 102]⟩] W fun e w' => e = .returned (.bool true) ∧ Below W.heap.size W w' from fun S W h => law7' S _ W (tab_on h HT.out))
  have HD3 := hid (show ∀ (S : ByteArray) (W : World), Below w.heap.size w W → Calls Tryd.prog 3 #[.string S] W fun e w' => e = .returned (.bool true) ∧ Below W.heap.size W w' from fun S W h => law3 S W (tab_on h HT.out))
  have HD6 := hid (show ∀ (S : ByteArray) (W : World), Below w.heap.size w W → Calls Tryd.prog 6 #[.agg #[.int .i64 0, .slice none 0 0], .string S, .slice none 0 0] W fun e w' => e = .returned (.bool true) ∧ Below W.heap.size W w' from fun S W h => law6 0 none none 0 0 0 0 [] S [] W rfl (by omega) (Cls.nil _ _) rfl (bools_nil _ _) (tab_on h HT.out))
  go_loopw [2] (fun iv wr => ∃ k : Nat, iv = .int .i64 k ∧ k ≤ 49 ∧ Hid (Below W1.heap.size W1 wr)) (fun iv _ => 49 - (intOf iv).toNat)
  case atStart => exact ⟨0, rfl, by omega, hid (Below.refl _ _)⟩
  case round =>
    obtain ⟨k, rfl, hk, HW⟩ := hrel
    by_cases hlt : k < 49
    · have hlt' : (k : Int) < 49 := by omega
      obtain ⟨S, hS⟩ := HS.out k hlt
      have hin : w.heap.size < W1.heap.size := cell_lt hS
      have HC := hid (fun (W : World) (h : Below W1.heap.size W1 W) => (h.cell (p := ⟨w.heap.size, k, none⟩) hin).trans hS)
      have c0 := HC.out wr HW.out
      have C3 := hid (HD3.out S wr (HB.out.trans (HW.out.mono HB.out.size)))
      clear hS
      go_wp2_with (first
        | (go_at_call 3; refine C3.out.mono ?_; clear C3; rintro e W3 ⟨rfl, hb3⟩
           have hB3 := HW.out.trans (hb3.mono HW.out.size)
           have C6 := hid (HD6.out S W3 (HB.out.trans (hB3.mono HB.out.size)))
           clear c0
           have c0 := HC.out W3 hB3
           have HB3 := hid hB3
           clear hb3 hB3)
        | (go_at_call 6; refine C6.out.mono ?_; clear C6; rintro e W4 ⟨rfl, hb4⟩
           have hB4 := HB3.out.trans (hb4.mono HB3.out.size)
           have C7 := hid (HD7.out S W4 (HB.out.trans (hB4.mono HB.out.size)))
           clear c0
           have c0 := HC.out W4 hB4
           have HB4 := hid hB4
           clear hb4 hB4)
        | (go_at_call 7; refine C7.out.mono ?_; clear C7; rintro e W5 ⟨rfl, hb5⟩
           have HB5 := hid (HB4.out.trans (hb5.mono HB4.out.size))
           clear hb5))
      go_roundw
      case rel => exact ⟨k + 1, by go_num, by omega, HB5⟩
      case measure => simp [intOf]; omega
    · have hlt' : ¬ (k : Int) < 49 := by omega
      have HBW := hid (HB.out.trans (HW.out.mono HB.out.size))
      clear HW HS HB HD3 HD6 HD7
      go_wp2
      have HN9 := hid (fun j (hj : j < 9) => nine wr j hj)
      have HB6 := hid (HBW.out.trans ((below_box wr (.cells #[.int .i64 0, .int .i64 1, .int .i64 9, .int .i64 25, .int .i64 26, .int .i64 27, .int .i64 28, .int .i64 99, .int .i64 200] 3)).mono HBW.out.size))
      generalize wr.alloc (.cells #[.int .i64 0, .int .i64 1, .int .i64 9, .int .i64 25, .int .i64 26, .int .i64 27, .int .i64 28, .int .i64 99, .int .i64 200] 3) = W6 at HN9 HB6
      generalize wr.heap.size = bb at HN9 ⊢
      clear HBW
      go_loopw [44] (fun iv wr => ∃ j : Nat, iv = .int .i64 j ∧ j ≤ 9 ∧ Hid (Below W6.heap.size W6 wr)) (fun iv _ => 9 - (intOf iv).toNat)
      case atStart => exact ⟨0, rfl, by omega, hid (Below.refl _ _)⟩
      case round =>
        obtain ⟨j, rfl, hj, HW⟩ := hrel
        by_cases hj9 : j < 9
        · have hj9' : (j : Int) < 9 := by omega
          obtain ⟨n, hn, hc⟩ := HN9.out j hj9
          have c0 := (HW.out.cell (p := ⟨bb, j, none⟩) (cell_lt hc)).trans hc
          clear hc
          have mk := run_make_bools wr n (by omega)
          have hM0 : MBl wr.heap.size W6 n (List.replicate n false) (wr.alloc (.cells (List.replicate n (Value.bool false)).toArray 4)) := ⟨by simp, by rw [World.alloc_heap_new]; simp, HW.out.trans ((below_box _ _).mono HW.out.size)⟩
          have HMZ := hid HW.out.size
          generalize wr.alloc (.cells (List.replicate n (Value.bool false)).toArray 4) = WM at mk hM0
          have HM0 := hid hM0
          generalize wr.heap.size = mb at mk HM0 HMZ
          clear hM0 HW
          go_wp2
          clear c0 mk
          go_loopw [6] (fun iv wm => ∃ (k : Nat) (ms : List Bool), iv = .int .i64 k ∧ k ≤ n ∧ Hid (MBl mb W6 n ms wm)) (fun iv _ => n - (intOf iv).toNat)
          case atStart => exact ⟨0, _, rfl, by omega, HM0⟩
          case round =>
            clear HM0
            obtain ⟨k, ms, rfl, hk, HM⟩ := hrel
            by_cases hkn : k < n
            · have hkn' : (k : Int) < n := by omega
              have hcell : wr.cell? ⟨mb, k, none⟩ = some (.bool (ms.getD k false)) := by
                have := HM.out.len
                rw [row_cell HM.out.blk k]
                simp [List.getD, List.getElem?_eq_getElem (show k < ms.length by omega)]
              have hfr := row_frozen HM.out.blk k
              go_wp2
              go_roundw
              case rel => exact ⟨k + 1, _, by go_num, by omega, hid (HM.out.set HMZ.out k _)⟩
              case measure => simp [intOf]; omega
            · have hkn' : ¬ (k : Int) < n := by omega
              have HBm := hid (HB6.out.trans (HM.out.below.mono HB6.out.size))
              have C16 := hid (values16 (some ⟨mb, 0, none⟩) n n ms wr HM.out.len (by omega) HM.out.bools (tab_on HBm.out HT.out))
              rw [show (⟨(Dim.valuesB ms).toArray⟩ : ByteArray) = bstr (Dim.valuesB ms) from rfl] at C16
              have hVS := valuesB_len ms (by rw [HM.out.len]; omega)
              generalize bstr (Dim.valuesB ms) = VS at C16 hVS
              go_wp2_with (first
                | (go_at_call 16; refine C16.out.mono ?_; clear C16; rintro e W8 ⟨rfl, hb8⟩
                   obtain ⟨hcl, hbl⟩ := row3 W8 n hn
                   have hB8 := hb8.trans (hbl.mono hb8.size)
                   have C4 := hid (law4 n (some ⟨W8.heap.size + 1 + 1 + 1, 0, none⟩) (some ⟨mb, 0, none⟩) 3 3 n n [[(n : Int)], [], [-1, 1]] ms _ rfl (by omega) hcl HM.out.len (HM.out.bools.below hB8) (tab_on (HBm.out.trans (hB8.mono HBm.out.size)) HT.out))
                   have HB8 := hid hB8
                   clear hb8 hcl hbl hB8)
                | (go_at_call 4; refine C4.out.mono ?_; clear C4; rintro e W9 ⟨rfl, hb9⟩
                   have hB9 := HB8.out.trans (hb9.mono HB8.out.size)
                   have C5 := hid (law5 VS n W9 (tab_on (HBm.out.trans (hB9.mono HBm.out.size)) HT.out))
                   have HB9 := hid hB9
                   clear hb9 hB9)
                | (go_at_call 5; refine C5.out.mono ?_; clear C5; rintro e W10 ⟨rfl, hb10⟩
                   have hB10 := HB9.out.trans (hb10.mono HB9.out.size)
                   have C5b := hid (law5 VS (n + 1) W10 (tab_on (HBm.out.trans (hB10.mono HBm.out.size)) HT.out))
                   have HB10 := hid hB10
                   clear hb10 hB10)
                | (go_at_call 5; refine C5b.out.mono ?_; clear C5b; rintro e W11 ⟨rfl, hb11⟩
                   have hB11 := HB10.out.trans (hb11.mono HB10.out.size)
                   have C5c := hid (law5 (VS ++ ⟨#[10]⟩) n W11 (tab_on (HBm.out.trans (hB11.mono HBm.out.size)) HT.out))
                   have HB11 := hid hB11
                   clear hb11 hB11)
                | (go_at_call 5; refine C5c.out.mono ?_; clear C5c; rintro e W12 ⟨rfl, hb12⟩
                   have hB12 := HB11.out.trans (hb12.mono HB11.out.size)
                   have hB13 := hB12.trans ((below_box W12 (.cells #[.slice none 0 0, .slice none 0 0] 52)).mono hB12.size)
                   have C6 := hid (law6 n (some ⟨W12.heap.size, 0, none⟩) (some ⟨mb, 0, none⟩) 2 2 n n [[], []] VS ms _ rfl (by omega) (row2 W12) HM.out.len (HM.out.bools.below hB13) (tab_on (HBm.out.trans (hB13.mono HBm.out.size)) HT.out))
                   have HB13 := hid hB13
                   clear hb12 hB12 hB13)
                | (go_at_call 6; refine C6.out.mono ?_; clear C6; rintro e W14 ⟨rfl, hb14⟩
                   have HB14 := hid (HM.out.below.trans ((HB13.out.trans (hb14.mono HB13.out.size)).mono HM.out.below.size))
                   clear hb14))
              go_roundw
              case rel => exact ⟨j + 1, by go_num, by omega, HB14⟩
              case measure => simp [intOf]; omega
        · have hj9' : ¬ (j : Int) < 9 := by omega
          have HBW := hid (HB6.out.trans (HW.out.mono HB6.out.size))
          clear HB6 HW HN9
          go_wp2
          have HN4 := hid (fun i (hi : i < 4) => four wr i hi)
          have HB7 := hid (HBW.out.trans ((below_box wr (.cells #[.int .i64 (-1), .int .i64 0, .int .i64 2, .int .i64 1048577] 3)).mono HBW.out.size))
          generalize wr.alloc (.cells #[.int .i64 (-1), .int .i64 0, .int .i64 2, .int .i64 1048577] 3) = W7 at HN4 HB7
          generalize wr.heap.size = b4 at HN4 ⊢
          clear HBW
          go_loopw [106] (fun iv wr => ∃ i : Nat, iv = .int .i64 i ∧ i ≤ 4 ∧ Hid (Below W7.heap.size W7 wr)) (fun iv _ => 4 - (intOf iv).toNat)
          case atStart => exact ⟨0, rfl, by omega, hid (Below.refl _ _)⟩
          case round =>
            obtain ⟨i, rfl, hi, HW⟩ := hrel
            by_cases hi4 : i < 4
            · have hi4' : (i : Int) < 4 := by omega
              obtain ⟨x, hc⟩ := HN4.out i hi4
              have c0 := (HW.out.cell (p := ⟨b4, i, none⟩) (cell_lt hc)).trans hc
              have HS7 := hid (fun q (hq : q < 7) => str_cells wr #[.string ⟨#[]⟩, .string ⟨#[118, 32, 48, 10]⟩, .string ⟨#[118, 32, 49, 32, 45, 50, 32, 48, 10]⟩, .string ⟨#[118, 32, 49, 32, 45, 50, 10, 118, 32, 48, 10]⟩, .string ⟨#[118, 32, 45, 50, 32, 49, 32, 48, 10]⟩, .string ⟨#[118, 32, 49, 32, 50, 32, 48]⟩, .string ⟨#[118, 32, 32, 49, 32, 50, 32, 48, 10]⟩] (by rfl) q hq)
              have HB8 := hid (HW.out.trans ((below_box wr (.cells #[.string ⟨#[]⟩, .string ⟨#[118, 32, 48, 10]⟩, .string ⟨#[118, 32, 49, 32, 45, 50, 32, 48, 10]⟩, .string ⟨#[118, 32, 49, 32, 45, 50, 10, 118, 32, 48, 10]⟩, .string ⟨#[118, 32, 45, 50, 32, 49, 32, 48, 10]⟩, .string ⟨#[118, 32, 49, 32, 50, 32, 48]⟩, .string ⟨#[118, 32, 32, 49, 32, 50, 32, 48, 10]⟩] 9)).mono HW.out.size))
              clear hc
              go_wp2
              clear c0
              generalize wr.alloc (.cells #[.string ⟨#[]⟩, .string ⟨#[118, 32, 48, 10]⟩, .string ⟨#[118, 32, 49, 32, 45, 50, 32, 48, 10]⟩, .string ⟨#[118, 32, 49, 32, 45, 50, 10, 118, 32, 48, 10]⟩, .string ⟨#[118, 32, 45, 50, 32, 49, 32, 48, 10]⟩, .string ⟨#[118, 32, 49, 32, 50, 32, 48]⟩, .string ⟨#[118, 32, 32, 49, 32, 50, 32, 48, 10]⟩] 9) = W8 at HS7 HB8 ⊢
              generalize wr.heap.size = b7 at HS7 ⊢
              go_loopw [112] (fun iv wr => ∃ q : Nat, iv = .int .i64 q ∧ q ≤ 7 ∧ Hid (Below W8.heap.size W8 wr)) (fun iv _ => 7 - (intOf iv).toNat)
              case atStart => exact ⟨0, rfl, by omega, hid (Below.refl _ _)⟩
              case round =>
                obtain ⟨q, rfl, hq, HX⟩ := hrel
                have HBX := hid (HB8.out.trans (HX.out.mono HB8.out.size))
                by_cases hq7 : q < 7
                · have hq7' : (q : Int) < 7 := by omega
                  obtain ⟨S, hS⟩ := HS7.out q hq7
                  have c0 := (HX.out.cell (p := ⟨b7, q, none⟩) (cell_lt hS)).trans hS
                  have C5 := hid (law5 S x wr (tab_on (HB7.out.trans (HBX.out.mono HB7.out.size)) HT.out))
                  clear hS
                  go_wp2_with (first
                    | (go_at_call 5; refine C5.out.mono ?_; clear C5; rintro e W9 ⟨rfl, hb9⟩; have HB9 := hid (HX.out.trans (hb9.mono HX.out.size)); clear hb9))
                  go_roundw
                  case rel => exact ⟨q + 1, by go_num, by omega, HB9⟩
                  case measure => simp [intOf]; omega
                · have hq7' : ¬ (q : Int) < 7 := by omega
                  go_wp2
                  go_roundw
                  case rel => exact ⟨i + 1, by go_num, by omega, HBX⟩
                  case measure => simp [intOf]; omega
            · have hi4' : ¬ (i : Int) < 4 := by omega
              have hBe := HB7.out.trans (HW.out.mono HB7.out.size)
              have C12 := hid (works12 wr (tab_on hBe HT.out))
              have HBE := hid hBe
              clear hBe
              go_wp2_with (first
                | (go_at_call 12; refine C12.out.mono ?_; clear C12; rintro e W9 ⟨rfl, hb9⟩; have HB9 := hid hb9; clear hb9))
              go_ret
              exact ⟨rfl, HBE.out.trans (HB9.out.mono HBE.out.size)⟩
end Go.Proofs.YtlhpnkgdnmnclaaDoor
