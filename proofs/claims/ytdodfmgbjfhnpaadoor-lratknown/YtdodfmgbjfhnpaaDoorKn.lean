/- The chapter's examples: what they say, plainly; what is over a limit. -/
import Derived.Test.YtdodfmgbjfhnpaaDoorWorks
namespace Lra
def gd0 : Stp := ⟨1, 10, [], [9, -4, 7]⟩
def gd1 : Stp := ⟨2, 0, [], []⟩
def gd2 : Stp := ⟨1, 4611686018427387903, [1048576, -1048576], [4611686018427387903, -4611686018427387903]⟩
def gd3 : Stp := ⟨2, 4611686018427387903, [], [1]⟩
theorem good_may : [gd0, gd1, gd2, gd3].all may = true := by decide
def goodT : List UInt8 := [49, 48, 32, 48, 32, 57, 32, 45, 52, 32, 55, 32, 48, 10, 48, 32, 100, 32, 48, 10, 52, 54, 49, 49, 54, 56, 54, 48, 49, 56, 52, 50, 55, 51, 56, 55, 57, 48, 51, 32, 49, 48, 52, 56, 53, 55, 54, 32, 45, 49, 48, 52, 56, 53, 55, 54, 32, 48, 32, 52, 54, 49, 49, 54, 56, 54, 48, 49, 56, 52, 50, 55, 51, 56, 55, 57, 48, 51, 32, 45, 52, 54, 49, 49, 54, 56, 54, 48, 49, 56, 52, 50, 55, 51, 56, 55, 57, 48, 51, 32, 48, 10, 52, 54, 49, 49, 54, 56, 54, 48, 49, 56, 52, 50, 55, 51, 56, 55, 57, 48, 51, 32, 100, 32, 49, 32, 48, 10]
theorem good_text : textB [gd0, gd1, gd2, gd3] = goodT := by
  simp [textB, lineB, rowB, wordB, gd0, gd1, gd2, gd3, goodT, Go.Lib.itoa, Go.Lib.decDigits]
def bads : List Stp := [⟨0, 0, [], []⟩, ⟨3, 1, [], []⟩, ⟨1, 0, [], []⟩, ⟨1, -1, [], []⟩, ⟨1, 4611686018427387904, [], []⟩, ⟨1, 1, [0], []⟩, ⟨1, 1, [1048577], []⟩, ⟨1, 1, [-2147483648], []⟩, ⟨1, 1, [], [0]⟩, ⟨1, 1, [], [-9223372036854775808]⟩, ⟨2, -1, [], []⟩, ⟨2, 0, [1], []⟩, ⟨2, 0, [], [-1]⟩]
theorem bads_len : bads.length = 13 := rfl
theorem bads_may : ∀ s ∈ bads, may s = false := by decide
theorem bads_two : ∀ s ∈ bads, [gd0, s].all may = false := fun s hs => by simp [bads_may s hs]
theorem bads_small : ∀ s ∈ bads, s.lits.length ≤ 1 ∧ s.hints.length ≤ 1 := by decide
def pre : ByteArray := ⟨#[57, 32, 100, 32, 51, 32, 48, 10]⟩
def wrongs : List ByteArray := [⟨#[57, 32, 49, 32, 48, 32, 51, 32, 48]⟩,
  ⟨#[57, 32, 49, 32, 48, 32, 51, 10]⟩,
  ⟨#[48, 57, 32, 49, 32, 48, 32, 48, 10]⟩,
  ⟨#[57, 32, 48, 49, 32, 48, 32, 48, 10]⟩,
  ⟨#[57, 32, 32, 49, 32, 48, 32, 48, 10]⟩,
  ⟨#[57, 32, 49, 32, 48, 32, 48, 32, 48, 10]⟩,
  ⟨#[10]⟩,
  ⟨#[32, 10]⟩,
  ⟨#[57, 10]⟩,
  ⟨#[57, 32, 48, 10]⟩,
  ⟨#[57, 32, 100, 10]⟩,
  ⟨#[57, 32, 100, 32, 48, 32, 48, 10]⟩,
  ⟨#[57, 32, 100, 32, 49, 10]⟩,
  ⟨#[57, 32, 100, 32, 45, 49, 32, 48, 10]⟩,
  ⟨#[45, 57, 32, 48, 32, 48, 10]⟩,
  ⟨#[48, 32, 48, 32, 48, 10]⟩,
  ⟨#[57, 32, 45, 48, 32, 48, 32, 48, 10]⟩,
  ⟨#[57, 32, 43, 49, 32, 48, 32, 48, 10]⟩,
  ⟨#[57, 32, 49, 48, 52, 56, 53, 55, 55, 32, 48, 32, 48, 10]⟩,
  ⟨#[57, 32, 48, 32, 52, 54, 49, 49, 54, 56, 54, 48, 49, 56, 52, 50, 55, 51, 56, 55, 57, 48, 52, 32, 48, 10]⟩,
  ⟨#[57, 32, 48, 32, 57, 57, 57, 57, 57, 57, 57, 57, 57, 57, 57, 57, 57, 57, 57, 57, 57, 57, 57, 57, 32, 48, 10]⟩,
  ⟨#[57, 32, 49, 32, 48, 32, 49, 32, 48, 32, 10]⟩,
  ⟨#[32, 57, 32, 48, 32, 48, 10]⟩,
  ⟨#[57, 32, 48, 32, 48, 13, 10]⟩,
  ⟨#[99, 32, 120, 10]⟩,
  ⟨#[57, 32, 100, 32, 100, 32, 48, 10]⟩,
  ⟨#[57, 32, 49, 32, 100, 32, 48, 10]⟩]
theorem wrongs_len : wrongs.length = 27 := rfl
theorem wrong_parse : ∀ x ∈ wrongs, parse (ints (pre ++ x)) = .error 2 ∧ (pre ++ x).size ≤ 1000000 := by
  intro x hx
  simp only [wrongs, List.mem_cons, List.not_mem_nil, or_false] at hx
  rcases hx with rfl | rfl | rfl | rfl | rfl | rfl | rfl | rfl | rfl | rfl | rfl | rfl | rfl | rfl | rfl | rfl | rfl | rfl | rfl | rfl | rfl | rfl | rfl | rfl | rfl | rfl | rfl <;> exact ⟨by rfl, by decide⟩
theorem none_parse : parse (ints ⟨#[]⟩) = .ok [] := rfl
end Lra
namespace Go.Proofs.YtdodfmgbjfhnpaaDoor
open Go.RowKit
set_option linter.unusedVariables false
set_option linter.unusedSimpArgs false

set_option maxRecDepth 100000 in
set_option maxHeartbeats 4000000 in
theorem long19 (a : Option Addr) (n c : Nat) (w : World) (hn : 4194304 < n) (hb : n ≤ 1000000000) :
    Calls Tryd.prog 19 #[.slice a n c] w fun e w' => e = .returned (.bool true) ∧ Below w.heap.size w w' := by
  have h1 : ((4194304 : Int) < (n : Int)) = True := by simp; omega
  clear hn hb
  go_enter Tryd.func19, Tryd.ntmps19
  go_wp2
  go_ret
  exact ⟨rfl, Below.refl _ _⟩
set_option maxRecDepth 100000 in
set_option maxHeartbeats 4000000 in
theorem lim12 (a : Option Addr) (n c : Nat) (w : World) (C : Calls Tryd.prog 19 #[.slice a n c] w fun e w' => e = .returned (.bool true) ∧ Below w.heap.size w w') :
    Calls Tryd.prog 12 #[.slice a n c] w fun e w' => e = .returned (.tuple #[.string ⟨#[]⟩, .int .i64 3]) ∧ Below w.heap.size w w' := by
  have C19 := hid C
  clear C
  go_enter Tryd.func12, Tryd.ntmps12
  go_wp2_with (go_at_call 19; refine C19.out.mono ?_; clear C19; rintro e W1 ⟨rfl, hb1⟩; have HB1 := hid hb1; clear hb1)
  go_ret2
  exact ⟨rfl, HB1.out⟩
/-- The two great rows, whose cells stay unnamed. -/
theorem makeL : ∃ (n : Nat) (mc : Array Value), n = 4194305 ∧ ∀ w : World, (Instr.makeSlice 22 (.int .i64 4194305) (.int .i64 4194305)).run Tryd.prog w = .ok (.slice (some ⟨w.heap.size, 0, none⟩) n n) (w.alloc (.cells mc 43)) := by
  obtain ⟨i0, hi, hz⟩ := Option.map_eq_some_iff.1 info43
  simp only [Prod.mk.injEq] at hz
  obtain ⟨hz0, hz1, hz2⟩ := hz
  obtain ⟨c, hc⟩ : ∃ c : Nat, c = 4194305 := ⟨_, rfl⟩
  have hc' : (4194305 : Int) = (c : Int) := by omega
  refine ⟨c, madeCells (Value.cells (.agg #[.int .u8 0, .int .i64 0, .slice none 0 0, .slice none 0 0])) (c * 4), hc, fun w => ?_⟩
  rw [hc']
  have := run_make (P := Tryd.prog) w 22 43 i0 _ Tryd.underlying22 hi hz0 .i64 .i64 (c : Int) (c : Int) (by omega) (by omega) (by rw [hz2]; omega) (by omega)
  rw [hz1] at this
  simpa using this
theorem makeH : ∃ (n : Nat) (mc : Array Value), n = 16777217 ∧ mc.size = n ∧ (∀ j, j < n → mc[j]? = some (.int .i64 0)) ∧ ∀ w : World, (Instr.makeSlice 41 (.int .i64 16777217) (.int .i64 16777217)).run Tryd.prog w = .ok (.slice (some ⟨w.heap.size, 0, none⟩) n n) (w.alloc (.cells mc 2)) := by
  obtain ⟨i0, hi, hz⟩ := Option.map_eq_some_iff.1 info2
  simp only [Prod.mk.injEq] at hz
  obtain ⟨hz0, hz1, hz2⟩ := hz
  obtain ⟨c, hc⟩ : ∃ c : Nat, c = 16777217 := ⟨_, rfl⟩
  have hc' : (16777217 : Int) = (c : Int) := by omega
  refine ⟨c, madeCells (Value.cells (.int .i64 0)) (c * 1), hc, by rw [size_madeCells]; omega, fun j hj => ?_, fun w => ?_⟩
  · clear hc hc'
    have : (madeCells (Value.cells (.int .i64 0)) (c * 1))[j]? = some ((Value.cells (.int .i64 0))[j % 1]!) := by
      simp [madeCells, hj]
      first | rfl | (rw [Nat.mod_one]; rfl) | (simp [Value.cells, Nat.mod_one])
    rw [this, Nat.mod_one]
    rfl
  · rw [hc']
    have := run_make (P := Tryd.prog) w 41 2 i0 _ Tryd.underlying41 hi hz0 .i64 .i64 (c : Int) (c : Int) (by omega) (by omega) (by rw [hz2]; omega) (by omega)
    rw [hz1] at this
    simpa using this
/-- One step with too many hints. -/
theorem big12 (W : World) (b h n c : Nat) (mc : Array Value) (hn : n = 16777217) (hm : ∀ j, j < n → mc[j]? = some (.int .i64 0)) (hb : W.heap[b]? = some (.cells #[.int .u8 0, .int .i64 0, .slice none 0 0, .slice (some ⟨h, 0, none⟩) n n] 43 (0, 0))) (hh : W.heap[h]? = some (.cells mc 2 (0, 0))) :
    Calls Tryd.prog 12 #[.slice (some ⟨b, 0, none⟩) 1 1] W fun e w' => e = .returned (.tuple #[.string ⟨#[]⟩, .int .i64 3]) ∧ Below W.heap.size W w' := by
  obtain ⟨s, hs⟩ : ∃ s : Lra.Stp, s = ⟨0, 0, [], List.replicate n 0⟩ := ⟨_, rfl⟩
  have hl : s.hints.length = n := by rw [hs]; exact List.length_replicate
  have hk : s.kind = 0 := by rw [hs]
  have hid' : s.id = 0 := by rw [hs]
  have hl0 : s.lits = [] := by rw [hs]
  have hx : s.hints = List.replicate n 0 := by rw [hs]
  clear hs
  have hv : StpV W none (some ⟨h, 0, none⟩) s := by
    refine ⟨?_, ?_, by omega, by omega, by rw [hl0, hl]; simp; omega⟩
    · rw [hl0]; exact Row.nil _ _ _ _ _
    · refine ⟨fun x hm2 => ?_, .inr ⟨h, 0, rfl, (Array.getElem?_eq_some_iff.1 hh).1, fun j hj => ?_⟩⟩
      · rw [hx] at hm2
        have := (List.mem_replicate.1 hm2).2
        subst this
        decide
      · rw [row_cell hh, Nat.zero_add]
        rw [hl] at hj
        rw [hm j hj, hx]
        simp [List.getD, hj]
  have hS : Steps W (some ⟨b, 0, none⟩) [s] := by
    refine .inr ⟨b, 0, rfl, fun j hj => ?_⟩
    obtain rfl : j = 0 := by simp at hj; exact hj
    refine ⟨none, 0, some ⟨h, 0, none⟩, n, ?_, ?_, ?_, ?_, hv⟩
    · rw [row_cell hb]; simp [hk]
    · rw [row_cell hb]; simp [hid']
    · rw [row_cell hb]; simp [hl0]
    · rw [row_cell hb]; simp [hl]
  have hi : Lra.items [s] = n := by rw [Lra.items_cons, hl0, hl]; simp [Lra.items_nil]
  refine lim12 _ _ _ _ ((tooMany19 _ 1 1 [s] W rfl (by omega) hS (by omega)).mono fun e w' q => ⟨?_, q.2⟩)
  rw [q.1, hi, decide_eq_true (by omega)]
end Go.Proofs.YtdodfmgbjfhnpaaDoor
