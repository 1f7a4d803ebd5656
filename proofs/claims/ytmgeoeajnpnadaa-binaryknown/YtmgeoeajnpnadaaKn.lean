/- The chapter's examples: what they say, plainly; what is over a limit. -/
import Derived.Test.YtmgeoeajnpnadaaTell
namespace Bin
def gd0 : Lra.Stp := ⟨2, 64, [], [3]⟩
def gd1 : Lra.Stp := ⟨1, 1, [], [-1]⟩
def gd2 : Lra.Stp := ⟨1, 4611686018427387903, [1048576, -1048576], [4611686018427387903, -4611686018427387903]⟩
def gd3 : Lra.Stp := ⟨2, 0, [], []⟩
theorem good_may : [gd0, gd1, gd2, gd3].all Lra.may = true := by decide
def g1 : List Int := [100, 128, 1, 6, 0, 97, 2, 0, 3, 0, 97]
def g2 : List Int := [254, 255, 255, 255, 255, 255, 255, 255, 127]
def g3 : List Int := [128, 128, 128, 1, 129, 128, 128, 1, 0]
def g4 : List Int := [255, 255, 255, 255, 255, 255, 255, 255, 127, 0, 100, 0, 0]
def goodT : List Int := ((((g1 ++ g2) ++ g3) ++ g2) ++ g4)
theorem good_text : text [gd0, gd1, gd2, gd3] = goodT := by
  simp [text, stp, row, num, code, bytes7, gd0, gd1, gd2, gd3, goodT, g1, g2, g3, g4]
theorem good_says : Says goodT [gd0, gd1, gd2, gd3] [] := by rw [← good_text]; exact says_text good_may
def bads : List Lra.Stp := [⟨0, 0, [], []⟩, ⟨3, 1, [], []⟩, ⟨1, 0, [], []⟩, ⟨1, 4611686018427387904, [], []⟩, ⟨1, 1, [0], []⟩, ⟨1, 1, [-2147483648], []⟩, ⟨1, 1, [], [0]⟩, ⟨1, 1, [], [-9223372036854775808]⟩, ⟨2, -1, [], []⟩, ⟨2, 0, [1], []⟩, ⟨2, 0, [], [-1]⟩]
theorem bads_len : bads.length = 11 := rfl
theorem bads_may : ∀ s ∈ bads, Lra.may s = false := by decide
theorem bads_two : ∀ s ∈ bads, [gd0, s].all Lra.may = false := fun s hs => by simp [bads_may s hs]
theorem bads_small : ∀ s ∈ bads, s.lits.length ≤ 1 ∧ s.hints.length ≤ 1 := by decide
def wrongs : List (List Int) := [[97, 18, 2, 5, 0, 6, 8], [97, 0, 0, 0], [97, 130, 0, 0, 0], [97, 3, 0, 0], [98, 2, 0, 0], [100, 2, 5, 0], [97], [97, 2], [97, 2, 0], [97, 2, 1, 0, 0], [97, 2, 128, 0, 0, 0], [97, 2, 130, 128, 128, 1, 0, 0], [100, 1, 0], [97, 128, 128, 128, 128, 128, 128, 128, 128, 128, 1, 0, 0], [97, 255, 255, 255, 255, 255, 255, 255, 255, 255], [97, 2, 0, 128]]
theorem wrongs_len : wrongs.length = 16 := rfl
theorem pre_text : text [gd3] = [100, 0, 0] := by
  simp [text, stp, row, num, code, bytes7, gd3]
theorem wrong_step : ∀ x ∈ wrongs, stepR x = none ∧ x ≠ [] ∧ x.length ≤ 1000 ∧ Byt x := by
  intro x hx
  simp only [wrongs, List.mem_cons, List.not_mem_nil, or_false] at hx
  rcases hx with rfl | rfl | rfl | rfl | rfl | rfl | rfl | rfl | rfl | rfl | rfl | rfl | rfl | rfl | rfl | rfl <;> exact ⟨by rfl, by simp, by decide, Go.Proofs.Ytmgeoeajnpnadaa.byt_list (by decide)⟩
theorem wrong_says : ∀ x ∈ wrongs, Says ([100, 0, 0] ++ x) [gd3] x := fun x hx => ⟨by rw [pre_text], by decide, (wrong_step x hx).1⟩
end Bin
namespace Go.Proofs.Ytmgeoeajnpnadaa
open Go.RowKit
set_option linter.unusedVariables false
set_option linter.unusedSimpArgs false

/-- Bytes more. -/
theorem pushes {n m k : Nat} {W : World} {v : Value} {xs ys : List Int} (hm : xs.length = m) (hk : ys.length = k) (h : W.ownsRow n 5 1 v m (xs.map (Value.int .u8))) (sb so cc : Nat) (hsrc : ∀ j, j < k → W.cell? ⟨sb, so + j, none⟩ = some (.int .u8 (ys.getD j 0))) (hl : m + k ≤ 1000000000) (hb : n ≤ W.heap.size) (hlt : sb < W.heap.size) (hk0 : 0 < k) :
    ∃ o c B, (Builtin.append_ #[26, 26] 26 #[v, .slice (some ⟨sb, so, none⟩) k cc]).run Try.prog W = .ok (.slice o (m + k) c) B ∧
      B.ownsRow n 5 1 (.slice o (m + k) c) (m + k) ((xs ++ ys).map (Value.int .u8)) ∧ (∀ q, q < W.heap.size → v.ownBlock ≠ some q → B.heap[q]? = W.heap[q]?) ∧ W.heap.size ≤ B.heap.size ∧ B.os = W.os ∧ B.tape = W.tape ∧ B.output = W.output := by
  obtain ⟨i0, hi, hz⟩ := Option.map_eq_some_iff.1 info5
  simp only [Prod.mk.injEq] at hz
  obtain ⟨hz0, hz1, hz2⟩ := hz
  obtain ⟨v2, B, hr, ho2, hg, _, hat⟩ := run_append_own_at (P := Try.prog) W n 26 26 5 i0 _ 1 1 Try.underlying26 hi hz0 hz1 hz2 rfl (by decide) v m _ h ⟨sb, so, none⟩ k cc (ys.map (Value.int .u8)) (by simp [hk]) (fun j u hu => by
    have hj : j < k := by
      rcases Nat.lt_or_ge j k with h' | h'
      · exact h'
      · rw [List.getElem?_eq_none (by simp [hk]; exact h')] at hu; cases hu
    rw [Go.WideShapes.add_plain, hsrc j hj]
    rw [List.getElem?_map, List.getElem?_eq_getElem (by omega)] at hu
    simp only [Option.map_some, Option.some.injEq] at hu
    rw [← hu]
    simp [List.getD, List.getElem?_eq_getElem (show j < ys.length by omega)]) (by
      intro u hu
      obtain ⟨x, _, rfl⟩ := List.mem_map.1 hu
      rfl) (by simp [maxLen]; omega) (by omega) (by omega)
  obtain ⟨o', cp', rfl⟩ := own_slc ho2
  refine ⟨o', cp', B, hr, ?_, fun q hq hne => hg.block _ hq (fun e => hne e.symm), hg.size, hg.os, hg.tape, hg.output⟩
  rw [List.map_append]
  exact ho2
set_option maxRecDepth 100000 in
set_option maxHeartbeats 4000000 in
theorem long17 (a : Option Addr) (n c : Nat) (w : World) (hn : 4194304 < n) (hb : n ≤ 1000000000) :
    Calls Try.prog 17 #[.slice a n c] w fun e w' => e = .returned (.bool true) ∧ Below w.heap.size w w' := by
  have h1 : ((4194304 : Int) < (n : Int)) = True := by simp; omega
  clear hn hb
  go_enter Try.func17, Try.ntmps17
  go_wp2
  go_ret
  exact ⟨rfl, Below.refl _ _⟩
set_option maxRecDepth 100000 in
set_option maxHeartbeats 4000000 in
theorem lim11 (a : Option Addr) (n c : Nat) (w : World) (C : Calls Try.prog 17 #[.slice a n c] w fun e w' => e = .returned (.bool true) ∧ Below w.heap.size w w') :
    Calls Try.prog 11 #[.slice a n c] w fun e w' => e = .returned (.tuple #[.slice none 0 0, .int .i64 3]) ∧ Below w.heap.size w w' := by
  have C19 := hid C
  clear C
  go_enter Try.func11, Try.ntmps11
  go_wp2_with (go_at_call 17; refine C19.out.mono ?_; clear C19; rintro e W1 ⟨rfl, hb1⟩; have HB1 := hid hb1; clear hb1)
  go_ret2
  exact ⟨rfl, HB1.out⟩
/-- The two great rows, whose cells stay unnamed. -/
theorem makeL : ∃ (n : Nat) (mc : Array Value), n = 4194305 ∧ ∀ w : World, (Instr.makeSlice 22 (.int .i64 4194305) (.int .i64 4194305)).run Try.prog w = .ok (.slice (some ⟨w.heap.size, 0, none⟩) n n) (w.alloc (.cells mc 43)) := by
  obtain ⟨i0, hi, hz⟩ := Option.map_eq_some_iff.1 info43
  simp only [Prod.mk.injEq] at hz
  obtain ⟨hz0, hz1, hz2⟩ := hz
  obtain ⟨c, hc⟩ : ∃ c : Nat, c = 4194305 := ⟨_, rfl⟩
  have hc' : (4194305 : Int) = (c : Int) := by omega
  refine ⟨c, madeCells (Value.cells (.agg #[.int .u8 0, .int .i64 0, .slice none 0 0, .slice none 0 0])) (c * 4), hc, fun w => ?_⟩
  rw [hc']
  have := run_make (P := Try.prog) w 22 43 i0 _ Try.underlying22 hi hz0 .i64 .i64 (c : Int) (c : Int) (by omega) (by omega) (by rw [hz2]; omega) (by omega)
  rw [hz1] at this
  simpa using this
theorem makeH : ∃ (n : Nat) (mc : Array Value), n = 16777217 ∧ mc.size = n ∧ (∀ j, j < n → mc[j]? = some (.int .i64 0)) ∧ ∀ w : World, (Instr.makeSlice 39 (.int .i64 16777217) (.int .i64 16777217)).run Try.prog w = .ok (.slice (some ⟨w.heap.size, 0, none⟩) n n) (w.alloc (.cells mc 2)) := by
  obtain ⟨i0, hi, hz⟩ := Option.map_eq_some_iff.1 info2
  simp only [Prod.mk.injEq] at hz
  obtain ⟨hz0, hz1, hz2⟩ := hz
  obtain ⟨c, hc⟩ : ∃ c : Nat, c = 16777217 := ⟨_, rfl⟩
  have hc' : (16777217 : Int) = (c : Int) := by omega
  refine ⟨c, madeCells (Value.cells (.int .i64 0)) (c * 1), hc, by rw [size_madeCells]; omega, fun j hj => ?_, fun w => ?_⟩
  · clear hc hc'
    have : (madeCells (Value.cells (.int .i64 0)) (c * 1))[j]? = some ((Value.cells (.int .i64 0))[j % 1]!) := by
      simp [madeCells, hj]
      first | rfl | (rw [Nat.mod_one]; rfl) | (simp [Value.cells, Nat.mod_one])
    rw [this, Nat.mod_one]
    rfl
  · rw [hc']
    have := run_make (P := Try.prog) w 39 2 i0 _ Try.underlying39 hi hz0 .i64 .i64 (c : Int) (c : Int) (by omega) (by omega) (by rw [hz2]; omega) (by omega)
    rw [hz1] at this
    simpa using this
/-- One step with too many hints. -/
theorem big11 (W : World) (b h n c : Nat) (mc : Array Value) (hn : n = 16777217) (hm : ∀ j, j < n → mc[j]? = some (.int .i64 0)) (hb : W.heap[b]? = some (.cells #[.int .u8 0, .int .i64 0, .slice none 0 0, .slice (some ⟨h, 0, none⟩) n n] 43 (0, 0))) (hh : W.heap[h]? = some (.cells mc 2 (0, 0))) :
    Calls Try.prog 11 #[.slice (some ⟨b, 0, none⟩) 1 1] W fun e w' => e = .returned (.tuple #[.slice none 0 0, .int .i64 3]) ∧ Below W.heap.size W w' := by
  obtain ⟨s, hs⟩ : ∃ s : Lra.Stp, s = ⟨0, 0, [], List.replicate n 0⟩ := ⟨_, rfl⟩
  have hl : s.hints.length = n := by rw [hs]; exact List.length_replicate
  have hk : s.kind = 0 := by rw [hs]
  have hid' : s.id = 0 := by rw [hs]
  have hl0 : s.lits = [] := by rw [hs]
  have hx : s.hints = List.replicate n 0 := by rw [hs]
  clear hs
  have hv : StpV W none (some ⟨h, 0, none⟩) s := by
    refine ⟨?_, ?_, by omega, by omega, by rw [hl0, hl]; simp; omega⟩
    · rw [hl0]; exact Row.nil _ _ _ _ _
    · refine ⟨fun x hm2 => ?_, .inr ⟨h, 0, rfl, (Array.getElem?_eq_some_iff.1 hh).1, fun j hj => ?_⟩⟩
      · rw [hx] at hm2
        have := (List.mem_replicate.1 hm2).2
        subst this
        decide
      · rw [row_cell hh, Nat.zero_add]
        rw [hl] at hj
        rw [hm j hj, hx]
        simp [List.getD, hj]
  have hS : Steps W (some ⟨b, 0, none⟩) [s] := by
    refine .inr ⟨b, 0, rfl, fun j hj => ?_⟩
    obtain rfl : j = 0 := by simp at hj; exact hj
    refine ⟨none, 0, some ⟨h, 0, none⟩, n, ?_, ?_, ?_, ?_, hv⟩
    · rw [row_cell hb]; simp [hk]
    · rw [row_cell hb]; simp [hid']
    · rw [row_cell hb]; simp [hl0]
    · rw [row_cell hb]; simp [hl]
  have hi : Lra.items [s] = n := by rw [Lra.items_cons, hl0, hl]; simp [Lra.items_nil]
  refine lim11 _ _ _ _ ((tooMany17 _ 1 1 [s] W rfl (by omega) hS (by omega)).mono fun e w' q => ⟨?_, q.2⟩)
  rw [q.1, hi, decide_eq_true (by omega)]
end Go.Proofs.Ytmgeoeajnpnadaa
