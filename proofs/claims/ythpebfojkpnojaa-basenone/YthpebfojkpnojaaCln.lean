/- A clause and a row of hints in memory of their own: slices.Clone. -/
import Derived.Test.YthpebfojkpnojaaNot
namespace Go.Proofs.Ythpebfojkpnojaa
open Go.RowKit
set_option linter.unusedVariables false
theorem info45 : (Try.prog.info? 45).map (fun i => (i.zero, i.size, i.bytes)) = some (some (.int .i32 0), 1, 4) := by kernel_rfl
theorem one_ints (k : IntKind) (l : List Int) : ∀ u ∈ l.map (Value.int k), u.oneCell' = true := by
  intro u hu
  obtain ⟨x, _, rfl⟩ := List.mem_map.1 hu
  rfl
def ClOut (w : World) (xs : List Int) (n : Nat) (e : Ending) (w' : World) : Prop :=
  ∃ o k, e = .returned (.slice o n k) ∧ w'.ownsRow w.heap.size 45 1 (.slice o n k) n (xs.map (Value.int .i32)) ∧ Below w.heap.size w w'
set_option maxRecDepth 100000 in
set_option maxHeartbeats 2000000 in
theorem clone31 (a : Option Addr) (n c : Nat) (xs : List Int) (w : World) (hn : xs.length = n) (hb : n ≤ 16777216) (hx : Lits w a xs) :
    Calls Try.prog 31 #[.slice a n c] w fun e w' => ClOut w xs n e w' := by
  cases a with
  | none =>
    have hx0 : xs = [] := by
      rcases hx.2 with h | ⟨b, off, e, _⟩
      · exact h
      · cases e
    subst hx0
    obtain rfl : n = 0 := by simpa using hn.symm
    have HF : Hid (ClOut w [] 0 (.returned (.slice none 0 0)) w) := ⟨none, 0, rfl, World.ownsRow_nil _ _ _ _, Below.refl _ _⟩
    clear hx hn
    have hnil : ∀ W, (binOp .eql 23 (.slice none 0 c) (.slice none 0 0)).run Try.prog W = .ok (.bool true) W := fun W => by kernel_rfl
    go_enter Try.func31, Try.ntmps31
    go_wp2
    go_ret
    exact HF.out
  | some ad =>
    obtain ⟨i0, hi, hz⟩ := Option.map_eq_some_iff.1 info45
    simp only [Prod.mk.injEq] at hz
    have hB1 := below_box w (.cells #[] 45)
    have hx1 : (w.alloc (.cells #[] 45)).heap[w.heap.size]? = some (.cells #[] 45 (0, 0)) := heap_alloc_new _ _
    have hl1 := hx.below hB1
    have hs1 : w.heap.size ≤ (w.alloc (.cells #[] 45)).heap.size := by simp
    generalize hW1 : w.alloc (.cells #[] 45) = W1 at hB1 hx1 hl1 hs1
    have ho1 : W1.ownsRow w.heap.size 45 1 (.slice (some ⟨w.heap.size, 0, none⟩) 0 0) 0 [] := ⟨rfl, .inr ⟨w.heap.size, 0, #[], rfl, Nat.le_refl _, hx1, Nat.le_refl _, Nat.zero_le _, rfl, rfl⟩⟩
    obtain ⟨v2, B, hr, ho2, hgb, _, _⟩ := run_append_own_at (P := Try.prog) W1 w.heap.size 23 23 45 i0 _ 1 4 Try.underlying23 hi hz.1 hz.2.1 hz.2.2 rfl (by decide) (.slice (some ⟨w.heap.size, 0, none⟩) 0 0) 0 [] ho1 ad n c (xs.map (Value.int .i32)) (by simp [hn]) (fun j u hu => by
      rw [List.getElem?_map] at hu
      obtain ⟨x, hx', rfl⟩ := Option.map_eq_some_iff.1 hu
      have hj : j < xs.length := by
        rcases Nat.lt_or_ge j xs.length with h' | h'
        · exact h'
        · rw [List.getElem?_eq_none h'] at hx'; cases hx'
      obtain ⟨b, off, e, _, hc, _, _⟩ := Row.at hl1 hj
      cases e
      rw [show (⟨b, off, none⟩ : Addr).add j = ⟨b, off + j, none⟩ by simp [Addr.add], hc]
      simp [List.getD, hx']) (one_ints _ _) (by simp [maxLen]; omega) (by omega) (by omega)
    obtain ⟨o, k, rfl⟩ := own_slc ho2
    rw [Nat.zero_add] at hr ho2
    rw [List.nil_append] at ho2
    have HR := hid hr
    have HF : Hid (ClOut w xs n (.returned (.slice o n k)) B) := ⟨o, k, rfl, ho2, by
      refine hB1.trans ?_
      exact ⟨hgb.os, hgb.tape, hgb.output, hgb.size, fun q hq => hgb.block q (by omega) (by show some q ≠ some w.heap.size; intro e; injection e with e; omega)⟩⟩
    clear hi hz hB1 hx1 hl1 hs1 ho1 hr ho2 hgb hx hn
    have hnil : ∀ W, (binOp .eql 23 (.slice (some ad) n c) (.slice none 0 0)).run Try.prog W = .ok (.bool false) W := fun W => by kernel_rfl
    go_enter Try.func31, Try.ntmps31
    go_wp2_with (at_builtin; refine wpList_append_run rfl (.tmp 5) (.tmp 6) 23 23 rfl rfl rfl HR.out ?_)
    go_ret
    exact HF.out
def HnOut (w : World) (xs : List Int) (n : Nat) (e : Ending) (w' : World) : Prop :=
  ∃ o k, e = .returned (.slice o n k) ∧ w'.ownsRow w.heap.size 2 1 (.slice o n k) n (xs.map (Value.int .i64)) ∧ Below w.heap.size w w'
set_option maxRecDepth 100000 in
set_option maxHeartbeats 2000000 in
theorem clone34 (a : Option Addr) (n c : Nat) (xs : List Int) (w : World) (hn : xs.length = n) (hb : n ≤ 16777216) (hx : Hnts w a xs) :
    Calls Try.prog 34 #[.slice a n c] w fun e w' => HnOut w xs n e w' := by
  cases a with
  | none =>
    have hx0 : xs = [] := by
      rcases hx.2 with h | ⟨b, off, e, _⟩
      · exact h
      · cases e
    subst hx0
    obtain rfl : n = 0 := by simpa using hn.symm
    have HF : Hid (HnOut w [] 0 (.returned (.slice none 0 0)) w) := ⟨none, 0, rfl, World.ownsRow_nil _ _ _ _, Below.refl _ _⟩
    clear hx hn
    have hnil : ∀ W, (binOp .eql 24 (.slice none 0 c) (.slice none 0 0)).run Try.prog W = .ok (.bool true) W := fun W => by kernel_rfl
    go_enter Try.func34, Try.ntmps34
    go_wp2
    go_ret
    exact HF.out
  | some ad =>
    obtain ⟨i0, hi, hz⟩ := Option.map_eq_some_iff.1 info2
    simp only [Prod.mk.injEq] at hz
    have hB1 := below_box w (.cells #[] 2)
    have hx1 : (w.alloc (.cells #[] 2)).heap[w.heap.size]? = some (.cells #[] 2 (0, 0)) := heap_alloc_new _ _
    have hl1 := hx.below hB1
    have hs1 : w.heap.size ≤ (w.alloc (.cells #[] 2)).heap.size := by simp
    generalize hW1 : w.alloc (.cells #[] 2) = W1 at hB1 hx1 hl1 hs1
    have ho1 : W1.ownsRow w.heap.size 2 1 (.slice (some ⟨w.heap.size, 0, none⟩) 0 0) 0 [] := ⟨rfl, .inr ⟨w.heap.size, 0, #[], rfl, Nat.le_refl _, hx1, Nat.le_refl _, Nat.zero_le _, rfl, rfl⟩⟩
    obtain ⟨v2, B, hr, ho2, hgb, _, _⟩ := run_append_own_at (P := Try.prog) W1 w.heap.size 24 24 2 i0 _ 1 8 Try.underlying24 hi hz.1 hz.2.1 hz.2.2 rfl (by decide) (.slice (some ⟨w.heap.size, 0, none⟩) 0 0) 0 [] ho1 ad n c (xs.map (Value.int .i64)) (by simp [hn]) (fun j u hu => by
      rw [List.getElem?_map] at hu
      obtain ⟨x, hx', rfl⟩ := Option.map_eq_some_iff.1 hu
      have hj : j < xs.length := by
        rcases Nat.lt_or_ge j xs.length with h' | h'
        · exact h'
        · rw [List.getElem?_eq_none h'] at hx'; cases hx'
      obtain ⟨b, off, e, _, hc, _, _⟩ := Row.at hl1 hj
      cases e
      rw [show (⟨b, off, none⟩ : Addr).add j = ⟨b, off + j, none⟩ by simp [Addr.add], hc]
      simp [List.getD, hx']) (one_ints _ _) (by simp [maxLen]; omega) (by omega) (by omega)
    obtain ⟨o, k, rfl⟩ := own_slc ho2
    rw [Nat.zero_add] at hr ho2
    rw [List.nil_append] at ho2
    have HR := hid hr
    have HF : Hid (HnOut w xs n (.returned (.slice o n k)) B) := ⟨o, k, rfl, ho2, by
      refine hB1.trans ?_
      exact ⟨hgb.os, hgb.tape, hgb.output, hgb.size, fun q hq => hgb.block q (by omega) (by show some q ≠ some w.heap.size; intro e; injection e with e; omega)⟩⟩
    clear hi hz hB1 hx1 hl1 hs1 ho1 hr ho2 hgb hx hn
    have hnil : ∀ W, (binOp .eql 24 (.slice (some ad) n c) (.slice none 0 0)).run Try.prog W = .ok (.bool false) W := fun W => by kernel_rfl
    go_enter Try.func34, Try.ntmps34
    go_wp2_with (at_builtin; refine wpList_append_run rfl (.tmp 5) (.tmp 6) 24 24 rfl rfl rfl HR.out ?_)
    go_ret
    exact HF.out
end Go.Proofs.Ythpebfojkpnojaa
