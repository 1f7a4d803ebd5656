/- Find, Count and Implies where the formula is not taken; how a function leaves behind one loop; results that lie in cells. -/
import Derived.Test.YtccncojidkdddaaRange
import Derived.Test.YtccncojidkdddaaRefImp
namespace Go.Proofs.Ytccncojidkdddaa
open Go.RowKit
set_option linter.unusedVariables false
set_option linter.unusedSimpArgs false

variable {P : Program} in
/-- A function leaves behind one loop over a function: the loop's block holds no call. -/
theorem leave_one {n D : Nat} {fn : Func} {tmps : Array Value} {R : Ending → World → Prop} {W : World} (hd : W.heap[D]? = some (.deferred (some [])))
    (h : ∃ v, (results fn tmps).run P (W.putObj D (.deferred none)) = .ok v (W.putObj D (.deferred none)) ∧ R (.returned v) (W.putObj D (.deferred none))) : LeavesInM Fence.wide n P fn tmps R [{ target := .collected D, args := #[] }] .returning W :=
  ⟨by simp, .inl ⟨D, _, rfl, run_takeDeferred hd, h⟩⟩
variable {P : Program} in
theorem leave_none {n : Nat} {fn : Func} {tmps : Array Value} {R : Ending → World → Prop} {W : World}
    (h : ∃ v, (results fn tmps).run P W = .ok v W ∧ R (.returned v) W) : LeavesInM Fence.wide n P fn tmps R [] .returning W := h

theorem results_cells3 {P : Program} {fn : Func} {p q r : Tmp} {t u v : TypeId} (h : fn.results = #[.cell p t, .cell q u, .cell r v]) (tmps : Array Value) (w : World) {ap aq ar : Addr} {x y z : Value}
    (hp : tmps.getD p undef = .pointer (some ap)) (hq : tmps.getD q undef = .pointer (some aq)) (hr : tmps.getD r undef = .pointer (some ar))
    (hx : (loadVar t ap).run P w = .ok x w) (hy : (loadVar u aq).run P w = .ok y w) (hz : (loadVar v ar).run P w = .ok z w) : (results fn tmps).run P w = .ok (.tuple #[x, y, z]) w := by
  simp only [results, h, List.mapM_toArray]
  simp only [Array.getD_eq_getD_getElem?] at hp hq hr
  simp [Sem.run_bind, Result.andThen, hp, hq, hr, asAddr, hx, hy, hz]
theorem results_cells2 {P : Program} {fn : Func} {p q : Tmp} {t u : TypeId} (h : fn.results = #[.cell p t, .cell q u]) (tmps : Array Value) (w : World) {ap aq : Addr} {x y : Value}
    (hp : tmps.getD p undef = .pointer (some ap)) (hq : tmps.getD q undef = .pointer (some aq))
    (hx : (loadVar t ap).run P w = .ok x w) (hy : (loadVar u aq).run P w = .ok y w) : (results fn tmps).run P w = .ok (.tuple #[x, y]) w := by
  simp only [results, h, List.mapM_toArray]
  simp only [Array.getD_eq_getD_getElem?] at hp hq
  simp [Sem.run_bind, Result.andThen, hp, hq, asAddr, hx, hy]
theorem boxed_apart {W : World} {B : Nat} {t : TypeId} {v : Value} {b k : Nat} {u : Value} (h : Boxed W B t v) (hne : B ≠ b) : Boxed (W.setCell ⟨b, k, none⟩ u) B t v := (heap_other W u hne).trans h
theorem load_box27 (w : World) {b : Nat} {t : TypeId} {v : Value} (h : Boxed w b t v) : (loadVar 27 ⟨b, 0, none⟩).run Try.prog w = .ok v w := by
  have := h.cell
  simp [loadVar, go_sem, this]
theorem load_box4 (w : World) {b : Nat} {t : TypeId} {v : Value} (h : Boxed w b t v) : (loadVar 4 ⟨b, 0, none⟩).run Try.prog w = .ok v w := by
  have := h.cell
  simp [loadVar, go_sem, this]
theorem load_box28 (w : World) {b : Nat} {t : TypeId} {v : Value} (h : Boxed w b t v) : (loadVar 28 ⟨b, 0, none⟩).run Try.prog w = .ok v w := by
  have := h.cell
  simp [loadVar, go_sem, this]

set_option maxHeartbeats 2000000 in
theorem count10_err (vars : Int) (a : Option Addr) (n cap : Nat) (cs : List (List Int)) (w : World) (hn : cs.length = n) (hc : Cls w a cs) (ht : ¬ Tru.taken vars cs = 0) :
    Calls Try.prog 10 #[.agg #[.int .i64 vars, .slice a n cap]] w fun e w' => e = .returned (.tuple #[.int .i64 0, .int .i64 (Tru.taken vars cs)]) ∧ Below w.heap.size w w' := by
  have C := hid (taken19 vars a n cap cs (w.alloc (.cells #[.int .i64 vars, .slice a n cap] 24)) hn (hc.below (below_box _ _)))
  generalize Tru.taken vars cs = t at ht C
  clear hc hn
  go_enter Try.func10, Try.ntmps10
  go_wp2_with (go_at_call 19; refine C.out.mono ?_; clear C; rintro e W2 ⟨rfl, hb⟩; have far := hid (show Far w (.int .i64 vars) (.slice a n cap) W2 from hb); clear hb)
  go_ret2
  exact ⟨rfl, far.out.below⟩

set_option maxHeartbeats 2000000 in
theorem find8_err (vars : Int) (a : Option Addr) (n cap : Nat) (cs : List (List Int)) (w : World) (hn : cs.length = n) (hc : Cls w a cs) (ht : ¬ Tru.taken vars cs = 0) :
    Calls Try.prog 8 #[.agg #[.int .i64 vars, .slice a n cap]] w fun e w' => e = .returned (.tuple #[.slice none 0 0, .bool false, .int .i64 (Tru.taken vars cs)]) ∧ Below w.heap.size w w' := by
  obtain ⟨W1, hW1⟩ : ∃ W1, (((w.alloc (.cells #[.int .i64 vars, .slice a n cap] 24)).alloc (.cells #[.slice none 0 0] 27)).alloc (.cells #[.bool false] 4)).alloc (.cells #[.int .i64 0] 28) = W1 := ⟨_, rfl⟩
  have hf1 : Far w (.int .i64 vars) (.slice a n cap) W1 := by rw [← hW1]; exact (((Below.refl _ _).alloc (by simp) _).alloc (by simp) _).alloc (by simp) _
  have hS1 : W1.heap.size = w.heap.size + 4 := by rw [← hW1]; simp
  have hF1 : Boxed W1 (w.heap.size + 1) 27 (.slice none 0 0) := by
    have := ((Boxed.new (w.alloc (.cells #[.int .i64 vars, .slice a n cap] 24)) 27 (.slice none 0 0)).alloc (.cells #[.bool false] 4)).alloc (.cells #[.int .i64 0] 28)
    rw [hW1] at this; simpa using this
  have hF2 : Boxed W1 (w.heap.size + 1 + 1) 4 (.bool false) := by
    have := (Boxed.new ((w.alloc (.cells #[.int .i64 vars, .slice a n cap] 24)).alloc (.cells #[.slice none 0 0] 27)) 4 (.bool false)).alloc (.cells #[.int .i64 0] 28)
    rw [hW1] at this; simpa using this
  have hF3 : Boxed W1 (w.heap.size + 1 + 1 + 1) 28 (.int .i64 0) := by
    have := Boxed.new (((w.alloc (.cells #[.int .i64 vars, .slice a n cap] 24)).alloc (.cells #[.slice none 0 0] 27)).alloc (.cells #[.bool false] 4)) 28 (.int .i64 0)
    rw [hW1] at this; simpa using this
  have C := hid (taken19 vars a n cap cs W1 hn (hc.below hf1.below))
  generalize Tru.taken vars cs = t at ht C
  have HF1 := hid hF1
  have HF2 := hid hF2
  have HF3 := hid hF3
  have HF := hid hf1
  have x0 := hf1.c0
  have x1 := hf1.c1
  clear hc hn hF1 hF2 hF3 hf1
  go_enter Try.func8, Try.ntmps8
  go_wp2_with (go_at_call 19; refine C.out.mono ?_; clear C; rintro e W2 ⟨rfl, hb⟩
               have b1 : Boxed W2 (w.heap.size + 1) 27 (.slice none 0 0) := (hb.block _ (by omega)).trans HF1.out
               have b2 : Boxed W2 (w.heap.size + 1 + 1) 4 (.bool false) := (hb.block _ (by omega)).trans HF2.out
               have b3 : Boxed W2 (w.heap.size + 1 + 1 + 1) 28 (.int .i64 0) := (hb.block _ (by omega)).trans HF3.out
               have d1 := b1.cell
               have d2 := b2.cell
               have d3 := b3.cell
               have f1 := b1.frozen
               have f2 := b2.frozen
               have f3 := b3.frozen
               have HB1 := hid b1
               have HB2 := hid b2
               have HB3 := hid b3
               have far := hid (HF.out.on hb)
               clear hb b1 b2 b3)
  refine bodyPost_ret (results_cells3 rfl _ _ rfl rfl rfl (load_box27 _ (boxed_apart (boxed_apart (HB1.out.set _) (by omega)) (by omega))) (load_box4 _ (boxed_apart ((boxed_apart HB2.out (by omega)).set _) (by omega))) (load_box28 _ ((boxed_apart (boxed_apart HB3.out (by omega)) (by omega)).set _))) rfl ?_
  exact ⟨rfl, ((far.out.below.setCell (by dsimp only; omega) _).setCell (by dsimp only; omega) _).setCell (by dsimp only; omega) _⟩

set_option maxHeartbeats 2000000 in
theorem implies14_err (vars : Int) (a ac : Option Addr) (n cap m capc : Nat) (cs : List (List Int)) (w : World) (hn : cs.length = n) (hc : Cls w a cs) (ht : ¬ Tru.taken vars cs = 0) :
    Calls Try.prog 14 #[.agg #[.int .i64 vars, .slice a n cap], .slice ac m capc] w fun e w' => e = .returned (.tuple #[.bool false, .int .i64 (Tru.taken vars cs)]) ∧ Below w.heap.size w w' := by
  obtain ⟨W1, hW1⟩ : ∃ W1, ((w.alloc (.cells #[.int .i64 vars, .slice a n cap] 24)).alloc (.cells #[.bool false] 4)).alloc (.cells #[.int .i64 0] 28) = W1 := ⟨_, rfl⟩
  have hf1 : Far w (.int .i64 vars) (.slice a n cap) W1 := by rw [← hW1]; exact ((Below.refl _ _).alloc (by simp) _).alloc (by simp) _
  have hS1 : W1.heap.size = w.heap.size + 3 := by rw [← hW1]; simp
  have hF2 : Boxed W1 (w.heap.size + 1) 4 (.bool false) := by
    have := (Boxed.new (w.alloc (.cells #[.int .i64 vars, .slice a n cap] 24)) 4 (.bool false)).alloc (.cells #[.int .i64 0] 28)
    rw [hW1] at this; simpa using this
  have hF3 : Boxed W1 (w.heap.size + 1 + 1) 28 (.int .i64 0) := by
    have := Boxed.new ((w.alloc (.cells #[.int .i64 vars, .slice a n cap] 24)).alloc (.cells #[.bool false] 4)) 28 (.int .i64 0)
    rw [hW1] at this; simpa using this
  have C := hid (taken19 vars a n cap cs W1 hn (hc.below hf1.below))
  generalize Tru.taken vars cs = t at ht C
  have HF2 := hid hF2
  have HF3 := hid hF3
  have HF := hid hf1
  have x0 := hf1.c0
  have x1 := hf1.c1
  clear hc hn hF2 hF3 hf1
  go_enter Try.func14, Try.ntmps14
  go_wp2_with (go_at_call 19; refine C.out.mono ?_; clear C; rintro e W2 ⟨rfl, hb⟩
               have b2 : Boxed W2 (w.heap.size + 1) 4 (.bool false) := (hb.block _ (by omega)).trans HF2.out
               have b3 : Boxed W2 (w.heap.size + 1 + 1) 28 (.int .i64 0) := (hb.block _ (by omega)).trans HF3.out
               have d2 := b2.cell
               have d3 := b3.cell
               have f2 := b2.frozen
               have f3 := b3.frozen
               have HB2 := hid b2
               have HB3 := hid b3
               have far := hid (HF.out.on hb)
               clear hb b2 b3)
  refine bodyPost_ret (results_cells2 rfl _ _ rfl rfl (load_box4 _ (boxed_apart (HB2.out.set _) (by omega))) (load_box28 _ ((boxed_apart HB3.out (by omega)).set _))) rfl ?_
  exact ⟨rfl, (far.out.below.setCell (by dsimp only; omega) _).setCell (by dsimp only; omega) _⟩
end Go.Proofs.Ytccncojidkdddaa
