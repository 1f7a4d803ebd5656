/- The iterator over a table's models, as a loop meets it. -/
import Derived.Test.YthpebfojkpnojaaGreatJau
import Derived.Test.YthpebfojkpnojaaGreatJba
import Derived.Test.YthpebfojkpnojaaGreatJar
import Derived.Test.YthpebfojkpnojaaGreatJav
/- The iterator over a table's models, as a loop meets it. -/
namespace Go.Proofs.YthpebfojkpnojaaGreat.Tr
open Go.RowKit Go.Lib Go.Sort Go.Shelf
set_option linter.unusedVariables false
set_option linter.unusedSimpArgs false

theorem TabO.open_row {T g cap : Nat} {ms : List (Nat × Nat)} {bb : Int} {o : Option Addr} {W : World} (h : TabO T g cap ms bb o W) : ∀ a, o = some a → ∃ cur fr, W.heap[a.block]? = some (.cells cur 122 fr) := by
  obtain ⟨no, cap2, os, hT, hg, hH, hos, hno, hown, hop⟩ := h
  intro a ha
  subst ha
  rcases hown.2 with ⟨e, _⟩ | ⟨b, c, cur, e1, h1, h2, h3⟩
  · cases e
  · injection e1 with e1 e2 e3
    injection e1 with e1
    subst e1
    exact ⟨_, _, h2⟩
theorem TabO.row {T g cap : Nat} {ms : List (Nat × Nat)} {bb : Int} {o : Option Addr} {W : World} (h : TabO T g cap ms bb o W) : ∃ cur fr, W.heap[T]? = some (.cells cur 154 fr) := by
  obtain ⟨no, cap2, os, hT, _⟩ := h
  exact ⟨_, _, hT⟩

/-- What the iterator owns: its table, and its two variables. -/
def Own35 (T g cap bv ba u : Nat) (ms : List (Nat × Nat)) (W : World) : Prop :=
  ∃ (bb : Int) (o : Option Addr), TabO T g cap ms bb o W ∧ Boxed W bv 3 (.int .i64 u) ∧ Boxed W ba 127 (.func (.func 75) #[.pointer (some ⟨T, 0, none⟩)] #[])
theorem cells_of_cell {W : World} {p : Addr} {v : Value} (h : W.cell? p = some v) : ∃ o : Obj, W.heap[p.block]? = some o ∧ o.isCells = true := by
  unfold World.cell? at h
  cases e : W.heap[p.block]? with
  | none => rw [e] at h; simp at h
  | some o =>
    cases o <;> first
      | exact ⟨_, rfl, rfl⟩
      | (rw [e] at h; simp at h)

theorem Own35.up {C T g cap bv ba u : Nat} {ms : List (Nat × Nat)} (hg : C ≤ g) (hbv : C ≤ bv) (hba : C ≤ ba) (A B : World) (h : Own35 T g cap bv ba u ms A) (hu : Up C A B) : Own35 T g cap bv ba u ms B := by
  obtain ⟨bb, o, ht, h1, h2⟩ := h
  obtain ⟨no, cap2, os, hT, hgT, hH, hos, hno, hown, hop⟩ := ht
  refine ⟨bb, o, ⟨no, cap2, os, hu.same _ _ (by omega) hT rfl, hgT, fun t ht => ?_, hos, hno, ⟨hown.1, ?_⟩, hop⟩, hu.same _ _ hbv h1 rfl, hu.same _ _ hba h2 rfl⟩
  · have := hH t ht
    obtain ⟨x, hx, hxc⟩ := cells_of_cell this.1
    have hk : B.heap[g]? = A.heap[g]? := by rw [hx]; exact hu.same _ _ hg hx hxc
    exact ⟨by rw [← this.1]; simp [World.cell?, hk], by rw [← this.2]; exact frozen_block hk⟩
  · rcases hown.2 with h0 | ⟨b, c, cur, e1, h1, h2, h3⟩
    · exact .inl h0
    · exact .inr ⟨b, c, cur, e1, h1, hu.same _ _ (by omega) h2 rfl, h3⟩

theorem turn_ask {C T : Nat} {o o' : Option Addr} {W W' : World} (hT : C ≤ T) (hb : Below T W W') (hu : Turn T o o' W W') (hrow : ∃ cur fr, W.heap[T]? = some (.cells cur 154 fr)) (ho : ∀ a, o = some a → ∃ cur fr, W.heap[a.block]? = some (.cells cur 122 fr)) : Ask C W W' where
  below := hb.mono hT
  other := fun k x hk hx => by
    rw [hu.same k (Array.getElem?_eq_some_iff.1 hk).1 ?_ ?_]
    · exact hk
    · rintro rfl
      obtain ⟨cur, fr, hr⟩ := hrow
      rw [hr] at hk
      cases hk
      cases hx
    · rintro a ha rfl
      obtain ⟨cur, fr, hr⟩ := ho a ha
      rw [hr] at hk
      cases hk
      cases hx

theorem iter_made (C u : Nat) (cs : List (List Int)) (T g cap bv ba : Nat) (ms : List (Nat × Nat)) (hu : u ≤ 16) (hC : C ≤ g) (hv : ∀ c ∈ cs, ∀ l ∈ c, 1 ≤ Cnt.vr l ∧ Cnt.vr l ≤ u) (hm : ∀ p, p ∈ ms ↔ p ∈ Tru.masks cs) (hl : ms.length ≤ 1048576) :
    IterU Tryz.prog 101 #[.pointer (some ⟨bv, 0, none⟩), .pointer (some ⟨ba, 0, none⟩)] C (2 ^ u) (Tru.sat cs u) (Own35 T g cap bv ba u ms) := by
  refine models35 C T u bv ba (Tru.sat cs u) _ hu (fun W h => by obtain ⟨_, _, _, h, _⟩ := h; exact h) (fun W h => by obtain ⟨_, _, _, _, h⟩ := h; exact h) fun k W hk hS => ?_
  obtain ⟨bb, o, ht, h1, h2⟩ := hS
  have hk2 : k < 65536 := Nat.lt_of_lt_of_le hk (pow16 u hu).2
  refine (holds22f T g cap k ms bb o W hk2 hl (fun p hp => Tru.masks_small cs u hu hv p ((hm p).1 hp)) ht).mono ?_
  rintro e w' ⟨he, o', ht', hb, hturn⟩
  obtain ⟨l1, l2, l3⟩ := ht.lt
  have keep : ∀ (b : Nat) (t : TypeId) (v : Value), Boxed W b t v → t ≠ 154 → t ≠ 122 → Boxed w' b t v := fun b t v hbx h67 h56 => by
    refine (hturn.same b hbx.lt ?_ ?_).trans hbx
    · intro hbT
      obtain ⟨cur, fr, hr⟩ := ht.row
      rw [← hbT] at hr
      have := (show W.heap[b]? = _ from hbx).symm.trans hr
      cases this
      exact h67 rfl
    · intro a ha hbT
      obtain ⟨cur, fr, hr⟩ := ht.open_row a ha
      rw [← hbT] at hr
      have := (show W.heap[b]? = _ from hbx).symm.trans hr
      cases this
      exact h56 rfl
  refine ⟨by rw [he, Tru.masks_holds cs ms u k hu hv hm]; rfl, ⟨_, o', ht', keep _ _ _ h1 (by decide) (by decide), keep _ _ _ h2 (by decide) (by decide)⟩, turn_ask (by omega) hb hturn ht.row ht.open_row⟩
end Go.Proofs.YthpebfojkpnojaaGreat.Tr

/- Find, Count and Implies where the formula is not taken; how a function leaves behind one loop; results that lie in cells. -/
namespace Go.Proofs.YthpebfojkpnojaaGreat.Tr
open Go.RowKit
set_option linter.unusedVariables false
set_option linter.unusedSimpArgs false

variable {P : Program} in
/-- A function leaves behind one loop over a function: the loop's block holds no call. -/
theorem leave_one {n D : Nat} {fn : Func} {tmps : Array Value} {R : Ending → World → Prop} {W : World} (hd : W.heap[D]? = some (.deferred (some [])))
    (h : ∃ v, (results fn tmps).run P (W.putObj D (.deferred none)) = .ok v (W.putObj D (.deferred none)) ∧ R (.returned v) (W.putObj D (.deferred none))) : LeavesInM Fence.wide n P fn tmps R [{ target := .collected D, args := #[] }] .returning W :=
  ⟨by simp, .inl ⟨D, _, rfl, run_takeDeferred hd, h⟩⟩
variable {P : Program} in
theorem leave_none {n : Nat} {fn : Func} {tmps : Array Value} {R : Ending → World → Prop} {W : World}
    (h : ∃ v, (results fn tmps).run P W = .ok v W ∧ R (.returned v) W) : LeavesInM Fence.wide n P fn tmps R [] .returning W := h

theorem results_cells3 {P : Program} {fn : Func} {p q r : Tmp} {t u v : TypeId} (h : fn.results = #[.cell p t, .cell q u, .cell r v]) (tmps : Array Value) (w : World) {ap aq ar : Addr} {x y z : Value}
    (hp : tmps.getD p undef = .pointer (some ap)) (hq : tmps.getD q undef = .pointer (some aq)) (hr : tmps.getD r undef = .pointer (some ar))
    (hx : (loadVar t ap).run P w = .ok x w) (hy : (loadVar u aq).run P w = .ok y w) (hz : (loadVar v ar).run P w = .ok z w) : (results fn tmps).run P w = .ok (.tuple #[x, y, z]) w := by
  simp only [results, h, List.mapM_toArray]
  simp only [Array.getD_eq_getD_getElem?] at hp hq hr
  simp [Sem.run_bind, Result.andThen, hp, hq, hr, asAddr, hx, hy, hz]
theorem results_cells2 {P : Program} {fn : Func} {p q : Tmp} {t u : TypeId} (h : fn.results = #[.cell p t, .cell q u]) (tmps : Array Value) (w : World) {ap aq : Addr} {x y : Value}
    (hp : tmps.getD p undef = .pointer (some ap)) (hq : tmps.getD q undef = .pointer (some aq))
    (hx : (loadVar t ap).run P w = .ok x w) (hy : (loadVar u aq).run P w = .ok y w) : (results fn tmps).run P w = .ok (.tuple #[x, y]) w := by
  simp only [results, h, List.mapM_toArray]
  simp only [Array.getD_eq_getD_getElem?] at hp hq
  simp [Sem.run_bind, Result.andThen, hp, hq, asAddr, hx, hy]
theorem boxed_apart {W : World} {B : Nat} {t : TypeId} {v : Value} {b k : Nat} {u : Value} (h : Boxed W B t v) (hne : B ≠ b) : Boxed (W.setCell ⟨b, k, none⟩ u) B t v := (heap_other W u hne).trans h
theorem load_box27 (w : World) {b : Nat} {t : TypeId} {v : Value} (h : Boxed w b t v) : (loadVar 62 ⟨b, 0, none⟩).run Tryz.prog w = .ok v w := by
  have := h.cell
  simp [loadVar, go_sem, this]
theorem load_box4 (w : World) {b : Nat} {t : TypeId} {v : Value} (h : Boxed w b t v) : (loadVar 4 ⟨b, 0, none⟩).run Tryz.prog w = .ok v w := by
  have := h.cell
  simp [loadVar, go_sem, this]
theorem load_box28 (w : World) {b : Nat} {t : TypeId} {v : Value} (h : Boxed w b t v) : (loadVar 29 ⟨b, 0, none⟩).run Tryz.prog w = .ok v w := by
  have := h.cell
  simp [loadVar, go_sem, this]

set_option maxHeartbeats 2000000 in
theorem find8_err (vars : Int) (a : Option Addr) (n cap : Nat) (cs : List (List Int)) (w : World) (hn : cs.length = n) (hc : Cls w a cs) (ht : ¬ Tru.taken vars cs = 0) :
    Calls Tryz.prog 28 #[.agg #[.int .i64 vars, .slice a n cap]] w fun e w' => e = .returned (.tuple #[.slice none 0 0, .bool false, .int .i64 (Tru.taken vars cs)]) ∧ Below w.heap.size w w' := by
  obtain ⟨W1, hW1⟩ : ∃ W1, (((w.alloc (.cells #[.int .i64 vars, .slice a n cap] 24)).alloc (.cells #[.slice none 0 0] 62)).alloc (.cells #[.bool false] 4)).alloc (.cells #[.int .i64 0] 29) = W1 := ⟨_, rfl⟩
  have hf1 : Far w (.int .i64 vars) (.slice a n cap) W1 := by rw [← hW1]; exact (((Below.refl _ _).alloc (by simp) _).alloc (by simp) _).alloc (by simp) _
  have hS1 : W1.heap.size = w.heap.size + 4 := by rw [← hW1]; simp
  have hF1 : Boxed W1 (w.heap.size + 1) 62 (.slice none 0 0) := by
    have := ((Boxed.new (w.alloc (.cells #[.int .i64 vars, .slice a n cap] 24)) 62 (.slice none 0 0)).alloc (.cells #[.bool false] 4)).alloc (.cells #[.int .i64 0] 29)
    rw [hW1] at this; simpa using this
  have hF2 : Boxed W1 (w.heap.size + 1 + 1) 4 (.bool false) := by
    have := (Boxed.new ((w.alloc (.cells #[.int .i64 vars, .slice a n cap] 24)).alloc (.cells #[.slice none 0 0] 62)) 4 (.bool false)).alloc (.cells #[.int .i64 0] 29)
    rw [hW1] at this; simpa using this
  have hF3 : Boxed W1 (w.heap.size + 1 + 1 + 1) 29 (.int .i64 0) := by
    have := Boxed.new (((w.alloc (.cells #[.int .i64 vars, .slice a n cap] 24)).alloc (.cells #[.slice none 0 0] 62)).alloc (.cells #[.bool false] 4)) 29 (.int .i64 0)
    rw [hW1] at this; simpa using this
  have C := hid (taken19 vars a n cap cs W1 hn (hc.below hf1.below))
  generalize Tru.taken vars cs = t at ht C
  have HF1 := hid hF1
  have HF2 := hid hF2
  have HF3 := hid hF3
  have HF := hid hf1
  have x0 := hf1.c0
  have x1 := hf1.c1
  clear hc hn hF1 hF2 hF3 hf1
  go_enter Tryz.func28, Tryz.ntmps28
  go_wp2_with (go_at_call 70; refine C.out.mono ?_; clear C; rintro e W2 ⟨rfl, hb⟩
               have b1 : Boxed W2 (w.heap.size + 1) 62 (.slice none 0 0) := (hb.block _ (by omega)).trans HF1.out
               have b2 : Boxed W2 (w.heap.size + 1 + 1) 4 (.bool false) := (hb.block _ (by omega)).trans HF2.out
               have b3 : Boxed W2 (w.heap.size + 1 + 1 + 1) 29 (.int .i64 0) := (hb.block _ (by omega)).trans HF3.out
               have d1 := b1.cell
               have d2 := b2.cell
               have d3 := b3.cell
               have f1 := b1.frozen
               have f2 := b2.frozen
               have f3 := b3.frozen
               have HB1 := hid b1
               have HB2 := hid b2
               have HB3 := hid b3
               have far := hid (HF.out.on hb)
               clear hb b1 b2 b3)
  refine bodyPost_ret (results_cells3 rfl _ _ rfl rfl rfl (load_box27 _ (boxed_apart (boxed_apart (HB1.out.set _) (by omega)) (by omega))) (load_box4 _ (boxed_apart ((boxed_apart HB2.out (by omega)).set _) (by omega))) (load_box28 _ ((boxed_apart (boxed_apart HB3.out (by omega)) (by omega)).set _))) rfl ?_
  exact ⟨rfl, ((far.out.below.setCell (by dsimp only; omega) _).setCell (by dsimp only; omega) _).setCell (by dsimp only; omega) _⟩

set_option maxHeartbeats 2000000 in
theorem implies14_err (vars : Int) (a ac : Option Addr) (n cap m capc : Nat) (cs : List (List Int)) (w : World) (hn : cs.length = n) (hc : Cls w a cs) (ht : ¬ Tru.taken vars cs = 0) :
    Calls Tryz.prog 21 #[.agg #[.int .i64 vars, .slice a n cap], .slice ac m capc] w fun e w' => e = .returned (.tuple #[.bool false, .int .i64 (Tru.taken vars cs)]) ∧ Below w.heap.size w w' := by
  obtain ⟨W1, hW1⟩ : ∃ W1, ((w.alloc (.cells #[.int .i64 vars, .slice a n cap] 24)).alloc (.cells #[.bool false] 4)).alloc (.cells #[.int .i64 0] 29) = W1 := ⟨_, rfl⟩
  have hf1 : Far w (.int .i64 vars) (.slice a n cap) W1 := by rw [← hW1]; exact ((Below.refl _ _).alloc (by simp) _).alloc (by simp) _
  have hS1 : W1.heap.size = w.heap.size + 3 := by rw [← hW1]; simp
  have hF2 : Boxed W1 (w.heap.size + 1) 4 (.bool false) := by
    have := (Boxed.new (w.alloc (.cells #[.int .i64 vars, .slice a n cap] 24)) 4 (.bool false)).alloc (.cells #[.int .i64 0] 29)
    rw [hW1] at this; simpa using this
  have hF3 : Boxed W1 (w.heap.size + 1 + 1) 29 (.int .i64 0) := by
    have := Boxed.new ((w.alloc (.cells #[.int .i64 vars, .slice a n cap] 24)).alloc (.cells #[.bool false] 4)) 29 (.int .i64 0)
    rw [hW1] at this; simpa using this
  have C := hid (taken19 vars a n cap cs W1 hn (hc.below hf1.below))
  generalize Tru.taken vars cs = t at ht C
  have HF2 := hid hF2
  have HF3 := hid hF3
  have HF := hid hf1
  have x0 := hf1.c0
  have x1 := hf1.c1
  clear hc hn hF2 hF3 hf1
  go_enter Tryz.func21, Tryz.ntmps21
  go_wp2_with (go_at_call 70; refine C.out.mono ?_; clear C; rintro e W2 ⟨rfl, hb⟩
               have b2 : Boxed W2 (w.heap.size + 1) 4 (.bool false) := (hb.block _ (by omega)).trans HF2.out
               have b3 : Boxed W2 (w.heap.size + 1 + 1) 29 (.int .i64 0) := (hb.block _ (by omega)).trans HF3.out
               have d2 := b2.cell
               have d3 := b3.cell
               have f2 := b2.frozen
               have f3 := b3.frozen
               have HB2 := hid b2
               have HB3 := hid b3
               have far := hid (HF.out.on hb)
               clear hb b2 b3)
  refine bodyPost_ret (results_cells2 rfl _ _ rfl rfl (load_box4 _ (boxed_apart (HB2.out.set _) (by omega))) (load_box28 _ ((boxed_apart HB3.out (by omega)).set _))) rfl ?_
  exact ⟨rfl, (far.out.below.setCell (by dsimp only; omega) _).setCell (by dsimp only; omega) _⟩
end Go.Proofs.YthpebfojkpnojaaGreat.Tr

/- How many models there are, by the program. -/
namespace Go.Proofs.YthpebfojkpnojaaGreat.Tr
open Go.RowKit Go.Lib Go.Sort Go.Shelf
set_option linter.unusedVariables false
set_option linter.unusedSimpArgs false

theorem Up.set {C b k : Nat} (W : World) (v : Value) (h : b < C) : Up C W (W.setCell ⟨b, k, none⟩ v) := ⟨by simp [World.setCell], fun i o hi ho _ => (heap_other W v (by omega)).trans ho⟩
theorem keeps_set {B b k : Nat} (W : World) (v : Value) (h : b < B) : KeepsFrom B W (W.setCell ⟨b, k, none⟩ v) := ⟨by simp [World.setCell], fun i o hi ho _ => (heap_other W v (by omega)).trans ho⟩

attribute [local go_sem] Oper.semAt_some
end Go.Proofs.YthpebfojkpnojaaGreat.Tr

