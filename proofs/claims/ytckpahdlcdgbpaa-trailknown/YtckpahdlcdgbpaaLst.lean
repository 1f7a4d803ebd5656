/- Lits, Model. -/
import Derived.Test.YtckpahdlcdgbpaaDec2
namespace Go.Proofs.Ytckpahdlcdgbpaa
open Go.RowKit Go.Maps
set_option linter.unusedVariables false

theorem one_ints (k : IntKind) (xs : List Int) : ∀ u ∈ xs.map (Value.int k), u.oneCell' = true := by
  intro u hu; obtain ⟨x, _, rfl⟩ := List.mem_map.1 hu; rfl
def CloneOut (w : World) (xs : List Int) (n : Nat) (e : Ending) (w' : World) : Prop :=
  ∃ o k, e = .returned (.slice o n k) ∧ w'.ownsRow w.heap.size 33 1 (.slice o n k) n (xs.map (Value.int .i32)) ∧ Below w.heap.size w w'
set_option maxRecDepth 100000 in
set_option maxHeartbeats 2000000 in
theorem clone46 (a : Option Addr) (n c : Nat) (xs : List Int) (w : World) (hn : xs.length = n) (hb : n ≤ 16777216) (hx : Lits w a xs) :
    Calls Try.prog 46 #[.slice a n c] w fun e w' => CloneOut w xs n e w' := by
  cases a with
  | none =>
    have hx0 : xs = [] := by
      rcases hx.2 with h | ⟨b, off, e, _⟩
      · exact h
      · cases e
    subst hx0
    obtain rfl : n = 0 := by simpa using hn.symm
    have HF : Hid (CloneOut w [] 0 (.returned (.slice none 0 0)) w) := ⟨none, 0, rfl, World.ownsRow_nil _ _ _ _, Below.refl _ _⟩
    clear hx hn
    have hnil : ∀ W, (binOp .eql 40 (.slice none 0 c) (.slice none 0 0)).run Try.prog W = .ok (.bool true) W := fun W => by kernel_rfl
    go_enter Try.func46, Try.ntmps46
    go_wp2
    go_ret
    exact HF.out
  | some ad =>
    obtain ⟨i0, hi, hz⟩ := Option.map_eq_some_iff.1 info33
    simp only [Prod.mk.injEq] at hz
    have hB1 := below_box w (.cells #[] 33)
    have hx1 : (w.alloc (.cells #[] 33)).heap[w.heap.size]? = some (.cells #[] 33 (0, 0)) := heap_alloc_new _ _
    have hl1 := hx.below hB1
    have hs1 : w.heap.size ≤ (w.alloc (.cells #[] 33)).heap.size := by simp
    generalize hW1 : w.alloc (.cells #[] 33) = W1 at hB1 hx1 hl1 hs1
    have ho1 : W1.ownsRow w.heap.size 33 1 (.slice (some ⟨w.heap.size, 0, none⟩) 0 0) 0 [] := ⟨rfl, .inr ⟨w.heap.size, 0, #[], rfl, Nat.le_refl _, hx1, Nat.le_refl _, Nat.zero_le _, rfl, rfl⟩⟩
    obtain ⟨v2, B, hr, ho2, hgb, _, _⟩ := run_append_own_at (P := Try.prog) W1 w.heap.size 40 40 33 i0 _ 1 4 Try.underlying40 hi hz.1 hz.2.1 hz.2.2 rfl (by decide) (.slice (some ⟨w.heap.size, 0, none⟩) 0 0) 0 [] ho1 ad n c (xs.map (Value.int .i32)) (by simp [hn]) (fun j u hu => by
      rw [List.getElem?_map] at hu
      obtain ⟨x, hx', rfl⟩ := Option.map_eq_some_iff.1 hu
      have hj : j < xs.length := by
        rcases Nat.lt_or_ge j xs.length with h' | h'
        · exact h'
        · rw [List.getElem?_eq_none h'] at hx'; cases hx'
      obtain ⟨b, off, e, _, hc, _, _⟩ := Row.at hl1 hj
      cases e
      rw [show (⟨b, off, none⟩ : Addr).add j = ⟨b, off + j, none⟩ by simp [Addr.add], hc]
      simp [List.getD, hx']) (one_ints _ _) (by simp [maxLen]; omega) (by omega) (by omega)
    obtain ⟨o, k, rfl⟩ := own_slc ho2
    rw [Nat.zero_add] at hr ho2
    rw [List.nil_append] at ho2
    have HR := hid hr
    have HF : Hid (CloneOut w xs n (.returned (.slice o n k)) B) := ⟨o, k, rfl, ho2, by
      refine hB1.trans ?_
      exact ⟨hgb.os, hgb.tape, hgb.output, hgb.size, fun q hq => hgb.block q (by omega) (by show some q ≠ some w.heap.size; intro e; injection e with e; omega)⟩⟩
    clear hi hz hB1 hx1 hl1 hs1 ho1 hr ho2 hgb hx hn
    have hnil : ∀ W, (binOp .eql 40 (.slice (some ad) n c) (.slice none 0 0)).run Try.prog W = .ok (.bool false) W := fun W => by kernel_rfl
    go_enter Try.func46, Try.ntmps46
    go_wp2_with (at_builtin; refine wpList_append_run rfl (.tmp 5) (.tmp 6) 40 40 rfl rfl rfl HR.out ?_)
    go_ret
    exact HF.out

theorem ilits_eq (R : List Trl.E) : ilits R = (R.map (·.lit)).map (Value.int .i32) := by simp [ilits]
/-- A row that is owned, as a row of literals. -/
theorem own_row {W : World} {base n : Nat} {o : Option Addr} {c : Nat} {xs : List Int} {e : TypeId} (h : W.ownsRow base e 1 (.slice o n c) n (xs.map (Value.int .i32))) (hx : ∀ x ∈ xs, -2147483648 ≤ x ∧ x ≤ 2147483647) : Lits W o xs := by
  have hl : xs.length = n := by have := h.1; simpa using this
  rcases Nat.eq_zero_or_pos n with h0 | hp
  · exact ⟨hx, .inl (List.eq_nil_of_length_eq_zero (by omega))⟩
  · obtain ⟨g, c', cur, e1, _, hg, _, _, _, _⟩ := own_some h hp
    cases e1
    refine ⟨hx, .inr ⟨g, 0, rfl, lt_of_blk hg, fun j hj => ?_⟩⟩
    have := h.cellAt j (by omega)
    rw [Nat.zero_add, this, List.getElem?_map, List.getD, List.getElem?_eq_getElem hj]
    rfl
theorem Trl.Ok.i32 {n : Nat} {s : Trl.S} (h : Trl.Ok n s) : ∀ x ∈ s.R.map (·.lit), -2147483648 ≤ x ∧ x ≤ 2147483647 := by
  intro x hx
  obtain ⟨e, he, rfl⟩ := List.mem_map.1 hx
  have h1 := h.lits e he
  have h2 := h.n
  unfold Trl.vr at h1
  split at h1 <;> omega
set_option maxRecDepth 100000 in
set_option maxHeartbeats 1000000 in
theorem lits22 {Q : Nat → Prop} {tb n : Nat} {s : Trl.S} {W : World} (H : Trx Q tb n s W) :
    Calls Try.prog 22 #[.pointer (some ⟨tb, 0, none⟩)] W fun e w' => CloneOut W (s.R.map (·.lit)) s.R.length e w' := by
  obtain ⟨gv, lv, bv, h1, h2⟩ := H
  obtain ⟨o, c, rfl⟩ := own_slc h1.lits
  have hlen := h2.len
  have hn := h2.n
  have hrow := h1.lits
  rw [ilits_eq] at hrow
  have C := hid (clone46 o s.R.length c (s.R.map (·.lit)) W (by simp) (by omega) (own_row hrow (Trl.Ok.i32 h2)))
  have c1 := row_cell h1.blk 1
  clear h1 h2 hrow
  go_enter Try.func22, Try.ntmps22
  go_wp2_with (fail)
  go_at_call 46
  refine C.out.mono ?_
  rintro e w2 ⟨o', k', rfl, ho, hb⟩
  have HO := hid (show CloneOut W (s.R.map (·.lit)) s.R.length (.returned (.slice o' s.R.length k')) w2 from ⟨o', k', rfl, ho, hb⟩)
  clear ho hb C
  go_wp2
  go_ret
  exact HO.out
/-- A model, told. -/
def ModelOut (W : World) (ms : List Bool) (n : Nat) (b : Bool) (e : Ending) (w' : World) : Prop :=
  ∃ o k, e = .returned (.tuple #[.slice o n k, .bool b]) ∧ w'.ownsRow W.heap.size 4 1 (.slice o n k) n (ms.map Value.bool) ∧ Below W.heap.size W w'
set_option maxRecDepth 100000 in
set_option maxHeartbeats 1000000 in
theorem model15_no {Q : Nat → Prop} {tb n : Nat} {s : Trl.S} {W : World} (H : Trx Q tb n s W) (h : s.R.length ≠ n) :
    Calls Try.prog 15 #[.pointer (some ⟨tb, 0, none⟩)] W fun e w' => ModelOut W [] 0 false e w' := by
  obtain ⟨gv, lv, bv, h1, h2⟩ := H
  obtain ⟨o, c, rfl⟩ := own_slc h1.lits
  have hlen := h2.len
  have hn := h2.n
  have c0 := row_cell h1.blk 0
  have c1 := row_cell h1.blk 1
  have hlt : (s.R.length : Int) < n := by omega
  have HO := hid (fun w' hb => show ModelOut W [] 0 false (.returned (.tuple #[.slice none 0 0, .bool false])) w' from ⟨none, 0, rfl, World.ownsRow_nil _ _ _ _, hb⟩)
  clear h1 h2
  go_enter Try.func15, Try.ntmps15
  go_wp2
  go_quiet (fail)
  go_wp2
  go_ret2
  exact HO.out _ (Drawn.below ⟨_, rfl⟩)
/-- The model while it is made: k of its values. -/
def Mb (W : World) (gm n : Nat) (R : List Trl.E) (k : Nat) (wr : World) : Prop := Below W.heap.size W wr ∧ ∃ cur : Array Value, wr.heap[gm]? = some (.cells cur 4 (0, 0)) ∧ cur.size = n ∧ ∀ t, t < k → cur[t]? = some (.bool (decide (0 < (Trl.know R ((t : Nat) + 1)).lit)))
theorem mk_mb (W : World) (q n : Nat) (R : List Trl.E) : Mb W W.heap.size n R 0 ((W.drewN q).alloc (.cells (madeCells #[Value.bool false] n) 4)) :=
  ⟨(Drawn.below ⟨q, rfl⟩).trans (below_box (W.drewN q) _), _, heap_alloc_new (W.drewN q) _, size_madeCells _ _, fun t ht => by omega⟩
theorem Mb.step {W : World} {gm n : Nat} {R : List Trl.E} {k : Nat} {wr : World} (h : Mb W gm n R k wr) (hg : gm = W.heap.size) (hk : k < n) (o' : Obj) : (∃ u, (wr.alloc o').cell? ⟨gm, k, none⟩ = some u) ∧ (wr.alloc o').frozen? ⟨gm, k, none⟩ = false ∧ ∀ b, b = decide (0 < (Trl.know R ((k : Nat) + 1)).lit) → Mb W gm n R (k + 1) ((wr.alloc o').setCell ⟨gm, k, none⟩ (.bool b)) := by
  obtain ⟨h1, cur, h2, h3, h4⟩ := h
  have hb := ((below_box wr o').block gm (lt_of_blk h2)).trans h2
  refine ⟨⟨cur[k], by rw [row_cell hb]; exact Array.getElem?_eq_getElem (by omega)⟩, row_frozen hb k, fun b he => ⟨(h1.alloc h1.size o').setCell (by show W.heap.size ≤ gm; omega) _, _, heap_set_row hb _, by simpa using h3, fun t ht => ?_⟩⟩
  by_cases e : t = k
  · subst e; rw [he, Array.getElem?_setIfInBounds_self_of_lt (by omega)]
  · rw [Array.getElem?_setIfInBounds_ne (Ne.symm e)]; exact h4 t (by omega)
theorem Mb.done {W : World} {gm n : Nat} {R : List Trl.E} {wr : World} (h : Mb W gm n R n wr) (hg : gm = W.heap.size) (hn : n ≤ 1048576) : ModelOut W (Trl.model n R) n true (.returned (.tuple #[.slice (some ⟨gm, 0, none⟩) n n, .bool true])) wr := by
  obtain ⟨h1, cur, h2, h3, h4⟩ := h
  refine ⟨_, _, rfl, own_mk (by omega) h2 (Nat.le_refl _) (by unfold maxLen; omega) h3 ?_, h1⟩
  apply List.ext_getElem?
  intro i
  rcases Nat.lt_or_ge i n with hi | hi
  · rw [List.getElem?_take_of_lt hi, Array.getElem?_toList, h4 i hi]
    simp [Trl.model, hi]
  · rw [List.getElem?_eq_none (by simp; omega), List.getElem?_eq_none (by simp [Trl.model]; omega)]
set_option maxRecDepth 100000 in
set_option maxHeartbeats 1000000 in
theorem model15_ok {Q : Nat → Prop} {tb n : Nat} {s : Trl.S} {W : World} (H : Trx Q tb n s W) (h : s.R.length = n) :
    Calls Try.prog 15 #[.pointer (some ⟨tb, 0, none⟩)] W fun e w' => ModelOut W (Trl.model n s.R) n true e w' := by
  obtain ⟨gv, lv, bv, h1, h2⟩ := H
  have HT := hid h1
  obtain ⟨o, c, rfl⟩ := own_slc h1.lits
  have hlen := h2.len
  have hn := h2.n
  have c0 := row_cell h1.blk 0
  have c1 := row_cell h1.blk 1
  rw [h] at c1
  have hlt : ¬ (s.R.length : Int) < n := by omega
  obtain ⟨i0, hi, hz⟩ := Option.map_eq_some_iff.1 info4
  simp only [Prod.mk.injEq] at hz
  have hmk := fun W => run_makeSlice (P := Try.prog) W 46 4 i0 (.bool false) Try.underlying46 hi hz.1 .i64 .i64 (n : Int) (n : Int) (by omega) (Int.le_refl _) (by rw [hz.2.1]; omega) (by rw [hz.2.2]; omega) (by omega)
  simp only [hz.2.1, Nat.mul_one, Int.toNat_natCast] at hmk
  have d0 := fun q o' => (World.cell?_of_block (w := W.drewN q) (a := ⟨tb, 0, none⟩) ((below_box (W.drewN q) o').block tb (lt_of_blk h1.blk))).trans c0
  clear h1 h2 hi hz
  go_enter Try.func15, Try.ntmps15
  go_wp2
  go_quiet (fail)
  go_wp2
  clear d0 c0 c1 hmk
  have hst := mk_mb W nq n s.R
  obtain ⟨gm, hgm⟩ : ∃ gm, gm = W.heap.size := ⟨_, rfl⟩
  rw [← hgm] at hst ⊢
  have HST := hid hst
  have HG := hid hgm
  clear hst hgm
  generalize (W.drewN nq).alloc (.cells (madeCells #[Value.bool false] n) 4) = X at *
  go_loopw [33] (fun i wr => ∃ k : Nat, k ≤ n ∧ i = .int .i64 k ∧ Hid (Mb W gm n s.R k wr)) (fun i _ => n - (intOf i).toNat)
  case atStart => exact ⟨0, Nat.zero_le _, rfl, HST⟩
  case round =>
    obtain ⟨k, hk, rfl, HM⟩ := hrel
    by_cases hkn : k < n
    · have hkn' : (k : Int) < n := by omega
      obtain ⟨q0, q1, q2, q3, _⟩ := (HT.out.below HM.out.1).cells hkn
      obtain ⟨⟨u, hu⟩, hf, hs⟩ := HM.out.step HG.out hkn (.cells #[.int .i32 (Trl.know s.R ((k : Nat) + 1)).lit, .int .i64 (Trl.know s.R ((k : Nat) + 1)).lev, .int .i64 (Trl.know s.R ((k : Nat) + 1)).rea, .int .i64 (Trl.know s.R ((k : Nat) + 1)).pla] 74)
      generalize Trl.know s.R ((k : Nat) + 1) = kk at *
      have HS := hid hs
      clear hs HM
      go_wp2
      go_roundw
      case rel => exact ⟨k + 1, by omega, by go_num, hid (HS.out _ rfl)⟩
      case measure => simp [intOf]; omega
    · have hkn' : ¬ (k : Int) < n := by omega
      obtain rfl : k = n := by omega
      have HO := hid (HM.out.done HG.out hn)
      clear HM
      go_wp2
      go_ret2
      exact HO.out
end Go.Proofs.Ytckpahdlcdgbpaa
