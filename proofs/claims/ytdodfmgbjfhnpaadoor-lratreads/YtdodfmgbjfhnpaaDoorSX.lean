/- What lies in memory while the document reads a line. -/
import Derived.Test.YtdodfmgbjfhnpaaDoorRWrd
import Derived.Test.YtdodfmgbjfhnpaaDoorRNum
import Derived.Test.YtdodfmgbjfhnpaaDoorRSpec
import Derived.Test.YtdodfmgbjfhnpaaDoorMem
import Derived.Test.YtdodfmgbjfhnpaaDoorPar
namespace Go.Proofs.YtdodfmgbjfhnpaaDoor
open Go.RowKit
set_option linter.unusedVariables false
set_option linter.unusedSimpArgs false

/-- The step that is being made, in block xb; the words; the answer's cells in block n. -/
structure SX (n xb : Nat) (w W : World) (ws : List ByteArray) (v : Value) (kd id : Int) (ls hs : List Int) (lv hv : Value) : Prop where
  bx : W.heap[xb]? = some (.cells #[.int .u8 kd, .int .i64 id, lv, hv] 43 (0, 0))
  lo : W.ownsRow (xb + 1) 44 1 lv ls.length (ls.map (Value.int .i32))
  ho : W.ownsRow (xb + 1) 2 1 hv hs.length (hs.map (Value.int .i64))
  wo : W.ownsRow (n + 1) 9 1 v ws.length (ws.map Value.string)
  r0 : W.heap[n]? = some (.cells #[.int .u8 0, .int .i64 0, .slice none 0 0, .slice none 0 0] 43 (0, 0))
  bw : Below n w W
  lt : n < xb
section
variable {n xb : Nat} {w W : World} {ws : List ByteArray} {v : Value} {kd id : Int} {ls hs : List Int} {lv hv : Value}
theorem SX.size (h : SX n xb w W ws v kd id ls hs lv hv) : xb < W.heap.size := (Array.getElem?_eq_some_iff.1 h.bx).1
theorem SX.word (h : SX n xb w W ws v kd id ls hs lv hv) {j : Nat} (hj : j < ws.length) : ∃ g c, v = .slice (some ⟨g, 0, none⟩) ws.length c ∧ W.cell? ⟨g, j, none⟩ = some (.string ws[j]) := by
  rcases h.wo.2 with ⟨_, h0⟩ | ⟨g, c, cur, e, _⟩
  · omega
  · refine ⟨g, c, e, ?_⟩
    have := h.wo.cells (g := g) (by rw [e]; rfl) j (.string ws[j]) (by rw [List.getElem?_map, List.getElem?_eq_getElem hj]; rfl)
    have ha : (⟨g, 0, none⟩ : Addr).add j = ⟨g, j, none⟩ := by
      rw [Go.WideShapes.add_plain, Nat.zero_add]
    rwa [ha] at this
theorem SX.kept {W' : World} (h : SX n xb w W ws v kd id ls hs lv hv) (hk : ∀ (i : Nat) (o : Obj), W.heap[i]? = some o → W'.heap[i]? = some o) (hb : Below n W W') : SX n xb w W' ws v kd id ls hs lv hv :=
  ⟨hk _ _ h.bx, own_keep h.lo (fun g cs _ hg => (hk g _ hg).trans hg.symm), own_keep h.ho (fun g cs _ hg => (hk g _ hg).trans hg.symm), own_keep h.wo (fun g cs _ hg => (hk g _ hg).trans hg.symm), hk _ _ h.r0, h.bw.trans hb, h.lt⟩
theorem SX.below {W' : World} (h : SX n xb w W ws v kd id ls hs lv hv) (hb : Below W.heap.size W W') : SX n xb w W' ws v kd id ls hs lv hv :=
  h.kept (fun i o hi => (hb.block i (Array.getElem?_eq_some_iff.1 hi).1).trans hi) (hb.mono (by have := h.size; have := h.lt; omega))
theorem SX.kind (h : SX n xb w W ws v kd id ls hs lv hv) (kd' : Int) : SX n xb w (W.setCell ⟨xb, 0, none⟩ (.int .u8 kd')) ws v kd' id ls hs lv hv :=
  ⟨by rw [heap_set_row (k := 0) h.bx]; rfl, own_set h.lo (by omega) _, own_set h.ho (by omega) _, own_keep h.wo (fun g cs _ hg => heap_other _ _ (fun e => by subst e; rw [h.bx] at hg; cases hg)), (heap_other _ _ (by have := h.lt; omega)).trans h.r0, h.bw.setCell (by dsimp only; have := h.lt; omega) _, h.lt⟩
/-- A literal more. -/
theorem SX.lit (h : SX n xb w W ws v kd id ls hs lv hv) (hl : ls.length ≤ 16777216) (x : Int) :
    ∃ o c B, (Builtin.append_ #[40, 40] 40 #[lv, .slice (some ⟨W.heap.size, 0, none⟩) 1 1]).run Tryd.prog (W.alloc (.cells #[.int .i32 x] 44)) = .ok (.slice o (ls.length + 1) c) B ∧
      B.heap[xb]? = W.heap[xb]? ∧ SX n xb w (B.setCell ⟨xb, 2, none⟩ (.slice o (ls.length + 1) c)) ws v kd id (ls ++ [x]) hs (.slice o (ls.length + 1) c) hv := by
  obtain ⟨i0, hi, hz⟩ := Option.map_eq_some_iff.1 info44
  simp only [Prod.mk.injEq] at hz
  obtain ⟨hz0, hz1, hz2⟩ := hz
  obtain ⟨W1, hW1⟩ : ∃ W1, W.alloc (.cells #[.int .i32 x] 44) = W1 := ⟨_, rfl⟩
  have hM : W1.heap[W.heap.size]? = some (.cells #[.int .i32 x] 44 (0, 0)) := by rw [← hW1]; exact heap_alloc_new _ _
  have h01 : Below W.heap.size W W1 := by rw [← hW1]; exact below_box _ _
  have hs1 : W1.heap.size = W.heap.size + 1 := by rw [← hW1]; simp
  have hop := own_below h.lo h01
  have hxs := h.size
  have hlt := h.lt
  rw [hW1]
  obtain ⟨v2, B, hr, ho2, hg, _, hat⟩ := run_append_own_at (P := Tryd.prog) W1 (xb + 1) 40 40 44 i0 _ 1 4 Tryd.underlying40 hi hz0 hz1 hz2 rfl (by decide) lv ls.length _ hop ⟨W.heap.size, 0, none⟩ 1 1 [.int .i32 x] rfl (fun j u hu => by
    match j, hu with
    | 0, hu => simp at hu; subst hu; rw [show (⟨W.heap.size, 0, none⟩ : Addr).add 0 = ⟨W.heap.size, 0, none⟩ from rfl, row_cell hM 0]; rfl
    | j + 1, hu => simp at hu) (by simp [Value.oneCell']) (by simp [maxLen]; omega) (by omega) (by omega)
  obtain ⟨o', cp', rfl⟩ := own_slc ho2
  have keep : ∀ k, k < W.heap.size → lv.ownBlock ≠ some k → B.heap[k]? = W.heap[k]? := fun k hk hne =>
    (hg.block _ (by omega) (fun e => hne e.symm)).trans (h01.block _ hk)
  have kl : ∀ (i : Nat) (cs : Array Value) (t : TypeId), W.heap[i]? = some (.cells cs t (0, 0)) → t ≠ 44 → B.heap[i]? = W.heap[i]? := fun i cs t hi ht => keep i (Array.getElem?_eq_some_iff.1 hi).1 (own_ne hi h.lo ht)
  have hrb := kl xb _ _ h.bx (by decide)
  refine ⟨o', cp', B, hr, hrb, ⟨?_, ?_, ?_, ?_, ?_, ?_, hlt⟩⟩
  · rw [heap_set_row (k := 2) (hrb.trans h.bx)]; rfl
  · refine own_set ?_ (by omega) _
    rw [show (ls ++ [x]).length = ls.length + 1 by simp, List.map_append]
    exact ho2
  · exact own_set (own_keep h.ho (fun g cs _ hg => kl g cs _ hg (by decide))) (by omega) _
  · exact own_keep h.wo (fun g cs _ hg => (heap_other _ _ (fun e => by subst e; rw [h.bx] at hg; cases hg)).trans (kl g cs _ hg (by decide)))
  · exact (heap_other _ _ (by omega)).trans ((kl n _ _ h.r0 (by decide)).trans h.r0)
  · refine Below.setCell (p := ⟨xb, 2, none⟩) (h.bw.trans ⟨hg.os.trans h01.os, hg.tape.trans h01.tape, hg.output.trans h01.output, by have := hg.size; omega, fun k hk => keep k (by omega) (fun e => ?_)⟩) (by dsimp only; omega) _
    have := (own_blk h.lo e).1
    omega
/-- A hint more. -/
theorem SX.hint (h : SX n xb w W ws v kd id ls hs lv hv) (hl : hs.length ≤ 16777216) (x : Int) :
    ∃ o c B, (Builtin.append_ #[41, 41] 41 #[hv, .slice (some ⟨W.heap.size, 0, none⟩) 1 1]).run Tryd.prog (W.alloc (.cells #[.int .i64 x] 2)) = .ok (.slice o (hs.length + 1) c) B ∧
      B.heap[xb]? = W.heap[xb]? ∧ SX n xb w (B.setCell ⟨xb, 3, none⟩ (.slice o (hs.length + 1) c)) ws v kd id ls (hs ++ [x]) lv (.slice o (hs.length + 1) c) := by
  obtain ⟨i0, hi, hz⟩ := Option.map_eq_some_iff.1 info2
  simp only [Prod.mk.injEq] at hz
  obtain ⟨hz0, hz1, hz2⟩ := hz
  obtain ⟨W1, hW1⟩ : ∃ W1, W.alloc (.cells #[.int .i64 x] 2) = W1 := ⟨_, rfl⟩
  have hM : W1.heap[W.heap.size]? = some (.cells #[.int .i64 x] 2 (0, 0)) := by rw [← hW1]; exact heap_alloc_new _ _
  have h01 : Below W.heap.size W W1 := by rw [← hW1]; exact below_box _ _
  have hs1 : W1.heap.size = W.heap.size + 1 := by rw [← hW1]; simp
  have hop := own_below h.ho h01
  have hxs := h.size
  have hlt := h.lt
  rw [hW1]
  obtain ⟨v2, B, hr, ho2, hg, _, hat⟩ := run_append_own_at (P := Tryd.prog) W1 (xb + 1) 41 41 2 i0 _ 1 8 Tryd.underlying41 hi hz0 hz1 hz2 rfl (by decide) hv hs.length _ hop ⟨W.heap.size, 0, none⟩ 1 1 [.int .i64 x] rfl (fun j u hu => by
    match j, hu with
    | 0, hu => simp at hu; subst hu; rw [show (⟨W.heap.size, 0, none⟩ : Addr).add 0 = ⟨W.heap.size, 0, none⟩ from rfl, row_cell hM 0]; rfl
    | j + 1, hu => simp at hu) (by simp [Value.oneCell']) (by simp [maxLen]; omega) (by omega) (by omega)
  obtain ⟨o', cp', rfl⟩ := own_slc ho2
  have keep : ∀ k, k < W.heap.size → hv.ownBlock ≠ some k → B.heap[k]? = W.heap[k]? := fun k hk hne =>
    (hg.block _ (by omega) (fun e => hne e.symm)).trans (h01.block _ hk)
  have kl : ∀ (i : Nat) (cs : Array Value) (t : TypeId), W.heap[i]? = some (.cells cs t (0, 0)) → t ≠ 2 → B.heap[i]? = W.heap[i]? := fun i cs t hi ht => keep i (Array.getElem?_eq_some_iff.1 hi).1 (own_ne hi h.ho ht)
  have hrb := kl xb _ _ h.bx (by decide)
  refine ⟨o', cp', B, hr, hrb, ⟨?_, ?_, ?_, ?_, ?_, ?_, hlt⟩⟩
  · rw [heap_set_row (k := 3) (hrb.trans h.bx)]; rfl
  · exact own_set (own_keep h.lo (fun g cs _ hg => kl g cs _ hg (by decide))) (by omega) _
  · refine own_set ?_ (by omega) _
    rw [show (hs ++ [x]).length = hs.length + 1 by simp, List.map_append]
    exact ho2
  · exact own_keep h.wo (fun g cs _ hg => (heap_other _ _ (fun e => by subst e; rw [h.bx] at hg; cases hg)).trans (kl g cs _ hg (by decide)))
  · exact (heap_other _ _ (by omega)).trans ((kl n _ _ h.r0 (by decide)).trans h.r0)
  · refine Below.setCell (p := ⟨xb, 3, none⟩) (h.bw.trans ⟨hg.os.trans h01.os, hg.tape.trans h01.tape, hg.output.trans h01.output, by have := hg.size; omega, fun k hk => keep k (by omega) (fun e => ?_)⟩) (by dsimp only; omega) _
    have := (own_blk h.ho e).1
    omega
end
/-- How a line's step is told: x, where it may be; else it does not matter what. -/
def RStepOut (w : World) (r : Option Lra.Stp) (e : Ending) (w' : World) : Prop :=
  (r = none ∧ ∃ k i : Int, ∃ l h : Value, e = .returned (.tuple #[.agg #[.int .u8 k, .int .i64 i, l, h], .bool false]) ∧ (∃ o1 n1 c1, l = .slice o1 n1 c1) ∧ (∃ o2 n2 c2, h = .slice o2 n2 c2) ∧ Below w.heap.size w w')
  ∨ (∃ x l h, r = some x ∧ e = .returned (.tuple #[.agg #[.int .u8 x.kind, .int .i64 x.id, l, h], .bool true]) ∧ QV w.heap.size w' (x, l, h) ∧ Below w.heap.size w w')
end Go.Proofs.YtdodfmgbjfhnpaaDoor
