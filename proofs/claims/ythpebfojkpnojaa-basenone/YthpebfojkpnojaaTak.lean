/- A literal taken as true by a check. -/
import Derived.Test.YthpebfojkpnojaaUtk
import Derived.Test.YthpebfojkpnojaaNot
namespace Go.Proofs.Ythpebfojkpnojaa
open Go.RowKit Go.Maps
set_option linter.unusedVariables false
set_option linter.unusedSimpArgs false
set_option maxRecDepth 100000
theorem info45 : (Try.prog.info? 45).map (fun i => (i.zero, i.size, i.bytes)) = some (some (.int .i32 0), 1, 4) := by kernel_rfl
theorem push45 {W : World} {base : Nat} {v : Value} {k : Nat} {xs : List Int} (ho : W.ownsRow base 45 1 v k (xs.map (Value.int .i32))) (p : Int) (hb : base ≤ W.heap.size) (hk : k ≤ 1000000000) :
    ∃ g c B, (Builtin.append_ #[23, 23] 23 #[v, .slice (some ⟨W.heap.size, 0, none⟩) 1 1]).run Try.prog (W.alloc (.cells #[.int .i32 p] 45)) = .ok (.slice (some ⟨g, 0, none⟩) (k + 1) c) B ∧ B.ownsRow base 45 1 (.slice (some ⟨g, 0, none⟩) (k + 1) c) (k + 1) ((xs ++ [p]).map (Value.int .i32)) ∧
      (W.alloc (.cells #[.int .i32 p] 45)).grownBy B v.ownBlock ∧ (v.ownBlock = some g ∨ g = W.heap.size + 1) := by
  obtain ⟨i0, hi0, hz⟩ := Option.map_eq_some_iff.1 info45
  simp only [Prod.mk.injEq] at hz
  obtain ⟨g, c, B, hr, h2, h3, h5, _⟩ := run_append_lies (P := Try.prog) (W.alloc (.cells #[.int .i32 p] 45)) 23 23 base 45 i0 (.int .i32 0) 1 4 Try.underlying23 hi0 hz.1 hz.2.1 hz.2.2 rfl (by decide) v k _ (ho.alloc _) ⟨W.heap.size, 0, none⟩ 1 1 [.int .i32 p] rfl (World.news_of_block (heap_alloc_new W (.cells #[.int .i32 p] 45))) (by intro u hu; simp at hu; subst hu; rfl) (by decide) (by unfold maxLen; omega) (by omega) (by simp; omega) _ rfl
  exact ⟨g, c, B, hr, by rw [List.map_append]; exact h2, h3, by simpa using h5⟩
/-- A check under way: what it found true, and where it wrote it. -/
structure Chk (bb pb fb gt m cz : Nat) (ts T : List Int) (W0 W : World) : Prop where
  os : W.os = W0.os
  tape : W.tape = W0.tape
  output : W.output = W0.output
  size : W0.heap.size ≤ W.heap.size
  block : ∀ q, q < W0.heap.size → q ≠ gt → W.heap[q]? = W0.heap[q]?
  row : ∃ cur : Array Value, W.heap[gt]? = some (.cells cur 45 (0, 0)) ∧ cur.size = cz ∧ m ≤ cz ∧ ts.length = m ∧ cur.toList.take m = ts.map (Value.int .i32)
  pbx : W.heap[pb]? = some (.cells #[.pointer (some ⟨bb, 0, none⟩)] 27 (0, 0))
  fnd : ∃ sv, W.heap[fb]? = some (.cells #[sv] 23 (0, 0)) ∧ W.ownsRow W0.heap.size 45 1 sv T.length (T.map (Value.int .i32))
  at_ : W0.heap.size ≤ pb ∧ W0.heap.size ≤ fb ∧ gt < W0.heap.size
theorem Chk.trw {bb pb fb gt m cz : Nat} {ts T : List Int} {W0 W : World} (h : Chk bb pb fb gt m cz ts T W0 W) : TrW gt m cz ts W W := ⟨rfl, rfl, rfl, rfl, fun _ _ => rfl, h.row⟩
theorem Chk.x8 {bb pb fb gt m cz ct : Nat} {ts T : List Int} {W0 W : World} (h : Chk bb pb fb gt m cz ts T W0 W) (h8 : W0.cell? ⟨bb, 8, none⟩ = some (.slice (some ⟨gt, 0, none⟩) m ct)) (hne : bb ≠ gt) : W.cell? ⟨bb, 8, none⟩ = some (.slice (some ⟨gt, 0, none⟩) m ct) := (World.cell?_of_block (h.block bb (cell_lt h8) hne)).trans h8
theorem Chk.turn {bb pb fb gt m cz : Nat} {ts ts' T : List Int} {W0 W W' : World} (h : Chk bb pb fb gt m cz ts T W0 W) (ht : TrW gt m cz ts' W W') : Chk bb pb fb gt m cz ts' T W0 W' := by
  have h1 := h.at_
  obtain ⟨sv, f1, f2⟩ := h.fnd
  exact ⟨ht.os.trans h.os, ht.tape.trans h.tape, ht.output.trans h.output, by rw [ht.size]; exact h.size, fun q hq hne => (ht.block q hne).trans (h.block q hq hne), ht.row, (ht.block pb (by omega)).trans h.pbx, ⟨sv, (ht.block fb (by omega)).trans f1, own_keep f2 (fun g cs hg _ => ht.block g (by have := (own_blk f2 hg).1; omega))⟩, h1⟩
/-- One more found: the append's run, and what the store leaves. -/
theorem Chk.push {bb pb fb gt m cz : Nat} {ts T : List Int} {W0 W : World} (h : Chk bb pb fb gt m cz ts T W0 W) (hl : T.length ≤ 1000000000) (l : Int) : ∃ o c, W.cell? ⟨fb, 0, none⟩ = some (.slice o T.length c) ∧ ∃ g c' B, (Builtin.append_ #[23, 23] 23 #[.slice o T.length c, .slice (some ⟨W.heap.size, 0, none⟩) 1 1]).run Try.prog (W.alloc (.cells #[.int .i32 l] 45)) = .ok (.slice (some ⟨g, 0, none⟩) (T.length + 1) c') B ∧ B.cell? ⟨fb, 0, none⟩ = some (.slice o T.length c) ∧ B.frozen? ⟨fb, 0, none⟩ = false ∧ Chk bb pb fb gt m cz ts (T ++ [l]) W0 (B.setCell ⟨fb, 0, none⟩ (.slice (some ⟨g, 0, none⟩) (T.length + 1) c')) := by
  obtain ⟨sv, f1, f2⟩ := h.fnd
  obtain ⟨o, c, rfl⟩ := own_slc f2
  obtain ⟨g, c', B, hr, ho, hgr, hg⟩ := push45 f2 l h.size hl
  have h1 := h.at_
  have hal := below_box W (.cells #[.int .i32 l] 45)
  have hB : ∀ q, q < W.heap.size → (Value.slice o T.length c).ownBlock ≠ some q → B.heap[q]? = W.heap[q]? := fun q hq hne => (hgr.block q (Nat.lt_of_lt_of_le hq hal.size) (fun e => hne e.symm)).trans (hal.block q hq)
  have hof : ∀ (q : Nat) (cs : Array Value) (t : TypeId), t ≠ 45 → W.heap[q]? = some (.cells cs t (0, 0)) → (Value.slice o T.length c).ownBlock ≠ some q := fun q cs t ht hq e => by
    obtain ⟨_, cur, h9⟩ := own_blk f2 e
    rw [hq] at h9
    injection h9 with h9; injection h9 with _ h9 _; exact ht h9
  have hfB := (hB fb (lt_of_blk f1) (hof _ _ _ (by decide) f1)).trans f1
  have hs : W.heap.size ≤ B.heap.size := Nat.le_trans hal.size hgr.size
  refine ⟨o, c, row_cell f1 0, g, c', B, hr, row_cell hfB 0, row_frozen hfB 0, ?_⟩
  have hlow : ∀ q, q < W0.heap.size → (Value.slice o T.length c).ownBlock ≠ some q := fun q hq e => by
    have := (own_blk f2 e).1
    omega
  have hpf : pb ≠ fb := fun e => by
    have := h.pbx
    rw [e, f1] at this
    injection this with this; injection this with _ this _; cases this
  obtain ⟨cur, r1, r2⟩ := h.row
  have hsz : (B.setCell ⟨fb, 0, none⟩ (.slice (some ⟨g, 0, none⟩) (T.length + 1) c')).heap.size = B.heap.size := by simp [World.setCell]
  refine ⟨(hgr.os.trans hal.os).trans h.os, (hgr.tape.trans hal.tape).trans h.tape, (hgr.output.trans hal.output).trans h.output, ?_, fun q hq hne => ?_, ⟨cur, ?_, r2⟩, ?_, ⟨_, heap_set_row hfB _, ?_⟩, h1⟩
  · rw [hsz]; exact Nat.le_trans h.size hs
  · exact ((heap_other B _ (by omega)).trans (hB q (Nat.lt_of_lt_of_le hq h.size) (hlow q hq))).trans (h.block q hq hne)
  · exact ((heap_other B _ (by omega)).trans (hB gt (lt_of_blk r1) (hlow gt h1.2.2))).trans r1
  · exact ((heap_other B _ hpf).trans (hB pb (lt_of_blk h.pbx) (hof _ _ _ (by decide) h.pbx))).trans h.pbx
  · have e : (T ++ [l]).length = T.length + 1 := by simp
    rw [e]
    refine own_keep ho (fun q cs hq h9 => heap_other B _ (fun e => ?_))
    rw [e, hfB] at h9
    injection h9 with h9; injection h9 with _ h9 _; cases h9
set_option maxHeartbeats 4000000 in
theorem take50 {bb pb fb gt m cz ct : Nat} {ts T : List Int} {W0 W : World} (h : Chk bb pb fb gt m cz ts T W0 W) (h8 : W0.cell? ⟨bb, 8, none⟩ = some (.slice (some ⟨gt, 0, none⟩) m ct)) (hne : bb ≠ gt) (hmm : m ≤ 1048577) (hl : T.length ≤ 1000000000) (l : Int) (hi : I32 l) (h1 : 1 ≤ Bas.vr l) (h2 : Bas.vr l < m) :
    Calls Try.prog 50 #[.int .i32 l, .pointer (some ⟨pb, 0, none⟩), .pointer (some ⟨fb, 0, none⟩)] W fun e w' => e = .returned (.tuple #[]) ∧ Chk bb pb fb gt m cz (ts.set (Bas.vr l).toNat l) (T ++ [l]) W0 w' := by
  have x8 := h.x8 h8 hne
  have p0 : W.cell? ⟨pb, 0, none⟩ = some (.pointer (some ⟨bb, 0, none⟩)) := row_cell h.pbx 0
  have C49 := hid (fun X => var49 l X hi)
  obtain ⟨v, hv⟩ : ∃ v : Nat, Bas.vr l = v := ⟨(Bas.vr l).toNat, by omega⟩
  rw [hv] at C49 h1 h2 ⊢
  have hvm : v < m := by omega
  have hvm' : (v : Int) < m := by omega
  obtain ⟨c1, c2⟩ := h.trw.cell hvm
  have hC := h.turn (h.trw.set v l 1)
  obtain ⟨W2, hW2⟩ : ∃ W2, (W.setCell ⟨gt, v, none⟩ (.int .i32 l)).drew = W2 := ⟨_, rfl⟩
  have hC2 : Chk bb pb fb gt m cz (ts.set v l) T W0 W2 := by rw [← hW2]; exact hC
  obtain ⟨o, c, f0, g, c', B, hr, f3, f4, hC4⟩ := hC2.push hl l
  have HR := hid hr
  have HC4 := hid hC4
  rw [show (v : Int).toNat = v from rfl]
  clear h hC hC2 hC4 hr h8 hne hi
  generalize T.length = tl at *
  go_enter Try.func50, Try.ntmps50
  go_wp2_with fail
  refine wp_region_still_tail 8 (by kernel_rfl) (by kernel_rfl) ?_
  simp only [List.take_succ_cons, List.take_zero, List.drop_succ_cons, List.drop_zero]
  iterate 5 still_step
  still_call (C49.out _)
  iterate 2 still_step
  refine wpStill_nil ?_
  go_wp2_with (at_builtin; refine wpList_append_run rfl (.tmp 12) (.tmp 14) 23 23 rfl rfl rfl HR.out ?_)
  refine bodyPost_end (results_none rfl _ _ _) rfl ?_
  exact ⟨rfl, HC4.out⟩
end Go.Proofs.Ythpebfojkpnojaa
