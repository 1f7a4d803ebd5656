/- The truths of a check taken back. -/
import Derived.Test.YthpebfojkpnojaaJad
import Derived.StillTailTactics
import Derived.Test.YthpebfojkpnojaaJaf
import Derived.Defers
/- The truths of a check taken back. -/
namespace Bas
def untake (ts xs : List Int) : List Int := xs.foldl (fun t x => t.set (vr x).toNat 0) ts
theorem untake_len (xs : List Int) : ∀ ts : List Int, (untake ts xs).length = ts.length := by
  induction xs with
  | nil => intro ts; rfl
  | cons x xs ih => intro ts; unfold untake at *; rw [List.foldl_cons, ih, List.length_set]
theorem untake_snoc (ts xs : List Int) (x : Int) : untake ts (xs ++ [x]) = (untake ts xs).set (vr x).toNat 0 := by
  unfold untake; rw [List.foldl_append]; rfl
end Bas
namespace Go.Proofs.Ythpebfojkpnojaa
open Go.RowKit Go.Maps
set_option linter.unusedVariables false
set_option linter.unusedSimpArgs false
set_option maxRecDepth 100000
/-- One block alone is turned, and it is a row of truths. -/
structure TrW (gt m cz : Nat) (ts : List Int) (W W' : World) : Prop where
  os : W'.os = W.os
  tape : W'.tape = W.tape
  output : W'.output = W.output
  size : W'.heap.size = W.heap.size
  block : ∀ q, q ≠ gt → W'.heap[q]? = W.heap[q]?
  row : ∃ cur : Array Value, W'.heap[gt]? = some (.cells cur 45 (0, 0)) ∧ cur.size = cz ∧ m ≤ cz ∧ ts.length = m ∧ cur.toList.take m = ts.map (Value.int .i32)
theorem TrW.cell {gt m cz : Nat} {ts : List Int} {W W' : World} (h : TrW gt m cz ts W W') {v : Nat} (hv : v < m) : W'.cell? ⟨gt, v, none⟩ = some (.int .i32 (ts.getD v 0)) ∧ W'.frozen? ⟨gt, v, none⟩ = false := by
  obtain ⟨cur, h1, h2, h3, h4, h5⟩ := h.row
  refine ⟨?_, row_frozen h1 v⟩
  rw [row_cell h1]
  have h7 : (cur.toList.take m)[v]? = (ts.map (Value.int .i32))[v]? := by rw [h5]
  rw [List.getElem?_take, if_pos hv, List.getElem?_map, List.getElem?_eq_getElem (show v < ts.length by omega)] at h7
  rw [← Array.getElem?_toList, h7]
  simp [List.getD, show v < ts.length by omega]
theorem TrW.set {gt m cz : Nat} {ts : List Int} {W W' : World} (h : TrW gt m cz ts W W') (v : Nat) (x : Int) (q : Nat) : TrW gt m cz (ts.set v x) W ((W'.setCell ⟨gt, v, none⟩ (.int .i32 x)).drewN q) := by
  obtain ⟨cur, h1, h2, h3, h4, h5⟩ := h.row
  refine ⟨h.os, h.tape, h.output, (show (W'.setCell ⟨gt, v, none⟩ (.int .i32 x)).heap.size = _ from by simp [World.setCell]; exact h.size), fun q hq => (heap_other W' _ hq).trans (h.block q hq), cur.setIfInBounds v (.int .i32 x), heap_set_row h1 _, by simp [h2], h3, by simp [h4], setB_take cur ts .i32 m v x h5⟩
theorem TrW.other {gt m cz : Nat} {ts : List Int} {W W' : World} (h : TrW gt m cz ts W W') {b k : Nat} (hb : b ≠ gt) : W'.cell? ⟨b, k, none⟩ = W.cell? ⟨b, k, none⟩ := World.cell?_of_block (h.block b hb)
theorem TrW.drN {gt m cz : Nat} {ts : List Int} {W W' : World} (h : TrW gt m cz ts W W') (q : Nat) : TrW gt m cz ts W (W'.drewN q) := ⟨h.os, h.tape, h.output, h.size, h.block, h.row⟩
set_option maxHeartbeats 4000000 in
theorem untake51 {bb fb pb gt m cz ct : Nat} {W : World} {ts : List Int} (x8 : W.cell? ⟨bb, 8, none⟩ = some (.slice (some ⟨gt, 0, none⟩) m ct)) (p0 : W.cell? ⟨pb, 0, none⟩ = some (.pointer (some ⟨bb, 0, none⟩))) (a : Option Addr) (n c : Nat) (f0 : W.cell? ⟨fb, 0, none⟩ = some (.slice a n c))
    (hG : TrW gt m cz ts W W) (h1 : bb ≠ gt) (h2 : pb ≠ gt) (h3 : fb ≠ gt) (xs : List Int) (hn : xs.length = n) (hN : n ≤ 35184372088832) (hmm : m ≤ 1048577) (hx : Lits W a xs) (hxa : ∀ b off, a = some ⟨b, off, none⟩ → xs ≠ [] → b ≠ gt) (hxs : ∀ x ∈ xs, 1 ≤ Bas.vr x ∧ Bas.vr x < m) :
    Calls Try.prog 51 #[.pointer (some ⟨fb, 0, none⟩), .pointer (some ⟨pb, 0, none⟩)] W fun e w' => e = .returned (.tuple #[]) ∧ TrW gt m cz (Bas.untake ts xs) W w' := by
  have HX8 := hid (fun (X : World) (t : List Int) (h : TrW gt m cz t W X) => (h.other h1).trans x8)
  have HP0 := hid (fun (X : World) (t : List Int) (h : TrW gt m cz t W X) => (h.other h2).trans p0)
  have HXS := hid hxs
  have HN := hid hn
  have HG := hid hG
  have HX : Hid (∀ (X : World) (t : List Int), TrW gt m cz t W X → ∀ k, k < xs.length → ∃ b off, a = some ⟨b, off, none⟩ ∧ X.cell? ⟨b, off + k, none⟩ = some (.int .i32 (xs.getD k 0)) ∧ I32 (xs.getD k 0)) := fun X t h k hk => by
    obtain ⟨b, off, e, _, hc, hlo, hhi⟩ := Row.at hx hk
    exact ⟨b, off, e, (h.other (hxa b off e (fun e => by rw [e] at hk; simp at hk))).trans hc, hlo, hhi⟩
  have sh : Hid (n = 0) ∨ ∃ b off, a = some ⟨b, off, none⟩ := by
    rcases hx.2 with h | ⟨b, off, e, _⟩
    · left; rw [h] at hn; exact hn.symm
    · exact .inr ⟨b, off, e⟩
  clear x8 p0 hxs hn hx hxa h1 h2 h3 hG
  rcases sh with Z | ⟨b, off, rfl⟩
  all_goals
    go_enter Try.func51, Try.ntmps51
    go_wp2_with fail
    go_loopw [3, 6] (fun _ iv wr => ∃ k : Nat, k ≤ n ∧ iv = .int .i64 k ∧ Hid (TrW gt m cz (Bas.untake ts (xs.take k)) W wr)) (fun _ iv _ => n - (intOf iv).toNat)
    case atStart => exact ⟨0, Nat.zero_le _, rfl, HG⟩
    case round =>
      obtain ⟨k, hk, rfl, HT⟩ := hrel
      by_cases hlt : k < n
      · first
        | (exfalso; have := Z.out; omega)
        | (have hlt' : (k : Int) < n := by omega
           have hkx : k < xs.length := by rw [HN.out]; exact hlt
           obtain ⟨b2, off2, e2, hc, hi⟩ := HX.out wr _ HT.out k hkx
           cases e2
           obtain ⟨hv1, hv2⟩ := HXS.out _ (getD_mem xs k hkx)
           have q8 := HX8.out wr _ HT.out
           have q0 := HP0.out wr _ HT.out
           have HTK := hid (show xs.take (k + 1) = xs.take k ++ [xs.getD k 0] by rw [List.take_succ_eq_append_getElem hkx]; simp [List.getD, hkx])
           have C49 := hid (fun X => var49 (xs.getD k 0) X hi)
           obtain ⟨v, hv⟩ : ∃ v : Nat, Bas.vr (xs.getD k 0) = v := ⟨(Bas.vr (xs.getD k 0)).toNat, by omega⟩
           have HTS := hid (fun q => show TrW gt m cz (Bas.untake ts (xs.take (k + 1))) W ((wr.setCell ⟨gt, v, none⟩ (.int .i32 0)).drewN q) from by
             rw [HTK.out, Bas.untake_snoc, hv]
             exact HT.out.set v 0 q)
           rw [hv] at hv1 hv2 C49
           have hvm : v < m := by omega
           have hvm' : (v : Int) < m := by omega
           obtain ⟨c1, c2⟩ := HT.out.cell hvm
           generalize xs.getD k 0 = x at *
           clear hv HTK
           go_wp2_with fail
           refine wp_region_still_tail 7 (by kernel_rfl) (by kernel_rfl) ?_
           simp only [List.take_succ_cons, List.take_zero, List.drop_succ_cons, List.drop_zero]
           iterate 5 still_step
           still_call (C49.out _)
           iterate 1 still_step
           refine wpStill_nil ?_
           go_wp2
           exact ⟨⟨k + 1, by omega, by go_num, hid (HTS.out 1)⟩, by simp [intOf]; omega⟩)
      · have hge : ¬ (k : Int) < n := by omega
        have O := HT.out
        rw [List.take_of_length_le (by rw [HN.out]; omega)] at O
        have O2 := hid O
        clear O
        go_wp2
        refine bodyPost_end (results_none rfl _ _ _) rfl ?_
        exact ⟨rfl, O2.out⟩
end Go.Proofs.Ythpebfojkpnojaa

/- A literal taken as true by a check. -/
namespace Go.Proofs.Ythpebfojkpnojaa
open Go.RowKit Go.Maps
set_option linter.unusedVariables false
set_option linter.unusedSimpArgs false
set_option maxRecDepth 100000
theorem info45 : (Try.prog.info? 45).map (fun i => (i.zero, i.size, i.bytes)) = some (some (.int .i32 0), 1, 4) := by kernel_rfl
theorem push45 {W : World} {base : Nat} {v : Value} {k : Nat} {xs : List Int} (ho : W.ownsRow base 45 1 v k (xs.map (Value.int .i32))) (p : Int) (hb : base ≤ W.heap.size) (hk : k ≤ 1000000000) :
    ∃ g c B, (Builtin.append_ #[23, 23] 23 #[v, .slice (some ⟨W.heap.size, 0, none⟩) 1 1]).run Try.prog (W.alloc (.cells #[.int .i32 p] 45)) = .ok (.slice (some ⟨g, 0, none⟩) (k + 1) c) B ∧ B.ownsRow base 45 1 (.slice (some ⟨g, 0, none⟩) (k + 1) c) (k + 1) ((xs ++ [p]).map (Value.int .i32)) ∧
      (W.alloc (.cells #[.int .i32 p] 45)).grownBy B v.ownBlock ∧ (v.ownBlock = some g ∨ g = W.heap.size + 1) := by
  obtain ⟨i0, hi0, hz⟩ := Option.map_eq_some_iff.1 info45
  simp only [Prod.mk.injEq] at hz
  obtain ⟨g, c, B, hr, h2, h3, h5, _⟩ := run_append_lies (P := Try.prog) (W.alloc (.cells #[.int .i32 p] 45)) 23 23 base 45 i0 (.int .i32 0) 1 4 Try.underlying23 hi0 hz.1 hz.2.1 hz.2.2 rfl (by decide) v k _ (ho.alloc _) ⟨W.heap.size, 0, none⟩ 1 1 [.int .i32 p] rfl (World.news_of_block (heap_alloc_new W (.cells #[.int .i32 p] 45))) (by intro u hu; simp at hu; subst hu; rfl) (by decide) (by unfold maxLen; omega) (by omega) (by simp; omega) _ rfl
  exact ⟨g, c, B, hr, by rw [List.map_append]; exact h2, h3, by simpa using h5⟩
/-- A check under way: what it found true, and where it wrote it. -/
structure Chk (bb pb fb gt m cz : Nat) (ts T : List Int) (W0 W : World) : Prop where
  os : W.os = W0.os
  tape : W.tape = W0.tape
  output : W.output = W0.output
  size : W0.heap.size ≤ W.heap.size
  block : ∀ q, q < W0.heap.size → q ≠ gt → W.heap[q]? = W0.heap[q]?
  row : ∃ cur : Array Value, W.heap[gt]? = some (.cells cur 45 (0, 0)) ∧ cur.size = cz ∧ m ≤ cz ∧ ts.length = m ∧ cur.toList.take m = ts.map (Value.int .i32)
  pbx : W.heap[pb]? = some (.cells #[.pointer (some ⟨bb, 0, none⟩)] 27 (0, 0))
  fnd : ∃ sv, W.heap[fb]? = some (.cells #[sv] 23 (0, 0)) ∧ W.ownsRow W0.heap.size 45 1 sv T.length (T.map (Value.int .i32))
  at_ : W0.heap.size ≤ pb ∧ W0.heap.size ≤ fb ∧ gt < W0.heap.size
theorem Chk.trw {bb pb fb gt m cz : Nat} {ts T : List Int} {W0 W : World} (h : Chk bb pb fb gt m cz ts T W0 W) : TrW gt m cz ts W W := ⟨rfl, rfl, rfl, rfl, fun _ _ => rfl, h.row⟩
theorem Chk.x8 {bb pb fb gt m cz ct : Nat} {ts T : List Int} {W0 W : World} (h : Chk bb pb fb gt m cz ts T W0 W) (h8 : W0.cell? ⟨bb, 8, none⟩ = some (.slice (some ⟨gt, 0, none⟩) m ct)) (hne : bb ≠ gt) : W.cell? ⟨bb, 8, none⟩ = some (.slice (some ⟨gt, 0, none⟩) m ct) := (World.cell?_of_block (h.block bb (cell_lt h8) hne)).trans h8
theorem Chk.turn {bb pb fb gt m cz : Nat} {ts ts' T : List Int} {W0 W W' : World} (h : Chk bb pb fb gt m cz ts T W0 W) (ht : TrW gt m cz ts' W W') : Chk bb pb fb gt m cz ts' T W0 W' := by
  have h1 := h.at_
  obtain ⟨sv, f1, f2⟩ := h.fnd
  exact ⟨ht.os.trans h.os, ht.tape.trans h.tape, ht.output.trans h.output, by rw [ht.size]; exact h.size, fun q hq hne => (ht.block q hne).trans (h.block q hq hne), ht.row, (ht.block pb (by omega)).trans h.pbx, ⟨sv, (ht.block fb (by omega)).trans f1, own_keep f2 (fun g cs hg _ => ht.block g (by have := (own_blk f2 hg).1; omega))⟩, h1⟩
/-- One more found: the append's run, and what the store leaves. -/
theorem Chk.push {bb pb fb gt m cz : Nat} {ts T : List Int} {W0 W : World} (h : Chk bb pb fb gt m cz ts T W0 W) (hl : T.length ≤ 1000000000) (l : Int) : ∃ o c, W.cell? ⟨fb, 0, none⟩ = some (.slice o T.length c) ∧ ∃ g c' B, (Builtin.append_ #[23, 23] 23 #[.slice o T.length c, .slice (some ⟨W.heap.size, 0, none⟩) 1 1]).run Try.prog (W.alloc (.cells #[.int .i32 l] 45)) = .ok (.slice (some ⟨g, 0, none⟩) (T.length + 1) c') B ∧ B.cell? ⟨fb, 0, none⟩ = some (.slice o T.length c) ∧ B.frozen? ⟨fb, 0, none⟩ = false ∧ Chk bb pb fb gt m cz ts (T ++ [l]) W0 (B.setCell ⟨fb, 0, none⟩ (.slice (some ⟨g, 0, none⟩) (T.length + 1) c')) := by
  obtain ⟨sv, f1, f2⟩ := h.fnd
  obtain ⟨o, c, rfl⟩ := own_slc f2
  obtain ⟨g, c', B, hr, ho, hgr, hg⟩ := push45 f2 l h.size hl
  have h1 := h.at_
  have hal := below_box W (.cells #[.int .i32 l] 45)
  have hB : ∀ q, q < W.heap.size → (Value.slice o T.length c).ownBlock ≠ some q → B.heap[q]? = W.heap[q]? := fun q hq hne => (hgr.block q (Nat.lt_of_lt_of_le hq hal.size) (fun e => hne e.symm)).trans (hal.block q hq)
  have hof : ∀ (q : Nat) (cs : Array Value) (t : TypeId), t ≠ 45 → W.heap[q]? = some (.cells cs t (0, 0)) → (Value.slice o T.length c).ownBlock ≠ some q := fun q cs t ht hq e => by
    obtain ⟨_, cur, h9⟩ := own_blk f2 e
    rw [hq] at h9
    injection h9 with h9; injection h9 with _ h9 _; exact ht h9
  have hfB := (hB fb (lt_of_blk f1) (hof _ _ _ (by decide) f1)).trans f1
  have hs : W.heap.size ≤ B.heap.size := Nat.le_trans hal.size hgr.size
  refine ⟨o, c, row_cell f1 0, g, c', B, hr, row_cell hfB 0, row_frozen hfB 0, ?_⟩
  have hlow : ∀ q, q < W0.heap.size → (Value.slice o T.length c).ownBlock ≠ some q := fun q hq e => by
    have := (own_blk f2 e).1
    omega
  have hpf : pb ≠ fb := fun e => by
    have := h.pbx
    rw [e, f1] at this
    injection this with this; injection this with _ this _; cases this
  obtain ⟨cur, r1, r2⟩ := h.row
  have hsz : (B.setCell ⟨fb, 0, none⟩ (.slice (some ⟨g, 0, none⟩) (T.length + 1) c')).heap.size = B.heap.size := by simp [World.setCell]
  refine ⟨(hgr.os.trans hal.os).trans h.os, (hgr.tape.trans hal.tape).trans h.tape, (hgr.output.trans hal.output).trans h.output, ?_, fun q hq hne => ?_, ⟨cur, ?_, r2⟩, ?_, ⟨_, heap_set_row hfB _, ?_⟩, h1⟩
  · rw [hsz]; exact Nat.le_trans h.size hs
  · exact ((heap_other B _ (by omega)).trans (hB q (Nat.lt_of_lt_of_le hq h.size) (hlow q hq))).trans (h.block q hq hne)
  · exact ((heap_other B _ (by omega)).trans (hB gt (lt_of_blk r1) (hlow gt h1.2.2))).trans r1
  · exact ((heap_other B _ hpf).trans (hB pb (lt_of_blk h.pbx) (hof _ _ _ (by decide) h.pbx))).trans h.pbx
  · have e : (T ++ [l]).length = T.length + 1 := by simp
    rw [e]
    refine own_keep ho (fun q cs hq h9 => heap_other B _ (fun e => ?_))
    rw [e, hfB] at h9
    injection h9 with h9; injection h9 with _ h9 _; cases h9
set_option maxHeartbeats 4000000 in
theorem take50 {bb pb fb gt m cz ct : Nat} {ts T : List Int} {W0 W : World} (h : Chk bb pb fb gt m cz ts T W0 W) (h8 : W0.cell? ⟨bb, 8, none⟩ = some (.slice (some ⟨gt, 0, none⟩) m ct)) (hne : bb ≠ gt) (hmm : m ≤ 1048577) (hl : T.length ≤ 1000000000) (l : Int) (hi : I32 l) (h1 : 1 ≤ Bas.vr l) (h2 : Bas.vr l < m) :
    Calls Try.prog 50 #[.int .i32 l, .pointer (some ⟨pb, 0, none⟩), .pointer (some ⟨fb, 0, none⟩)] W fun e w' => e = .returned (.tuple #[]) ∧ Chk bb pb fb gt m cz (ts.set (Bas.vr l).toNat l) (T ++ [l]) W0 w' := by
  have x8 := h.x8 h8 hne
  have p0 : W.cell? ⟨pb, 0, none⟩ = some (.pointer (some ⟨bb, 0, none⟩)) := row_cell h.pbx 0
  have C49 := hid (fun X => var49 l X hi)
  obtain ⟨v, hv⟩ : ∃ v : Nat, Bas.vr l = v := ⟨(Bas.vr l).toNat, by omega⟩
  rw [hv] at C49 h1 h2 ⊢
  have hvm : v < m := by omega
  have hvm' : (v : Int) < m := by omega
  obtain ⟨c1, c2⟩ := h.trw.cell hvm
  have hC := h.turn (h.trw.set v l 1)
  obtain ⟨W2, hW2⟩ : ∃ W2, (W.setCell ⟨gt, v, none⟩ (.int .i32 l)).drew = W2 := ⟨_, rfl⟩
  have hC2 : Chk bb pb fb gt m cz (ts.set v l) T W0 W2 := by rw [← hW2]; exact hC
  obtain ⟨o, c, f0, g, c', B, hr, f3, f4, hC4⟩ := hC2.push hl l
  have HR := hid hr
  have HC4 := hid hC4
  rw [show (v : Int).toNat = v from rfl]
  clear h hC hC2 hC4 hr h8 hne hi
  generalize T.length = tl at *
  go_enter Try.func50, Try.ntmps50
  go_wp2_with fail
  refine wp_region_still_tail 8 (by kernel_rfl) (by kernel_rfl) ?_
  simp only [List.take_succ_cons, List.take_zero, List.drop_succ_cons, List.drop_zero]
  iterate 5 still_step
  still_call (C49.out _)
  iterate 2 still_step
  refine wpStill_nil ?_
  go_wp2_with (at_builtin; refine wpList_append_run rfl (.tmp 12) (.tmp 14) 23 23 rfl rfl rfl HR.out ?_)
  refine bodyPost_end (results_none rfl _ _ _) rfl ?_
  exact ⟨rfl, HC4.out⟩
end Go.Proofs.Ythpebfojkpnojaa

/- What a check has found true, plainly: taken, and taken back. -/
namespace Bas
theorem tru_nil (m : Nat) : Tru [] (List.replicate m 0) where
  at_ l h1 h2 := by
    have h3 : (List.replicate m (0 : Int)).getD (vr l).toNat 0 = 0 := by
      rw [List.getD, List.getElem?_replicate]
      split <;> rfl
    rw [h3]
    constructor
    · intro e; rw [← e] at h1; unfold vr at h1; simp at h1
    · intro h; cases h
  free v hv := .inl (by rw [List.getD, List.getElem?_replicate]; split <;> rfl)
theorem getD_set (ts : List Int) (v k : Nat) (x : Int) (hv : v < ts.length) : (ts.set v x).getD k 0 = if k = v then x else ts.getD k 0 := by
  rw [List.getD, List.getElem?_set]
  by_cases h : k = v
  · subst h
    simp [hv]
  · rw [if_neg (fun e => h e.symm), if_neg h]; rfl
theorem tru_take {T ts : List Int} (h : Tru T ts) {l : Int} (h1 : 1 ≤ vr l) (h2 : vr l < ts.length) (hz : ts.getD (vr l).toNat 0 = 0) : Tru (T ++ [l]) (ts.set (vr l).toNat l) := by
  have hv : (vr l).toNat < ts.length := by omega
  refine ⟨fun x hx1 hx2 => ?_, fun v hv2 => ?_⟩
  · rw [List.length_set] at hx2
    rw [getD_set ts _ _ _ hv, List.mem_append, List.mem_singleton]
    by_cases e : (vr x).toNat = (vr l).toNat
    · rw [if_pos e]
      constructor
      · intro e1; exact .inr e1.symm
      · rintro (h3 | h3)
        · have := (h.at_ x hx1 hx2).2 h3
          rw [e, hz] at this
          rw [← this] at hx1
          unfold vr at hx1
          simp at hx1
        · exact h3.symm
    · rw [if_neg e]
      constructor
      · intro e1; exact .inl ((h.at_ x hx1 hx2).1 e1)
      · rintro (h3 | h3)
        · exact (h.at_ x hx1 hx2).2 h3
        · exact absurd (by rw [h3]) e
  · rw [List.length_set] at hv2
    rw [getD_set ts _ _ _ hv]
    by_cases e : v = (vr l).toNat
    · rw [if_pos e]; right; omega
    · rw [if_neg e]; exact h.free v hv2
theorem untake_at (xs : List Int) : ∀ (ts : List Int) (v : Nat), v < ts.length → (untake ts xs).getD v 0 = if (∃ x ∈ xs, (vr x).toNat = v) then 0 else ts.getD v 0 := by
  induction xs with
  | nil => intro ts v _; rw [if_neg (by rintro ⟨x, hx, _⟩; cases hx)]; rfl
  | cons x xs ih =>
    intro ts v hv
    show (untake (ts.set (vr x).toNat 0) xs).getD v 0 = _
    rw [ih _ v (by rw [List.length_set]; exact hv)]
    by_cases h : ∃ y ∈ xs, (vr y).toNat = v
    · rw [if_pos h, if_pos]
      obtain ⟨y, hy, e⟩ := h
      exact ⟨y, List.mem_cons_of_mem _ hy, e⟩
    · rw [if_neg h]
      by_cases hx : (vr x).toNat = v
      · rw [if_pos ⟨x, List.mem_cons_self .., hx⟩, hx, getD_set ts v v 0 hv, if_pos rfl]
      · rw [if_neg]
        · rw [List.getD, List.getElem?_set, if_neg hx]; rfl
        · rintro ⟨y, hy, e⟩
          rcases List.mem_cons.1 hy with rfl | hy
          · exact hx e
          · exact h ⟨y, hy, e⟩
theorem untake_all {T ts : List Int} (h : Tru T ts) (h0 : ∀ v : Nat, v < ts.length → ts.getD v 0 ≠ 0 → 1 ≤ v) : untake ts T = List.replicate ts.length 0 := by
  apply List.ext_getElem?
  intro v
  by_cases hv : v < ts.length
  · rw [List.getElem?_replicate, if_pos hv]
    have h1 := untake_at T ts v hv
    rw [List.getD, List.getElem?_eq_getElem (by rw [untake_len]; exact hv)] at h1
    rw [List.getElem?_eq_getElem (by rw [untake_len]; exact hv)]
    congr 1
    refine h1.trans ?_
    split
    · rfl
    · rename_i hno
      rcases h.free v hv with h2 | h2
      · exact h2
      · by_cases hz : ts.getD v 0 = 0
        · exact hz
        · exfalso
          have h3 := h0 v hv hz
          refine hno ⟨ts.getD v 0, (h.at_ _ (by omega) (by omega)).1 ?_, by omega⟩
          rw [h2]; rfl
  · rw [List.getElem?_eq_none (by rw [untake_len]; omega), List.getElem?_eq_none (by simp; omega)]
theorem leftP_congr {T T' : List Int} (h : ∀ x, x ∈ T ↔ x ∈ T') : ∀ (d : List Int) (f : Int), leftP T d f = leftP T' d f := by
  intro d
  induction d with
  | nil => intro f; rfl
  | cons l d ih =>
    intro f
    rw [leftP_step, leftP_step, ih, ih]
    simp only [h]
end Bas

/- The truths of a check taken back: the deferred call. -/
namespace Go.Proofs.Ythpebfojkpnojaa
open Go.RowKit Go.Maps
set_option linter.unusedVariables false
set_option linter.unusedSimpArgs false
set_option maxRecDepth 100000
set_option maxHeartbeats 4000000 in
theorem untake51D (u : FrameMode) {bb fb pb gt m cz ct : Nat} {W : World} {ts : List Int} (x8 : W.cell? ⟨bb, 8, none⟩ = some (.slice (some ⟨gt, 0, none⟩) m ct)) (p0 : W.cell? ⟨pb, 0, none⟩ = some (.pointer (some ⟨bb, 0, none⟩))) (a : Option Addr) (n c : Nat) (f0 : W.cell? ⟨fb, 0, none⟩ = some (.slice a n c))
    (hG : TrW gt m cz ts W W) (h1 : bb ≠ gt) (h2 : pb ≠ gt) (h3 : fb ≠ gt) (xs : List Int) (hn : xs.length = n) (hN : n ≤ 35184372088832) (hmm : m ≤ 1048577) (hx : Lits W a xs) (hxa : ∀ b off, a = some ⟨b, off, none⟩ → xs ≠ [] → b ≠ gt) (hxs : ∀ x ∈ xs, 1 ≤ Bas.vr x ∧ Bas.vr x < m) :
    CallsD Try.prog 51 #[.pointer (some ⟨fb, 0, none⟩), .pointer (some ⟨pb, 0, none⟩)] u W fun e u' w' => u' = u ∧ e = .returned (.tuple #[]) ∧ TrW gt m cz (Bas.untake ts xs) W w' := by
  have HX8 := hid (fun (X : World) (t : List Int) (h : TrW gt m cz t W X) => (h.other h1).trans x8)
  have HP0 := hid (fun (X : World) (t : List Int) (h : TrW gt m cz t W X) => (h.other h2).trans p0)
  have HXS := hid hxs
  have HN := hid hn
  have HG := hid hG
  have HX : Hid (∀ (X : World) (t : List Int), TrW gt m cz t W X → ∀ k, k < xs.length → ∃ b off, a = some ⟨b, off, none⟩ ∧ X.cell? ⟨b, off + k, none⟩ = some (.int .i32 (xs.getD k 0)) ∧ I32 (xs.getD k 0)) := fun X t h k hk => by
    obtain ⟨b, off, e, _, hc, hlo, hhi⟩ := Row.at hx hk
    exact ⟨b, off, e, (h.other (hxa b off e (fun e => by rw [e] at hk; simp at hk))).trans hc, hlo, hhi⟩
  have sh : Hid (n = 0) ∨ ∃ b off, a = some ⟨b, off, none⟩ := by
    rcases hx.2 with h | ⟨b, off, e, _⟩
    · left; rw [h] at hn; exact hn.symm
    · exact .inr ⟨b, off, e⟩
  clear x8 p0 hxs hn hx hxa h1 h2 h3 hG
  rcases sh with Z | ⟨b, off, rfl⟩
  all_goals
    go_enter_d Try.func51, Try.ntmps51
    go_wp2_with fail
    go_loopw [3, 6] (fun _ iv wr => ∃ k : Nat, k ≤ n ∧ iv = .int .i64 k ∧ Hid (TrW gt m cz (Bas.untake ts (xs.take k)) W wr)) (fun _ iv _ => n - (intOf iv).toNat)
    case atStart => exact ⟨0, Nat.zero_le _, rfl, HG⟩
    case round =>
      obtain ⟨k, hk, rfl, HT⟩ := hrel
      by_cases hlt : k < n
      · first
        | (exfalso; have := Z.out; omega)
        | (have hlt' : (k : Int) < n := by omega
           have hkx : k < xs.length := by rw [HN.out]; exact hlt
           obtain ⟨b2, off2, e2, hc, hi⟩ := HX.out wr _ HT.out k hkx
           cases e2
           obtain ⟨hv1, hv2⟩ := HXS.out _ (getD_mem xs k hkx)
           have q8 := HX8.out wr _ HT.out
           have q0 := HP0.out wr _ HT.out
           have HTK := hid (show xs.take (k + 1) = xs.take k ++ [xs.getD k 0] by rw [List.take_succ_eq_append_getElem hkx]; simp [List.getD, hkx])
           have C49 := hid (fun X => var49 (xs.getD k 0) X hi)
           obtain ⟨v, hv⟩ : ∃ v : Nat, Bas.vr (xs.getD k 0) = v := ⟨(Bas.vr (xs.getD k 0)).toNat, by omega⟩
           have HTS := hid (fun q => show TrW gt m cz (Bas.untake ts (xs.take (k + 1))) W ((wr.setCell ⟨gt, v, none⟩ (.int .i32 0)).drewN q) from by
             rw [HTK.out, Bas.untake_snoc, hv]
             exact HT.out.set v 0 q)
           rw [hv] at hv1 hv2 C49
           have hvm : v < m := by omega
           have hvm' : (v : Int) < m := by omega
           obtain ⟨c1, c2⟩ := HT.out.cell hvm
           generalize xs.getD k 0 = x at *
           clear hv HTK
           go_wp2_with fail
           refine wp_region_still_tail 7 (by kernel_rfl) (by kernel_rfl) ?_
           simp only [List.take_succ_cons, List.take_zero, List.drop_succ_cons, List.drop_zero]
           iterate 5 still_step
           still_call (C49.out _)
           iterate 1 still_step
           refine wpStill_nil ?_
           go_wp2
           exact ⟨⟨k + 1, by omega, by go_num, hid (HTS.out 1)⟩, by simp [intOf]; omega⟩)
      · have hge : ¬ (k : Int) < n := by omega
        have O := HT.out
        rw [List.take_of_length_le (by rw [HN.out]; omega)] at O
        have O2 := hid O
        clear O
        go_wp2
        refine bodyPost_end (results_none rfl _ _ _) rfl ?_
        first | exact ⟨rfl, O2.out⟩ | exact ⟨rfl, rfl, O2.out⟩
end Go.Proofs.Ythpebfojkpnojaa

