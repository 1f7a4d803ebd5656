/- What a check has found true, plainly: taken, and taken back. -/
import Derived.Test.YthpebfojkpnojaaGreatJaf
import Derived.Defers
/- What a check has found true, plainly: taken, and taken back. -/
namespace Bas
theorem tru_nil (m : Nat) : Tru [] (List.replicate m 0) where
  at_ l h1 h2 := by
    have h3 : (List.replicate m (0 : Int)).getD (vr l).toNat 0 = 0 := by
      rw [List.getD, List.getElem?_replicate]
      split <;> rfl
    rw [h3]
    constructor
    · intro e; rw [← e] at h1; unfold vr at h1; simp at h1
    · intro h; cases h
  free v hv := .inl (by rw [List.getD, List.getElem?_replicate]; split <;> rfl)
theorem getD_set (ts : List Int) (v k : Nat) (x : Int) (hv : v < ts.length) : (ts.set v x).getD k 0 = if k = v then x else ts.getD k 0 := by
  rw [List.getD, List.getElem?_set]
  by_cases h : k = v
  · subst h
    simp [hv]
  · rw [if_neg (fun e => h e.symm), if_neg h]; rfl
theorem tru_take {T ts : List Int} (h : Tru T ts) {l : Int} (h1 : 1 ≤ vr l) (h2 : vr l < ts.length) (hz : ts.getD (vr l).toNat 0 = 0) : Tru (T ++ [l]) (ts.set (vr l).toNat l) := by
  have hv : (vr l).toNat < ts.length := by omega
  refine ⟨fun x hx1 hx2 => ?_, fun v hv2 => ?_⟩
  · rw [List.length_set] at hx2
    rw [getD_set ts _ _ _ hv, List.mem_append, List.mem_singleton]
    by_cases e : (vr x).toNat = (vr l).toNat
    · rw [if_pos e]
      constructor
      · intro e1; exact .inr e1.symm
      · rintro (h3 | h3)
        · have := (h.at_ x hx1 hx2).2 h3
          rw [e, hz] at this
          rw [← this] at hx1
          unfold vr at hx1
          simp at hx1
        · exact h3.symm
    · rw [if_neg e]
      constructor
      · intro e1; exact .inl ((h.at_ x hx1 hx2).1 e1)
      · rintro (h3 | h3)
        · exact (h.at_ x hx1 hx2).2 h3
        · exact absurd (by rw [h3]) e
  · rw [List.length_set] at hv2
    rw [getD_set ts _ _ _ hv]
    by_cases e : v = (vr l).toNat
    · rw [if_pos e]; right; omega
    · rw [if_neg e]; exact h.free v hv2
theorem untake_at (xs : List Int) : ∀ (ts : List Int) (v : Nat), v < ts.length → (untake ts xs).getD v 0 = if (∃ x ∈ xs, (vr x).toNat = v) then 0 else ts.getD v 0 := by
  induction xs with
  | nil => intro ts v _; rw [if_neg (by rintro ⟨x, hx, _⟩; cases hx)]; rfl
  | cons x xs ih =>
    intro ts v hv
    show (untake (ts.set (vr x).toNat 0) xs).getD v 0 = _
    rw [ih _ v (by rw [List.length_set]; exact hv)]
    by_cases h : ∃ y ∈ xs, (vr y).toNat = v
    · rw [if_pos h, if_pos]
      obtain ⟨y, hy, e⟩ := h
      exact ⟨y, List.mem_cons_of_mem _ hy, e⟩
    · rw [if_neg h]
      by_cases hx : (vr x).toNat = v
      · rw [if_pos ⟨x, List.mem_cons_self .., hx⟩, hx, getD_set ts v v 0 hv, if_pos rfl]
      · rw [if_neg]
        · rw [List.getD, List.getElem?_set, if_neg hx]; rfl
        · rintro ⟨y, hy, e⟩
          rcases List.mem_cons.1 hy with rfl | hy
          · exact hx e
          · exact h ⟨y, hy, e⟩
theorem untake_all {T ts : List Int} (h : Tru T ts) (h0 : ∀ v : Nat, v < ts.length → ts.getD v 0 ≠ 0 → 1 ≤ v) : untake ts T = List.replicate ts.length 0 := by
  apply List.ext_getElem?
  intro v
  by_cases hv : v < ts.length
  · rw [List.getElem?_replicate, if_pos hv]
    have h1 := untake_at T ts v hv
    rw [List.getD, List.getElem?_eq_getElem (by rw [untake_len]; exact hv)] at h1
    rw [List.getElem?_eq_getElem (by rw [untake_len]; exact hv)]
    congr 1
    refine h1.trans ?_
    split
    · rfl
    · rename_i hno
      rcases h.free v hv with h2 | h2
      · exact h2
      · by_cases hz : ts.getD v 0 = 0
        · exact hz
        · exfalso
          have h3 := h0 v hv hz
          refine hno ⟨ts.getD v 0, (h.at_ _ (by omega) (by omega)).1 ?_, by omega⟩
          rw [h2]; rfl
  · rw [List.getElem?_eq_none (by rw [untake_len]; omega), List.getElem?_eq_none (by simp; omega)]
theorem leftP_congr {T T' : List Int} (h : ∀ x, x ∈ T ↔ x ∈ T') : ∀ (d : List Int) (f : Int), leftP T d f = leftP T' d f := by
  intro d
  induction d with
  | nil => intro f; rfl
  | cons l d ih =>
    intro f
    rw [leftP_step, leftP_step, ih, ih]
    simp only [h]
end Bas

/- The truths of a check taken back: the deferred call. -/
namespace Go.Proofs.YthpebfojkpnojaaGreat
open Go.RowKit Go.Maps
set_option linter.unusedVariables false
set_option linter.unusedSimpArgs false
set_option maxRecDepth 100000
set_option maxHeartbeats 4000000 in
theorem untake51D (u : FrameMode) {bb fb pb gt m cz ct : Nat} {W : World} {ts : List Int} (x8 : W.cell? ⟨bb, 8, none⟩ = some (.slice (some ⟨gt, 0, none⟩) m ct)) (p0 : W.cell? ⟨pb, 0, none⟩ = some (.pointer (some ⟨bb, 0, none⟩))) (a : Option Addr) (n c : Nat) (f0 : W.cell? ⟨fb, 0, none⟩ = some (.slice a n c))
    (hG : TrW gt m cz ts W W) (h1 : bb ≠ gt) (h2 : pb ≠ gt) (h3 : fb ≠ gt) (xs : List Int) (hn : xs.length = n) (hN : n ≤ 35184372088832) (hmm : m ≤ 1048577) (hx : Lits W a xs) (hxa : ∀ b off, a = some ⟨b, off, none⟩ → xs ≠ [] → b ≠ gt) (hxs : ∀ x ∈ xs, 1 ≤ Bas.vr x ∧ Bas.vr x < m) :
    CallsD Tryz.prog 99 #[.pointer (some ⟨fb, 0, none⟩), .pointer (some ⟨pb, 0, none⟩)] u W fun e u' w' => u' = u ∧ e = .returned (.tuple #[]) ∧ TrW gt m cz (Bas.untake ts xs) W w' := by
  have HX8 := hid (fun (X : World) (t : List Int) (h : TrW gt m cz t W X) => (h.other h1).trans x8)
  have HP0 := hid (fun (X : World) (t : List Int) (h : TrW gt m cz t W X) => (h.other h2).trans p0)
  have HXS := hid hxs
  have HN := hid hn
  have HG := hid hG
  have HX : Hid (∀ (X : World) (t : List Int), TrW gt m cz t W X → ∀ k, k < xs.length → ∃ b off, a = some ⟨b, off, none⟩ ∧ X.cell? ⟨b, off + k, none⟩ = some (.int .i32 (xs.getD k 0)) ∧ I32 (xs.getD k 0)) := fun X t h k hk => by
    obtain ⟨b, off, e, _, hc, hlo, hhi⟩ := Row.at hx hk
    exact ⟨b, off, e, (h.other (hxa b off e (fun e => by rw [e] at hk; simp at hk))).trans hc, hlo, hhi⟩
  have sh : Hid (n = 0) ∨ ∃ b off, a = some ⟨b, off, none⟩ := by
    rcases hx.2 with h | ⟨b, off, e, _⟩
    · left; rw [h] at hn; exact hn.symm
    · exact .inr ⟨b, off, e⟩
  clear x8 p0 hxs hn hx hxa h1 h2 h3 hG
  rcases sh with Z | ⟨b, off, rfl⟩
  all_goals
    go_enter_d Tryz.func99, Tryz.ntmps99
    go_wp2_with fail
    go_loopw [3, 6] (fun _ iv wr => ∃ k : Nat, k ≤ n ∧ iv = .int .i64 k ∧ Hid (TrW gt m cz (Bas.untake ts (xs.take k)) W wr)) (fun _ iv _ => n - (intOf iv).toNat)
    case atStart => exact ⟨0, Nat.zero_le _, rfl, HG⟩
    case round =>
      obtain ⟨k, hk, rfl, HT⟩ := hrel
      by_cases hlt : k < n
      · first
        | (exfalso; have := Z.out; omega)
        | (have hlt' : (k : Int) < n := by omega
           have hkx : k < xs.length := by rw [HN.out]; exact hlt
           obtain ⟨b2, off2, e2, hc, hi⟩ := HX.out wr _ HT.out k hkx
           cases e2
           obtain ⟨hv1, hv2⟩ := HXS.out _ (getD_mem xs k hkx)
           have q8 := HX8.out wr _ HT.out
           have q0 := HP0.out wr _ HT.out
           have HTK := hid (show xs.take (k + 1) = xs.take k ++ [xs.getD k 0] by rw [List.take_succ_eq_append_getElem hkx]; simp [List.getD, hkx])
           have C49 := hid (fun X => var49 (xs.getD k 0) X hi)
           obtain ⟨v, hv⟩ : ∃ v : Nat, Bas.vr (xs.getD k 0) = v := ⟨(Bas.vr (xs.getD k 0)).toNat, by omega⟩
           have HTS := hid (fun q => show TrW gt m cz (Bas.untake ts (xs.take (k + 1))) W ((wr.setCell ⟨gt, v, none⟩ (.int .i32 0)).drewN q) from by
             rw [HTK.out, Bas.untake_snoc, hv]
             exact HT.out.set v 0 q)
           rw [hv] at hv1 hv2 C49
           have hvm : v < m := by omega
           have hvm' : (v : Int) < m := by omega
           obtain ⟨c1, c2⟩ := HT.out.cell hvm
           generalize xs.getD k 0 = x at *
           clear hv HTK
           go_wp2_with fail
           refine wp_region_still_tail 7 (by kernel_rfl) (by kernel_rfl) ?_
           simp only [List.take_succ_cons, List.take_zero, List.drop_succ_cons, List.drop_zero]
           iterate 5 still_step
           still_call (C49.out _)
           iterate 1 still_step
           refine wpStill_nil ?_
           go_wp2
           exact ⟨⟨k + 1, by omega, by go_num, hid (HTS.out 1)⟩, by simp [intOf]; omega⟩)
      · have hge : ¬ (k : Int) < n := by omega
        have O := HT.out
        rw [List.take_of_length_le (by rw [HN.out]; omega)] at O
        have O2 := hid O
        clear O
        go_wp2
        refine bodyPost_end (results_none rfl _ _ _) rfl ?_
        first | exact ⟨rfl, O2.out⟩ | exact ⟨rfl, rfl, O2.out⟩
end Go.Proofs.YthpebfojkpnojaaGreat

/- A clause and a row of hints in memory of their own: slices.Clone. -/
namespace Go.Proofs.YthpebfojkpnojaaGreat
open Go.RowKit
set_option linter.unusedVariables false
theorem one_ints (k : IntKind) (l : List Int) : ∀ u ∈ l.map (Value.int k), u.oneCell' = true := by
  intro u hu
  obtain ⟨x, _, rfl⟩ := List.mem_map.1 hu
  rfl
def ClOut (w : World) (xs : List Int) (n : Nat) (e : Ending) (w' : World) : Prop :=
  ∃ o k, e = .returned (.slice o n k) ∧ w'.ownsRow w.heap.size 66 1 (.slice o n k) n (xs.map (Value.int .i32)) ∧ Below w.heap.size w w'
set_option maxRecDepth 100000 in
set_option maxHeartbeats 2000000 in
theorem clone31 (a : Option Addr) (n c : Nat) (xs : List Int) (w : World) (hn : xs.length = n) (hb : n ≤ 16777216) (hx : Lits w a xs) :
    Calls Tryz.prog 35 #[.slice a n c] w fun e w' => ClOut w xs n e w' := by
  cases a with
  | none =>
    have hx0 : xs = [] := by
      rcases hx.2 with h | ⟨b, off, e, _⟩
      · exact h
      · cases e
    subst hx0
    obtain rfl : n = 0 := by simpa using hn.symm
    have HF : Hid (ClOut w [] 0 (.returned (.slice none 0 0)) w) := ⟨none, 0, rfl, World.ownsRow_nil _ _ _ _, Below.refl _ _⟩
    clear hx hn
    have hnil : ∀ W, (binOp .eql 38 (.slice none 0 c) (.slice none 0 0)).run Tryz.prog W = .ok (.bool true) W := fun W => by kernel_rfl
    go_enter Tryz.func35, Tryz.ntmps35
    go_wp2
    go_ret
    exact HF.out
  | some ad =>
    obtain ⟨i0, hi, hz⟩ := Option.map_eq_some_iff.1 info45
    simp only [Prod.mk.injEq] at hz
    have hB1 := below_box w (.cells #[] 66)
    have hx1 : (w.alloc (.cells #[] 66)).heap[w.heap.size]? = some (.cells #[] 66 (0, 0)) := heap_alloc_new _ _
    have hl1 := hx.below hB1
    have hs1 : w.heap.size ≤ (w.alloc (.cells #[] 66)).heap.size := by simp
    generalize hW1 : w.alloc (.cells #[] 66) = W1 at hB1 hx1 hl1 hs1
    have ho1 : W1.ownsRow w.heap.size 66 1 (.slice (some ⟨w.heap.size, 0, none⟩) 0 0) 0 [] := ⟨rfl, .inr ⟨w.heap.size, 0, #[], rfl, Nat.le_refl _, hx1, Nat.le_refl _, Nat.zero_le _, rfl, rfl⟩⟩
    obtain ⟨v2, B, hr, ho2, hgb, _, _⟩ := run_append_own_at (P := Tryz.prog) W1 w.heap.size 38 38 66 i0 _ 1 4 Tryz.underlying38 hi hz.1 hz.2.1 hz.2.2 rfl (by decide) (.slice (some ⟨w.heap.size, 0, none⟩) 0 0) 0 [] ho1 ad n c (xs.map (Value.int .i32)) (by simp [hn]) (fun j u hu => by
      rw [List.getElem?_map] at hu
      obtain ⟨x, hx', rfl⟩ := Option.map_eq_some_iff.1 hu
      have hj : j < xs.length := by
        rcases Nat.lt_or_ge j xs.length with h' | h'
        · exact h'
        · rw [List.getElem?_eq_none h'] at hx'; cases hx'
      obtain ⟨b, off, e, _, hc, _, _⟩ := Row.at hl1 hj
      cases e
      rw [show (⟨b, off, none⟩ : Addr).add j = ⟨b, off + j, none⟩ by simp [Addr.add], hc]
      simp [List.getD, hx']) (one_ints _ _) (by simp [maxLen]; omega) (by omega) (by omega)
    obtain ⟨o, k, rfl⟩ := own_slc ho2
    rw [Nat.zero_add] at hr ho2
    rw [List.nil_append] at ho2
    have HR := hid hr
    have HF : Hid (ClOut w xs n (.returned (.slice o n k)) B) := ⟨o, k, rfl, ho2, by
      refine hB1.trans ?_
      exact ⟨hgb.os, hgb.tape, hgb.output, hgb.size, fun q hq => hgb.block q (by omega) (by show some q ≠ some w.heap.size; intro e; injection e with e; omega)⟩⟩
    clear hi hz hB1 hx1 hl1 hs1 ho1 hr ho2 hgb hx hn
    have hnil : ∀ W, (binOp .eql 38 (.slice (some ad) n c) (.slice none 0 0)).run Tryz.prog W = .ok (.bool false) W := fun W => by kernel_rfl
    go_enter Tryz.func35, Tryz.ntmps35
    go_wp2_with (at_builtin; refine wpList_append_run rfl (.tmp 5) (.tmp 6) 38 38 rfl rfl rfl HR.out ?_)
    go_ret
    exact HF.out
def HnOut (w : World) (xs : List Int) (n : Nat) (e : Ending) (w' : World) : Prop :=
  ∃ o k, e = .returned (.slice o n k) ∧ w'.ownsRow w.heap.size 2 1 (.slice o n k) n (xs.map (Value.int .i64)) ∧ Below w.heap.size w w'
set_option maxRecDepth 100000 in
set_option maxHeartbeats 2000000 in
theorem clone34 (a : Option Addr) (n c : Nat) (xs : List Int) (w : World) (hn : xs.length = n) (hb : n ≤ 16777216) (hx : Hnts w a xs) :
    Calls Tryz.prog 40 #[.slice a n c] w fun e w' => HnOut w xs n e w' := by
  cases a with
  | none =>
    have hx0 : xs = [] := by
      rcases hx.2 with h | ⟨b, off, e, _⟩
      · exact h
      · cases e
    subst hx0
    obtain rfl : n = 0 := by simpa using hn.symm
    have HF : Hid (HnOut w [] 0 (.returned (.slice none 0 0)) w) := ⟨none, 0, rfl, World.ownsRow_nil _ _ _ _, Below.refl _ _⟩
    clear hx hn
    have hnil : ∀ W, (binOp .eql 39 (.slice none 0 c) (.slice none 0 0)).run Tryz.prog W = .ok (.bool true) W := fun W => by kernel_rfl
    go_enter Tryz.func40, Tryz.ntmps40
    go_wp2
    go_ret
    exact HF.out
  | some ad =>
    obtain ⟨i0, hi, hz⟩ := Option.map_eq_some_iff.1 info2
    simp only [Prod.mk.injEq] at hz
    have hB1 := below_box w (.cells #[] 2)
    have hx1 : (w.alloc (.cells #[] 2)).heap[w.heap.size]? = some (.cells #[] 2 (0, 0)) := heap_alloc_new _ _
    have hl1 := hx.below hB1
    have hs1 : w.heap.size ≤ (w.alloc (.cells #[] 2)).heap.size := by simp
    generalize hW1 : w.alloc (.cells #[] 2) = W1 at hB1 hx1 hl1 hs1
    have ho1 : W1.ownsRow w.heap.size 2 1 (.slice (some ⟨w.heap.size, 0, none⟩) 0 0) 0 [] := ⟨rfl, .inr ⟨w.heap.size, 0, #[], rfl, Nat.le_refl _, hx1, Nat.le_refl _, Nat.zero_le _, rfl, rfl⟩⟩
    obtain ⟨v2, B, hr, ho2, hgb, _, _⟩ := run_append_own_at (P := Tryz.prog) W1 w.heap.size 39 39 2 i0 _ 1 8 Tryz.underlying39 hi hz.1 hz.2.1 hz.2.2 rfl (by decide) (.slice (some ⟨w.heap.size, 0, none⟩) 0 0) 0 [] ho1 ad n c (xs.map (Value.int .i64)) (by simp [hn]) (fun j u hu => by
      rw [List.getElem?_map] at hu
      obtain ⟨x, hx', rfl⟩ := Option.map_eq_some_iff.1 hu
      have hj : j < xs.length := by
        rcases Nat.lt_or_ge j xs.length with h' | h'
        · exact h'
        · rw [List.getElem?_eq_none h'] at hx'; cases hx'
      obtain ⟨b, off, e, _, hc, _, _⟩ := Row.at hl1 hj
      cases e
      rw [show (⟨b, off, none⟩ : Addr).add j = ⟨b, off + j, none⟩ by simp [Addr.add], hc]
      simp [List.getD, hx']) (one_ints _ _) (by simp [maxLen]; omega) (by omega) (by omega)
    obtain ⟨o, k, rfl⟩ := own_slc ho2
    rw [Nat.zero_add] at hr ho2
    rw [List.nil_append] at ho2
    have HR := hid hr
    have HF : Hid (HnOut w xs n (.returned (.slice o n k)) B) := ⟨o, k, rfl, ho2, by
      refine hB1.trans ?_
      exact ⟨hgb.os, hgb.tape, hgb.output, hgb.size, fun q hq => hgb.block q (by omega) (by show some q ≠ some w.heap.size; intro e; injection e with e; omega)⟩⟩
    clear hi hz hB1 hx1 hl1 hs1 ho1 hr ho2 hgb hx hn
    have hnil : ∀ W, (binOp .eql 39 (.slice (some ad) n c) (.slice none 0 0)).run Tryz.prog W = .ok (.bool false) W := fun W => by kernel_rfl
    go_enter Tryz.func40, Tryz.ntmps40
    go_wp2_with (at_builtin; refine wpList_append_run rfl (.tmp 5) (.tmp 6) 39 39 rfl rfl rfl HR.out ?_)
    go_ret
    exact HF.out
end Go.Proofs.YthpebfojkpnojaaGreat

/- Occurs, Keep: the calls that stand on alive, keep and note. -/
namespace Go.Proofs.YthpebfojkpnojaaGreat
open Go.RowKit Go.Maps
set_option linter.unusedVariables false
set_option linter.unusedSimpArgs false
set_option maxRecDepth 100000
theorem sorted_len : ∀ (ids : List Int) (lo hi : Int), ids.Pairwise (· < ·) → (∀ i ∈ ids, lo < i ∧ i ≤ hi) → lo ≤ hi → (ids.length : Int) ≤ hi - lo := by
  intro ids
  induction ids with
  | nil => intro lo hi _ _ h; simp; omega
  | cons x t ih =>
    intro lo hi hp hb _
    rw [List.pairwise_cons] at hp
    have h1 := hb x (List.mem_cons_self ..)
    have := ih x hi hp.2 (fun i hi' => ⟨hp.1 i hi', (hb i (List.mem_cons_of_mem _ hi')).2⟩) h1.2
    simp only [List.length_cons]
    omega
theorem own_row {W : World} {base n c e : Nat} {o : Option Addr} {k : IntKind} {lo hi : Int} {xs : List Int} (h : W.ownsRow base e 1 (.slice o n c) n (xs.map (Value.int k))) (hb : ∀ x ∈ xs, lo ≤ x ∧ x ≤ hi) : Row k lo hi W o xs := by
  refine ⟨hb, ?_⟩
  have hl : xs.length = n := by have := h.1; simpa using this
  rcases h.2 with ⟨_, h0⟩ | ⟨g, c', cur, e1, _, h2, _, _, h5, h6⟩
  · left; exact List.eq_nil_of_length_eq_zero (by omega)
  · right
    injection e1 with e1 _ _
    refine ⟨g, 0, e1, lt_of_blk h2, fun j hj => ?_⟩
    rw [Nat.zero_add, row_cell h2]
    have h7 : (cur.toList.take (n * 1))[j]? = (xs.map (Value.int k))[j]? := by rw [h6]
    rw [List.getElem?_take, if_pos (by omega), List.getElem?_map, List.getElem?_eq_getElem hj] at h7
    rw [← Array.getElem?_toList, h7]
    simp [List.getD, hj]
set_option maxHeartbeats 4000000 in
theorem occurs15 {M : Nat → Prop} {bb K : Nat} {s : Bas.S} {W : World} (h : Bs M bb K s W) (hL : s.last ≤ 100000000) (l : Int) (hl : I32 l) :
    Calls Tryz.prog 62 #[.pointer (some ⟨bb, 0, none⟩), .int .i32 l] W fun e w' => IntsOut W.heap.size (Bas.occ s.live l) e w' ∧ Below W.heap.size W w' := by
  obtain ⟨hv, bm, br, k, k2, f, g, rv, sv, tv, R, Z, rw', ids, iv, hb, m1, m2, m3, hne, ⟨a1, a2, a3⟩, ⟨b1, b2, b3, b4, b5⟩, _⟩ := h
  have x3 : W.cell? ⟨bb, 3, none⟩ = some (.map (some bm)) := row_cell hb 3
  have x4 : W.cell? ⟨bb, 4, none⟩ = some (.map (some br)) := row_cell hb 4
  have hlk := b1.look hl
  cases hg : g l with
  | none =>
    have HO := hid (b4 l hg)
    rw [hg] at hlk
    simp only [Option.getD_none, Option.isSome_none] at hlk
    clear b3 b4 b5 a3 hg a1 b1 x3 hb
    go_enter Tryz.func62, Tryz.ntmps62
    go_wp2
    go_ret
    exact ⟨⟨_, rfl, by rw [HO.out]; exact World.ownsRow_nil _ _ _ _⟩, Below.refl _ _⟩
  | some v =>
    obtain ⟨rfl, _, ⟨go, la, q3, _⟩, q5, q6, q7, q8⟩ := b3 l v hg
    rw [hg] at hlk
    simp only [Option.getD_some, Option.isSome_some] at hlk
    have hlen : (ids l).length ≤ 100000000 := by
      have := sorted_len (ids l) 0 100000000 q7 (fun i hi => ⟨(q8 i hi).1, by have := (q8 i hi).2; omega⟩) (by omega)
      omega
    obtain ⟨o, c, hiv⟩ := own_slc q5.1
    have hq5 := q5.1
    rw [hiv] at hq5 q3
    have hrow : Hnts W o (ids l) := own_row hq5 (fun i hi => by have := q8 i hi; omega)
    have r0 : W.cell? ⟨rw' l, 0, none⟩ = some (.slice o (ids l).length c) := row_cell q3 0
    have hf : (ids l).filter (fun i => (f i).isSome) = Bas.occ s.live l := by
      rw [← q6]
      apply List.filter_congr
      intro i hi
      have hi2 := q8 i hi
      have := a3 i ⟨by omega, by omega⟩
      cases hq : Bas.look s.live i with
      | none => rw [hq] at this; simp only [EntAt] at this; rw [this]; rfl
      | some d => rw [hq] at this; obtain ⟨_, _, e1, _⟩ := this; rw [e1]; rfl
    have C := hid (alive41 x3 a1 (fun i v hi hfv => by
      have := a3 i hi
      rw [hfv] at this
      cases hq : Bas.look s.live i with
      | none => rw [hq] at this; cases this
      | some d => rw [hq] at this; obtain ⟨a9, c9, e1, _⟩ := this; injection e1 with e1; exact ⟨_, _, _, _, _, e1⟩) o (ids l).length c (ids l) rfl hlen hrow)
    rw [hf] at C
    clear b3 b4 b5 a3 hg a1 b1 x3 hb hf q3 q5 q6 q7 q8 hrow hq5 hiv hlen
    generalize (ids l).length = n at *
    generalize rw' l = rb at *
    go_enter Tryz.func62, Tryz.ntmps62
    go_wp2_with (go_at_call 94; refine C.out.mono ?_; rintro e w4 ⟨⟨v4, rfl, ho⟩, hw4⟩; have HO4 := hid ho; have HB4 := hid hw4; clear ho hw4)
    go_ret
    exact ⟨⟨_, rfl, HO4.out⟩, HB4.out⟩
end Go.Proofs.YthpebfojkpnojaaGreat

