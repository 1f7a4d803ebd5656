/- The truths of a check taken back. -/
import Derived.Test.YthpebfojkpnojaaGreatJad
import Derived.StillTailTactics
import Derived.Deep.AppendLies
/- The truths of a check taken back. -/
namespace Bas
def untake (ts xs : List Int) : List Int := xs.foldl (fun t x => t.set (vr x).toNat 0) ts
theorem untake_len (xs : List Int) : ∀ ts : List Int, (untake ts xs).length = ts.length := by
  induction xs with
  | nil => intro ts; rfl
  | cons x xs ih => intro ts; unfold untake at *; rw [List.foldl_cons, ih, List.length_set]
theorem untake_snoc (ts xs : List Int) (x : Int) : untake ts (xs ++ [x]) = (untake ts xs).set (vr x).toNat 0 := by
  unfold untake; rw [List.foldl_append]; rfl
end Bas
namespace Go.Proofs.YthpebfojkpnojaaGreat
open Go.RowKit Go.Maps
set_option linter.unusedVariables false
set_option linter.unusedSimpArgs false
set_option maxRecDepth 100000
/-- One block alone is turned, and it is a row of truths. -/
structure TrW (gt m cz : Nat) (ts : List Int) (W W' : World) : Prop where
  os : W'.os = W.os
  tape : W'.tape = W.tape
  output : W'.output = W.output
  size : W'.heap.size = W.heap.size
  block : ∀ q, q ≠ gt → W'.heap[q]? = W.heap[q]?
  row : ∃ cur : Array Value, W'.heap[gt]? = some (.cells cur 66 (0, 0)) ∧ cur.size = cz ∧ m ≤ cz ∧ ts.length = m ∧ cur.toList.take m = ts.map (Value.int .i32)
theorem TrW.cell {gt m cz : Nat} {ts : List Int} {W W' : World} (h : TrW gt m cz ts W W') {v : Nat} (hv : v < m) : W'.cell? ⟨gt, v, none⟩ = some (.int .i32 (ts.getD v 0)) ∧ W'.frozen? ⟨gt, v, none⟩ = false := by
  obtain ⟨cur, h1, h2, h3, h4, h5⟩ := h.row
  refine ⟨?_, row_frozen h1 v⟩
  rw [row_cell h1]
  have h7 : (cur.toList.take m)[v]? = (ts.map (Value.int .i32))[v]? := by rw [h5]
  rw [List.getElem?_take, if_pos hv, List.getElem?_map, List.getElem?_eq_getElem (show v < ts.length by omega)] at h7
  rw [← Array.getElem?_toList, h7]
  simp [List.getD, show v < ts.length by omega]
theorem TrW.set {gt m cz : Nat} {ts : List Int} {W W' : World} (h : TrW gt m cz ts W W') (v : Nat) (x : Int) (q : Nat) : TrW gt m cz (ts.set v x) W ((W'.setCell ⟨gt, v, none⟩ (.int .i32 x)).drewN q) := by
  obtain ⟨cur, h1, h2, h3, h4, h5⟩ := h.row
  refine ⟨h.os, h.tape, h.output, (show (W'.setCell ⟨gt, v, none⟩ (.int .i32 x)).heap.size = _ from by simp [World.setCell]; exact h.size), fun q hq => (heap_other W' _ hq).trans (h.block q hq), cur.setIfInBounds v (.int .i32 x), heap_set_row h1 _, by simp [h2], h3, by simp [h4], setB_take cur ts .i32 m v x h5⟩
theorem TrW.other {gt m cz : Nat} {ts : List Int} {W W' : World} (h : TrW gt m cz ts W W') {b k : Nat} (hb : b ≠ gt) : W'.cell? ⟨b, k, none⟩ = W.cell? ⟨b, k, none⟩ := World.cell?_of_block (h.block b hb)
theorem TrW.drN {gt m cz : Nat} {ts : List Int} {W W' : World} (h : TrW gt m cz ts W W') (q : Nat) : TrW gt m cz ts W (W'.drewN q) := ⟨h.os, h.tape, h.output, h.size, h.block, h.row⟩
set_option maxHeartbeats 4000000 in
theorem untake51 {bb fb pb gt m cz ct : Nat} {W : World} {ts : List Int} (x8 : W.cell? ⟨bb, 8, none⟩ = some (.slice (some ⟨gt, 0, none⟩) m ct)) (p0 : W.cell? ⟨pb, 0, none⟩ = some (.pointer (some ⟨bb, 0, none⟩))) (a : Option Addr) (n c : Nat) (f0 : W.cell? ⟨fb, 0, none⟩ = some (.slice a n c))
    (hG : TrW gt m cz ts W W) (h1 : bb ≠ gt) (h2 : pb ≠ gt) (h3 : fb ≠ gt) (xs : List Int) (hn : xs.length = n) (hN : n ≤ 35184372088832) (hmm : m ≤ 1048577) (hx : Lits W a xs) (hxa : ∀ b off, a = some ⟨b, off, none⟩ → xs ≠ [] → b ≠ gt) (hxs : ∀ x ∈ xs, 1 ≤ Bas.vr x ∧ Bas.vr x < m) :
    Calls Tryz.prog 99 #[.pointer (some ⟨fb, 0, none⟩), .pointer (some ⟨pb, 0, none⟩)] W fun e w' => e = .returned (.tuple #[]) ∧ TrW gt m cz (Bas.untake ts xs) W w' := by
  have HX8 := hid (fun (X : World) (t : List Int) (h : TrW gt m cz t W X) => (h.other h1).trans x8)
  have HP0 := hid (fun (X : World) (t : List Int) (h : TrW gt m cz t W X) => (h.other h2).trans p0)
  have HXS := hid hxs
  have HN := hid hn
  have HG := hid hG
  have HX : Hid (∀ (X : World) (t : List Int), TrW gt m cz t W X → ∀ k, k < xs.length → ∃ b off, a = some ⟨b, off, none⟩ ∧ X.cell? ⟨b, off + k, none⟩ = some (.int .i32 (xs.getD k 0)) ∧ I32 (xs.getD k 0)) := fun X t h k hk => by
    obtain ⟨b, off, e, _, hc, hlo, hhi⟩ := Row.at hx hk
    exact ⟨b, off, e, (h.other (hxa b off e (fun e => by rw [e] at hk; simp at hk))).trans hc, hlo, hhi⟩
  have sh : Hid (n = 0) ∨ ∃ b off, a = some ⟨b, off, none⟩ := by
    rcases hx.2 with h | ⟨b, off, e, _⟩
    · left; rw [h] at hn; exact hn.symm
    · exact .inr ⟨b, off, e⟩
  clear x8 p0 hxs hn hx hxa h1 h2 h3 hG
  rcases sh with Z | ⟨b, off, rfl⟩
  all_goals
    go_enter Tryz.func99, Tryz.ntmps99
    go_wp2_with fail
    go_loopw [3, 6] (fun _ iv wr => ∃ k : Nat, k ≤ n ∧ iv = .int .i64 k ∧ Hid (TrW gt m cz (Bas.untake ts (xs.take k)) W wr)) (fun _ iv _ => n - (intOf iv).toNat)
    case atStart => exact ⟨0, Nat.zero_le _, rfl, HG⟩
    case round =>
      obtain ⟨k, hk, rfl, HT⟩ := hrel
      by_cases hlt : k < n
      · first
        | (exfalso; have := Z.out; omega)
        | (have hlt' : (k : Int) < n := by omega
           have hkx : k < xs.length := by rw [HN.out]; exact hlt
           obtain ⟨b2, off2, e2, hc, hi⟩ := HX.out wr _ HT.out k hkx
           cases e2
           obtain ⟨hv1, hv2⟩ := HXS.out _ (getD_mem xs k hkx)
           have q8 := HX8.out wr _ HT.out
           have q0 := HP0.out wr _ HT.out
           have HTK := hid (show xs.take (k + 1) = xs.take k ++ [xs.getD k 0] by rw [List.take_succ_eq_append_getElem hkx]; simp [List.getD, hkx])
           have C49 := hid (fun X => var49 (xs.getD k 0) X hi)
           obtain ⟨v, hv⟩ : ∃ v : Nat, Bas.vr (xs.getD k 0) = v := ⟨(Bas.vr (xs.getD k 0)).toNat, by omega⟩
           have HTS := hid (fun q => show TrW gt m cz (Bas.untake ts (xs.take (k + 1))) W ((wr.setCell ⟨gt, v, none⟩ (.int .i32 0)).drewN q) from by
             rw [HTK.out, Bas.untake_snoc, hv]
             exact HT.out.set v 0 q)
           rw [hv] at hv1 hv2 C49
           have hvm : v < m := by omega
           have hvm' : (v : Int) < m := by omega
           obtain ⟨c1, c2⟩ := HT.out.cell hvm
           generalize xs.getD k 0 = x at *
           clear hv HTK
           go_wp2_with fail
           refine wp_region_still_tail 7 (by kernel_rfl) (by kernel_rfl) ?_
           simp only [List.take_succ_cons, List.take_zero, List.drop_succ_cons, List.drop_zero]
           iterate 5 still_step
           still_call (C49.out _)
           iterate 1 still_step
           refine wpStill_nil ?_
           go_wp2
           exact ⟨⟨k + 1, by omega, by go_num, hid (HTS.out 1)⟩, by simp [intOf]; omega⟩)
      · have hge : ¬ (k : Int) < n := by omega
        have O := HT.out
        rw [List.take_of_length_le (by rw [HN.out]; omega)] at O
        have O2 := hid O
        clear O
        go_wp2
        refine bodyPost_end (results_none rfl _ _ _) rfl ?_
        exact ⟨rfl, O2.out⟩
end Go.Proofs.YthpebfojkpnojaaGreat

/- alive: those of some ids that are live ones. -/
namespace Go.Proofs.YthpebfojkpnojaaGreat
open Go.RowKit Go.Maps
set_option linter.unusedVariables false
set_option linter.unusedSimpArgs false
set_option maxRecDepth 100000
theorem info2 : (Tryz.prog.info? 2).map (fun i => (i.zero, i.size, i.bytes)) = some (some (.int .i64 0), 1, 8) := by kernel_rfl
/-- A number more, behind a row of one's own. -/
theorem push2 {W : World} {base : Nat} {v : Value} {k : Nat} {xs : List Int} (ho : W.ownsRow base 2 1 v k (xs.map (Value.int .i64))) (p : Int) (hb : base ≤ W.heap.size) (hk : k ≤ 1000000000) :
    ∃ g c B, (Builtin.append_ #[39, 39] 39 #[v, .slice (some ⟨W.heap.size, 0, none⟩) 1 1]).run Tryz.prog (W.alloc (.cells #[.int .i64 p] 2)) = .ok (.slice (some ⟨g, 0, none⟩) (k + 1) c) B ∧ B.ownsRow base 2 1 (.slice (some ⟨g, 0, none⟩) (k + 1) c) (k + 1) ((xs ++ [p]).map (Value.int .i64)) ∧
      (W.alloc (.cells #[.int .i64 p] 2)).grownBy B v.ownBlock ∧ (v.ownBlock = some g ∨ g = W.heap.size + 1) := by
  obtain ⟨i0, hi0, hz⟩ := Option.map_eq_some_iff.1 info2
  simp only [Prod.mk.injEq] at hz
  obtain ⟨g, c, B, hr, h2, h3, h5, _⟩ := run_append_lies (P := Tryz.prog) (W.alloc (.cells #[.int .i64 p] 2)) 39 39 base 2 i0 (.int .i64 0) 1 8 Tryz.underlying39 hi0 hz.1 hz.2.1 hz.2.2 rfl (by decide) v k _ (ho.alloc _) ⟨W.heap.size, 0, none⟩ 1 1 [.int .i64 p] rfl (World.news_of_block (heap_alloc_new W (.cells #[.int .i64 p] 2))) (by intro u hu; simp at hu; subst hu; rfl) (by decide) (by unfold maxLen; omega) (by omega) (by simp; omega) _ rfl
  exact ⟨g, c, B, hr, by rw [List.map_append]; exact h2, h3, by simpa using h5⟩
theorem below_grown {n : Nat} {A W W' : World} {row : Option Nat} (hb : Below n A W) (hg : W.grownBy W' row) (hr : ∀ k, row = some k → n ≤ k) (hn : n ≤ W.heap.size) : Below n A W' :=
  ⟨hg.os.trans hb.os, hg.tape.trans hb.tape, hg.output.trans hb.output, Nat.le_trans hb.size hg.size, fun g hgl => (hg.block g (by omega) (fun e => by have := hr g e.symm; omega)).trans (hb.block g hgl)⟩
def IntsOut (n : Nat) (xs : List Int) (e : Ending) (w' : World) : Prop := ∃ v, e = .returned v ∧ w'.ownsRow n 2 1 v xs.length (xs.map (Value.int .i64))
set_option maxHeartbeats 4000000 in
theorem alive41 {bb bm k : Nat} {W : World} {f : Int → Option Value} (x3 : W.cell? ⟨bb, 3, none⟩ = some (.map (some bm))) (hM : Mp W bm k f) (hE : ∀ id v, I64 id → f id = some v → ∃ i a n c r, v = .agg #[.int .i64 i, .slice a n c, .bool r]) (a : Option Addr) (n c : Nat) (xs : List Int) (hn : xs.length = n) (hN : n ≤ 100000000) (hx : Hnts W a xs) :
    Calls Tryz.prog 94 #[.pointer (some ⟨bb, 0, none⟩), .slice a n c] W fun e w' => IntsOut W.heap.size (xs.filter (fun i => (f i).isSome)) e w' ∧ Below W.heap.size W w' := by
  have HX3 := hid (fun X (hX : Below W.heap.size W X) => (hX.cell (p := ⟨bb, 3, none⟩) (cell_lt x3)).trans x3)
  have HMX := hid (fun X (hX : Below W.heap.size W X) => hM.same (hX.block bm hM.lt))
  have HX := hid hx
  have HN := hid hn
  have sh : Hid (n = 0) ∨ ∃ b off, a = some ⟨b, off, none⟩ := by
    rcases hx.2 with h | ⟨b, off, e, _⟩
    · left; rw [h] at hn; exact hn.symm
    · exact .inr ⟨b, off, e⟩
  have HE := hid hE
  clear x3 hM hx hn hE
  rcases sh with Z | ⟨b, off, rfl⟩
  all_goals
    go_enter Tryz.func94, Tryz.ntmps94
    go_wp2_with fail
    go_loopw [5, 7, 9, 12] (fun lv _ _ iv wr => ∃ (k2 m : Nat) (lo : Option Addr) (lc : Nat), k2 ≤ n ∧ m ≤ k2 ∧ iv = .int .i64 k2 ∧ lv = .slice lo m lc ∧ Hid (((xs.take k2).filter (fun i => (f i).isSome)).length = m) ∧ Hid (wr.ownsRow W.heap.size 2 1 (.slice lo m lc) m (((xs.take k2).filter (fun i => (f i).isSome)).map (Value.int .i64))) ∧ Hid (Below W.heap.size W wr)) (fun _ _ _ iv _ => n - (intOf iv).toNat)
    case atStart => exact ⟨0, 0, none, 0, Nat.zero_le _, Nat.le_refl _, rfl, rfl, hid (by simp), hid (World.ownsRow_nil _ _ _ _), hid (Below.refl _ _)⟩
    case round =>
      obtain ⟨k2, m, lo, lc, hk2, hm, rfl, rfl, HLN, HO, HB⟩ := hrel
      by_cases hlt : k2 < n
      · first
        | (exfalso; have := Z.out; omega)
        | (have hlt' : (k2 : Int) < n := by omega
           have hkx : k2 < xs.length := by rw [HN.out]; exact hlt
           obtain ⟨b2, off2, e2, _, hc, hlo, hhi⟩ := Row.at (HX.out.below HB.out) hkx
           cases e2
           have x3 := HX3.out _ HB.out
           have hlk := (HMX.out _ HB.out).look (id := xs.getD k2 0) ⟨hlo, hhi⟩
           have HTK := hid (show xs.take (k2 + 1) = xs.take k2 ++ [xs.getD k2 0] by rw [List.take_succ_eq_append_getElem hkx]; simp [List.getD, hkx])
           have HPU := hid (fun (W1 : World) (hb1 : Below wr.heap.size wr W1) => push2 (own_below HO.out hb1) (xs.getD k2 0) (Nat.le_trans HB.out.size hb1.size) (by omega))
           have HBG := hid (fun (W1 B : World) (hb1 : Below wr.heap.size wr W1) (gr1 : (W1.alloc (.cells #[.int .i64 (xs.getD k2 0)] 2)).grownBy B (Value.slice lo m lc).ownBlock) => show Below W.heap.size W B from below_grown ((HB.out.trans (hb1.mono HB.out.size)).trans ((below_box W1 (.cells #[.int .i64 (xs.getD k2 0)] 2)).mono (Nat.le_trans HB.out.size hb1.size))) gr1 (fun q hq => (own_blk HO.out hq).1) (by have := HB.out.size; have := hb1.size; simp; omega))
           have HEV := hid (fun v => HE.out (xs.getD k2 0) v ⟨hlo, hhi⟩)
           have HF := hid (show ∀ q, f (xs.getD k2 0) = q → (xs.take (k2 + 1)).filter (fun i => (f i).isSome) = (xs.take k2).filter (fun i => (f i).isSome) ++ (if q.isSome then [xs.getD k2 0] else []) from fun q hq => by
             rw [HTK.out, List.filter_append]
             congr 1
             rw [List.filter_cons, hq]
             cases q <;> simp)
           generalize xs.getD k2 0 = id at *
           cases hq : f id with
           | none =>
             rw [hq] at hlk
             have HF2 := hid (HF.out none hq)
             simp only [Option.isSome_none, Bool.false_eq_true, if_false, List.append_nil, Option.getD_none] at HF2 hlk
             have HO1 := hid (fun o => own_below HO.out (below_box wr o))
             have HB1 := hid (fun o => HB.out.trans ((below_box wr o).mono HB.out.size))
             clear hq HF HPU HBG HEV
             go_wp2
             go_roundw
             case rel => exact ⟨k2 + 1, m, lo, lc, by omega, by omega, by go_num, rfl, hid (by rw [HF2.out]; exact HLN.out), hid (by rw [HF2.out]; exact HO1.out _), hid (HB1.out _)⟩
             case measure => simp [intOf]; omega
           | some v =>
             rw [hq] at hlk
             have HF2 := hid (HF.out (some v) hq)
             simp only [Option.isSome_some, if_true, Option.getD_some] at HF2 hlk
             obtain ⟨ei, ea, en, ec, er, rfl⟩ := HEV.out v hq
             obtain ⟨W1, hW1⟩ : ∃ W1, wr.alloc (.cells #[.int .i64 ei, .slice ea en ec, .bool er] 83) = W1 := ⟨_, rfl⟩
             have hb1 : Below wr.heap.size wr W1 := by rw [← hW1]; exact below_box _ _
             obtain ⟨g1, c1, B, r1, o1, gr1, w1⟩ := HPU.out W1 hb1
             have HO1 := hid o1
             have R1 := hid r1
             have HB1 := hid (HBG.out W1 B hb1 gr1)
             clear hq r1 o1 gr1 w1 HF HPU HBG HEV hb1
             go_wp2_with (at_builtin; refine wpList_append_run rfl (.tmp 26) (.tmp 28) 39 39 rfl rfl rfl R1.out ?_)
             go_roundw
             case rel => exact ⟨k2 + 1, m + 1, some ⟨g1, 0, none⟩, c1, by omega, by omega, by go_num, rfl, hid (by rw [HF2.out, List.length_append, HLN.out]; rfl), hid (by rw [HF2.out]; exact HO1.out), HB1⟩
             case measure => simp [intOf]; omega)
      · have hge : ¬ (k2 : Int) < n := by omega
        have HT := hid (show xs.take k2 = xs from List.take_of_length_le (by rw [HN.out]; omega))
        have hln := HLN.out
        have ho := HO.out
        rw [HT.out] at hln ho
        have HL2 := hid hln
        have HO2 := hid ho
        clear hln ho
        go_wp2
        go_ret
        exact ⟨⟨_, rfl, by rw [HL2.out]; exact HO2.out⟩, HB.out⟩
end Go.Proofs.YthpebfojkpnojaaGreat

/- keep: a live clause is not redundant any more. -/
namespace Bas
theorem look_keepL (L : List E) (id i : Int) : look (keepL L id) i = (look L i).map (fun e => if e.id = id then { e with red := false } else e) := by
  induction L with
  | nil => rfl
  | cons d L ih =>
    unfold look keepL at *
    rw [List.map_cons, List.find?_cons, List.find?_cons]
    have e1 : (if d.id = id then { d with red := false } else d).id = d.id := by split <;> rfl
    rw [e1]
    cases h : d.id == i
    · exact ih
    · rfl
theorem occ_keepL (L : List E) (id l : Int) : occ (keepL L id) l = occ L l := by
  induction L with
  | nil => rfl
  | cons d L ih =>
    unfold occ keepL at *
    rw [List.map_cons, List.filter_cons, List.filter_cons]
    have e1 : (if d.id = id then { d with red := false } else d).lits = d.lits := by split <;> rfl
    have e2 : (if d.id = id then { d with red := false } else d).id = d.id := by split <;> rfl
    rw [e1]
    split
    · rw [List.map_cons, List.map_cons, e2, ih]
    · exact ih
end Bas
namespace Go.Proofs.YthpebfojkpnojaaGreat
open Go.RowKit Go.Maps
set_option linter.unusedVariables false
set_option linter.unusedSimpArgs false
set_option maxRecDepth 100000
theorem own_keep {W W' : World} {base n size : Nat} {e : TypeId} {v : Value} {xs : List Value} (h : W.ownsRow base e size v n xs) (hk : ∀ g cs, v.ownBlock = some g → W.heap[g]? = some (.cells cs e (0, 0)) → W'.heap[g]? = W.heap[g]?) : W'.ownsRow base e size v n xs := by
  refine ⟨h.1, ?_⟩
  rcases h.2 with h' | ⟨g, cap, cur, rfl, h1, h2, h3⟩
  · exact .inl h'
  · exact .inr ⟨g, cap, cur, rfl, h1, (hk g cur rfl h2).trans h2, h3⟩
theorem OwnM.keep {M : Nat → Prop} {W W' : World} {e : TypeId} {size : Nat} {v : Value} {n : Nat} {xs : List Value} (h : OwnM M W e size v n xs) (hk : ∀ (g : Nat) (cs : Array Value) (t : TypeId), W.heap[g]? = some (.cells cs t (0, 0)) → W'.heap[g]? = W.heap[g]?) : OwnM M W' e size v n xs := ⟨own_keep h.1 (fun g cs _ hg => hk g cs e hg), h.2⟩
theorem RI.keep {q : IntKind} {lo hi : Int} {M : Nat → Prop} {W W' : World} {a : Option Addr} {xs : List Int} (h : RI q lo hi M W a xs) (hs : W.heap.size ≤ W'.heap.size) (hk : ∀ g, g < W.heap.size → ¬ M g → W'.heap[g]? = W.heap[g]?) : RI q lo hi M W' a xs := by
  obtain ⟨⟨h1, h2⟩, h3⟩ := h
  by_cases hx : xs = []
  · exact ⟨⟨h1, .inl hx⟩, h3⟩
  · rcases h2 with h2 | ⟨b, off, e, hl, hc⟩
    · exact absurd h2 hx
    · exact ⟨⟨h1, .inr ⟨b, off, e, Nat.lt_of_lt_of_le hl hs, fun j hj => (World.cell?_of_block (w := W) (a := ⟨b, off + j, none⟩) (hk b hl (h3 b off e hx))).trans (hc j hj)⟩⟩, h3⟩
/-- The map of live clauses turned, and nothing else. -/
theorem Bs.turn {M : Nat → Prop} {bb K : Nat} {s : Bas.S} {W : World} (h : Bs M bb K s W) : ∃ bm k f, W.cell? ⟨bb, 3, none⟩ = some (.map (some bm)) ∧ M bm ∧ Mp W bm k f ∧ k ≤ K ∧ (∀ id, I64 id → EntAt M W (Bas.look s.live id) (f id)) ∧
    ∀ (W' : World) (L' : List Bas.E) (k' K' : Nat) (f' : Int → Option Value), W.heap.size ≤ W'.heap.size → (∀ g, g < W.heap.size → g ≠ bm → W'.heap[g]? = W.heap[g]?) → Mp W' bm k' f' → k' ≤ K' → K ≤ K' → (∀ id, I64 id → EntAt M W' (Bas.look L' id) (f' id)) → (∀ l, Bas.occ L' l = Bas.occ s.live l) → (∀ i, (Bas.look L' i).isSome = (Bas.look s.live i).isSome) → Bs M bb K' { s with live := L' } W' := by
  obtain ⟨hv, bm, br, k, k2, f, g, rv, sv, tv, R, Z, rw', ids, iv, hb, m1, m2, m3, hne, ⟨a1, a2, a3⟩, ⟨b1, b2, b3, b4, b5⟩, ⟨c1, c2, c3⟩, ⟨d1, d2, d3⟩, e1⟩ := h
  have x3 : W.cell? ⟨bb, 3, none⟩ = some (.map (some bm)) := row_cell hb 3
  refine ⟨bm, k, f, x3, m2, a1, a2, a3, fun W' L' k' K' f' hs hk hm hk' hK he ho hl => ?_⟩
  obtain ⟨es, cl, hbm⟩ := a1.obj
  have hc : ∀ (g : Nat) (cs : Array Value) (t : TypeId), W.heap[g]? = some (.cells cs t (0, 0)) → W'.heap[g]? = W.heap[g]? := fun g cs t hg => hk g (lt_of_blk hg) (fun e => by rw [e, hbm] at hg; cases hg)
  have hn : ∀ g, g < W.heap.size → ¬ M g → W'.heap[g]? = W.heap[g]? := fun g hg hnm => hk g hg (fun e => hnm (e ▸ m2))
  refine ⟨hv, bm, br, k', k2, f', g, rv, sv, tv, R, Z, rw', ids, iv, (hc _ _ _ hb).trans hb, m1, m2, m3, hne, ⟨hm, hk', he⟩, ⟨b1.same (hk br b1.lt (fun e => hne e.symm)), Nat.le_trans b2 hK, fun l v hlv => ?_, fun l hl2 => by show Bas.occ L' l = []; rw [ho l]; exact b4 l hl2, b5⟩, ⟨c1.keep hc, c2, fun q hq => ⟨(c3 q hq).1.keep hs hn, (c3 q hq).2.keep hs hn⟩⟩, ⟨d1.keep hc, d2, fun q hq => ⟨(d3 q hq).1.keep hs hn, (d3 q hq).2.keep hs hn⟩⟩, e1.keep hc⟩
  obtain ⟨q1, q2, ⟨go, la, q3, q4⟩, q5, q6, q7⟩ := b3 l v hlv
  refine ⟨q1, q2, ⟨go, la, (hc _ _ _ q3).trans q3, q4⟩, q5.keep hc, ?_, q7⟩
  show (ids l).filter (fun i => (Bas.look L' i).isSome) = Bas.occ L' l
  rw [ho l, ← q6]
  congr 1
  funext i
  exact hl i
theorem EntAt.keep {M : Nat → Prop} {W W' : World} {o : Option Bas.E} {v : Option Value} (h : EntAt M W o v) (hs : W.heap.size ≤ W'.heap.size) (hk : ∀ g, g < W.heap.size → ¬ M g → W'.heap[g]? = W.heap[g]?) : EntAt M W' o v := by
  cases o with
  | none => exact h
  | some e =>
    obtain ⟨a, c, h1, h2, h3⟩ := h
    exact ⟨a, c, h1, h2.keep hs hk, h3⟩
set_option maxHeartbeats 4000000 in
theorem keep35 {M : Nat → Prop} {bb K : Nat} {s : Bas.S} {W : World} (h : Bs M bb K s W) (hK : K < maxLen) (id : Int) (hi : I64 id) (e : Bas.E) (he : Bas.look s.live id = some e) :
    Calls Tryz.prog 77 #[.pointer (some ⟨bb, 0, none⟩), .int .i64 id] W fun en w' => en = .returned (.tuple #[]) ∧ Bs M bb (K + 1) { s with live := Bas.keepL s.live id } w' ∧ Fm M W w' := by
  obtain ⟨bm, k, f, x3, hMb, hMp, hk, hE, hT⟩ := h.turn
  have hid1 : e.id = id := (Bas.look_mem he).2
  obtain ⟨a, c, hfe, hli, hcc⟩ : ∃ a c, f id = some (entV e a c) ∧ LI M W a e.lits ∧ e.lits.length ≤ c ∧ c ≤ maxLen := by
    have := hE id hi
    rw [he] at this
    exact this
  have hlk := hMp.look1 hi
  rw [hfe] at hlk
  simp only [Option.getD_some, entV, hid1] at hlk
  obtain ⟨W2, hW2⟩ : ∃ W2, (W.alloc (.cells #[.int .i64 id, .slice a e.lits.length c, .bool false] 83)).drew = W2 := ⟨_, rfl⟩
  have hb2 : Below W.heap.size W W2 := by rw [← hW2]; exact (below_box _ _).drew
  have hM2 : Mp W2 bm k f := hMp.same (hb2.block bm hMp.lt)
  obtain ⟨W3, hr, hM3, hmt⟩ := hM2.put hi (by omega) (.agg #[.int .i64 id, .slice a e.lits.length c, .bool false])
  have x3' : W2.cell? ⟨bb, 3, none⟩ = some (.map (some bm)) := (hb2.cell (p := ⟨bb, 3, none⟩) (cell_lt x3)).trans x3
  have hs3 : W.heap.size ≤ W3.heap.size := Nat.le_trans hb2.size hmt.grown.size
  have hblk : ∀ g, g < W.heap.size → g ≠ bm → W3.heap[g]? = W.heap[g]? := fun g hg hne => (hmt.grown.block g (Nat.lt_of_lt_of_le hg hb2.size) (fun e1 => hne (by simpa using e1))).trans (hb2.block g hg)
  have hn : ∀ g, g < W.heap.size → ¬ M g → W3.heap[g]? = W.heap[g]? := fun g hg hnm => hblk g hg (fun e1 => hnm (e1 ▸ hMb))
  have OUT := hid (show Bs M bb (K + 1) { s with live := Bas.keepL s.live id } W3 ∧ Fm M W W3 from ⟨hT W3 _ (k + 1) (K + 1) _ hs3 hblk hM3 (by omega) (by omega) (fun i hi2 => by
      rw [Bas.look_keepL]
      have h0 := (hE i hi2).keep hs3 hn
      by_cases hii : i = id
      · subst hii
        rw [he]
        simp only [Option.map_some, hid1, if_true]
        refine ⟨a, c, ?_, hli.keep hs3 hn, hcc⟩
        simp [upd, entV, hid1]
      · have e2 : upd f id (some (.agg #[.int .i64 id, .slice a e.lits.length c, .bool false])) i = f i := by simp [upd, hii]
        rw [e2]
        cases hq : Bas.look s.live i with
        | none => rw [hq] at h0; exact h0
        | some d =>
          rw [hq] at h0
          have hd := (Bas.look_mem hq).2
          simp only [Option.map_some]
          rw [if_neg (by rw [hd]; exact hii)]
          exact h0) (Bas.occ_keepL _ _) (fun i => by rw [Bas.look_keepL]; cases Bas.look s.live i <;> rfl), ⟨hmt.grown.os.trans hb2.os, hmt.grown.tape.trans hb2.tape, hmt.grown.output.trans hb2.output, hs3, hn⟩⟩)
  clear h hT hE hMp hM2 hM3 hmt hfe hli hcc hb2 hs3 hblk hn hMb he
  generalize e.lits.length = el at *
  generalize e.red = er at *
  rw [← hW2] at x3' hr
  clear hid1 hW2
  go_enter Tryz.func77, Tryz.ntmps77
  go_wp2
  go_region
  go_wp2
  refine bodyPost_end (results_none rfl _ _ _) rfl ?_
  exact ⟨rfl, OUT.out⟩
end Go.Proofs.YthpebfojkpnojaaGreat

