/- Keep, Get. -/
import Derived.Test.YthpebfojkpnojaaGreatJag
/- Keep, Get. -/
namespace Go.Proofs.YthpebfojkpnojaaGreat
open Go.RowKit Go.Maps
set_option linter.unusedVariables false
set_option linter.unusedSimpArgs false
set_option maxRecDepth 100000
theorem Bs.more {M : Nat → Prop} {bb K K' : Nat} {s : Bas.S} {W : World} (h : Bs M bb K s W) (hk : K ≤ K') : Bs M bb K' s W := by
  obtain ⟨hv, bm, br, k, k2, f, g, rv, sv, tv, R, Z, rw', ids, iv, hb, m1, m2, m3, hne, ⟨a1, a2, a3⟩, ⟨b1, b2, b3⟩, c⟩ := h
  exact ⟨hv, bm, br, k, k2, f, g, rv, sv, tv, R, Z, rw', ids, iv, hb, m1, m2, m3, hne, ⟨a1, Nat.le_trans a2 hk, a3⟩, ⟨b1, Nat.le_trans b2 hk, b3⟩, c⟩
theorem Bs.below {M : Nat → Prop} {bb K : Nat} {s : Bas.S} {W W' : World} (h : Bs M bb K s W) (hl : Below W.heap.size W W') : Bs M bb K s W' := by
  obtain ⟨hv, bm, br, k, k2, f, g, rv, sv, tv, R, Z, rw', ids, iv, hb, m1, m2, m3, hne, ⟨a1, a2, a3⟩, ⟨b1, b2, b3, b4⟩, ⟨c1, c2, c3⟩, ⟨d1, d2, d3⟩, e1⟩ := h
  have ho : ∀ {e : TypeId} {size : Nat} {v : Value} {n : Nat} {xs : List Value}, OwnM M W e size v n xs → OwnM M W' e size v n xs := fun h => ⟨own_below h.1 hl, h.2⟩
  refine ⟨hv, bm, br, k, k2, f, g, rv, sv, tv, R, Z, rw', ids, iv, (hl.block bb (lt_of_blk hb)).trans hb, m1, m2, m3, hne, ⟨a1.same (hl.block bm a1.lt), a2, fun id hi => (a3 id hi).keep hl.size (fun g hg _ => hl.block g hg)⟩, ⟨b1.same (hl.block br b1.lt), b2, fun l v hlv => ?_, b4⟩, ⟨ho c1, c2, fun q hq => ⟨(c3 q hq).1.below hl, (c3 q hq).2.below hl⟩⟩, ⟨ho d1, d2, fun q hq => ⟨(d3 q hq).1.below hl, (d3 q hq).2.below hl⟩⟩, ho e1⟩
  obtain ⟨q1, q2, ⟨go, la, q3, q4⟩, q5, q6, q7⟩ := b3 l v hlv
  exact ⟨q1, q2, ⟨go, la, (hl.block _ (lt_of_blk q3)).trans q3, q4⟩, ho q5, q6, q7⟩
/-- What a call leaves that turns the base and answers an error. -/
def ErrOut (M : Nat → Prop) (bb K : Nat) (r : Int) (s : Bas.S) (W : World) (en : Ending) (w' : World) : Prop := en = .returned (.int .i64 r) ∧ ∃ M', Bs M' bb K s w' ∧ Fm M W w' ∧ Mn W M M'
set_option maxHeartbeats 4000000 in
theorem keep8 {M : Nat → Prop} {bb K : Nat} {s : Bas.S} {W : World} (h : Bs M bb K s W) (hK : K < maxLen) (hn : s.rules.length ≤ 1000000000) (id : Int) (hi : I64 id) :
    Calls Tryz.prog 22 #[.pointer (some ⟨bb, 0, none⟩), .int .i64 id] W fun en w' => ErrOut M bb (K + 1) (Bas.keepE s id) (Bas.keepS s id) W en w' := by
  have h' := h
  obtain ⟨hv, bm, br, k, k2, f, g, rv, sv, tv, R, Z, rw', ids, iv, hb, m1, m2, m3, hne, ⟨a1, a2, a3⟩, _⟩ := h'
  have x3 : W.cell? ⟨bb, 3, none⟩ = some (.map (some bm)) := row_cell hb 3
  have hlk := a1.look hi
  have hE := a3 id hi
  cases he : Bas.look s.live id with
  | none =>
    rw [he] at hE
    simp only [EntAt] at hE
    rw [hE] at hlk
    simp only [Option.getD_none, Option.isSome_none] at hlk
    have OUT := hid (fun X (hX : Below W.heap.size W X) => show ErrOut M bb (K + 1) (Bas.keepE s id) (Bas.keepS s id) W (.returned (.int .i64 5)) X from by
      have e1 : Bas.keepE s id = 5 := by simp [Bas.keepE, he]
      have e2 : Bas.keepS s id = s := by simp [Bas.keepS, e1]
      rw [e1, e2]
      exact ⟨rfl, M, (h.more (Nat.le_succ _)).below hX, Fm.of_below hX, Mn.refl _ _⟩)
    clear h a1 a3 hb hE he
    go_enter Tryz.func22, Tryz.ntmps22
    go_wp2
    go_ret
    exact OUT.out _ (below_box _ _)
  | some e =>
    rw [he] at hE
    obtain ⟨a9, c9, hf, _⟩ := hE
    rw [hf] at hlk
    simp only [Option.getD_some, Option.isSome_some, entV] at hlk
    have C35 := hid (fun X (hX : Below W.heap.size W X) => keep35 (h.below hX) hK id hi e he)
    have e1 : Bas.keepE s id = 0 := by simp [Bas.keepE, he]
    have C33 := hid (fun (W1 : World) (h1 : Bs M bb (K + 1) { s with live := Bas.keepL s.live id } W1) => note33 h1 ⟨2, id, 0, false, [], []⟩ none 0 none 0 ⟨by show (0 : Int) ≤ 2; decide, by show (2 : Int) < 256; decide⟩ ⟨Row.nil _ _ _ _ _, fun _ _ e => by cases e⟩ ⟨Row.nil _ _ _ _ _, fun _ _ e => by cases e⟩ hn)
    have OUT := hid (fun (W1 w' : World) (hF : Fm M W W1) (ho : NoteOut M bb (K + 1) { s with live := Bas.keepL s.live id, rules := s.rules ++ [⟨2, id, 0, false, [], []⟩] } W1 (.returned (.tuple #[])) w') => show ErrOut M bb (K + 1) (Bas.keepE s id) (Bas.keepS s id) W (.returned (.int .i64 0)) w' from by
      obtain ⟨_, M', o1, o2, o3⟩ := ho
      have e2 : Bas.keepS s id = { s with live := Bas.keepL s.live id, rules := s.rules ++ [⟨2, id, 0, false, [], []⟩] } := by simp [Bas.keepS, e1]
      rw [e1, e2]
      refine ⟨rfl, M', o1, ?_, ?_⟩
      · exact ⟨o2.os.trans hF.os, o2.tape.trans hF.tape, o2.output.trans hF.output, Nat.le_trans hF.size o2.size, fun q hq hnm => (o2.block q (Nat.lt_of_lt_of_le hq hF.size) hnm).trans (hF.block q hq hnm)⟩
      · intro q hq
        rcases o3 q hq with h9 | h9
        · exact .inl h9
        · exact .inr (Nat.le_trans hF.size h9))
    clear h a1 a3 hb he e1 hf hn hK
    generalize e.lits.length = el at *
    generalize e.red = er at *
    generalize e.id = ei at *
    go_enter Tryz.func22, Tryz.ntmps22
    go_wp2_with (first | (go_at_call 77; go_loud (refine (C35.out _ (below_box _ _)).mono ?_; clear C35; rintro e w4 ⟨rfl, hB4, hF4⟩; have HB4 := hid hB4; have HF4 := hid (show Fm M W w4 from (Fm.of_below (below_box _ _)).trans hF4 (Mn.refl _ _)); clear hB4 hF4)) | (go_at_call 69; go_loud ( refine (C33.out _ HB4.out).mono ?_; clear C33; rintro e w5 ho; have hen := ho.1; subst hen; have HO5 := hid (OUT.out _ _ HF4.out ho); clear ho)))
    go_ret
    exact HO5.out
end Go.Proofs.YthpebfojkpnojaaGreat

/- Get. -/
namespace Go.Proofs.YthpebfojkpnojaaGreat
open Go.RowKit Go.Maps
set_option linter.unusedVariables false
set_option linter.unusedSimpArgs false
set_option maxRecDepth 100000
def GetOut (W : World) (d : Bas.E) (b : Bool) (en : Ending) (w' : World) : Prop := ∃ o k, en = .returned (.tuple #[.agg #[.int .i64 d.id, .slice o d.lits.length k, .bool d.red], .bool b]) ∧ w'.ownsRow W.heap.size 66 1 (.slice o d.lits.length k) d.lits.length (d.lits.map (Value.int .i32)) ∧ Below W.heap.size W w'
set_option maxHeartbeats 4000000 in
theorem get6 {M : Nat → Prop} {bb K : Nat} {s : Bas.S} {W : World} (h : Bs M bb K s W) (id : Int) (hi : I64 id) (hn : ∀ e, Bas.look s.live id = some e → e.lits.length ≤ 16777216) :
    Calls Tryz.prog 52 #[.pointer (some ⟨bb, 0, none⟩), .int .i64 id] W fun en w' => GetOut W ((Bas.look s.live id).getD ⟨0, [], false⟩) (Bas.look s.live id).isSome en w' := by
  obtain ⟨hv, bm, br, k, k2, f, g, rv, sv, tv, R, Z, rw', ids, iv, hb, m1, m2, m3, hne, ⟨a1, a2, a3⟩, _⟩ := h
  have x3 : W.cell? ⟨bb, 3, none⟩ = some (.map (some bm)) := row_cell hb 3
  have hlk := (a1.same ((below_box W (.cells #[.int .i64 0, .slice none 0 0, .bool false] 83)).block bm a1.lt)).look hi
  have hb2 : Below W.heap.size W ((W.alloc (.cells #[.int .i64 0, .slice none 0 0, .bool false] 83)).alloc (.cells #[.int .i64 0, .slice none 0 0, .bool false] 83)) := box_below _ _ (below_box _ _)
  have hlk2 := (a1.same (hb2.block bm a1.lt)).look hi
  have x3a := ((below_box W (.cells #[.int .i64 0, .slice none 0 0, .bool false] 83)).cell (p := ⟨bb, 3, none⟩) (cell_lt x3)).trans x3
  have x3b := (hb2.cell (p := ⟨bb, 3, none⟩) (cell_lt x3)).trans x3
  clear hb2
  have hE := a3 id hi
  obtain ⟨d, hd⟩ : ∃ d, (Bas.look s.live id).getD ⟨0, [], false⟩ = d := ⟨_, rfl⟩
  obtain ⟨b, hbb⟩ : ∃ b, (Bas.look s.live id).isSome = b := ⟨_, rfl⟩
  have hn' : d.lits.length ≤ 16777216 := by
    rw [← hd]
    cases he : Bas.look s.live id with
    | none => simp
    | some e => exact hn e he
  obtain ⟨a, c, hv, hrow⟩ : ∃ a c, (f id).getD (.agg #[.int .i64 0, .slice none 0 0, .bool false]) = .agg #[.int .i64 d.id, .slice a d.lits.length c, .bool d.red] ∧ Lits W a d.lits := by
    rw [← hd]
    cases he : Bas.look s.live id with
    | none => rw [he] at hE; simp only [EntAt] at hE; rw [hE]; exact ⟨none, 0, rfl, Row.nil _ _ _ _ _⟩
    | some e => rw [he] at hE; obtain ⟨a9, c9, hf, hr, _⟩ := hE; rw [hf]; exact ⟨a9, c9, rfl, hr.1⟩
  have hfb : (f id).isSome = b := by
    rw [← hbb]
    cases he : Bas.look s.live id with
    | none => rw [he] at hE; simp only [EntAt] at hE; rw [hE]; rfl
    | some e => rw [he] at hE; obtain ⟨a9, c9, hf, hr, _⟩ := hE; rw [hf]; rfl
  rw [hv, hfb] at hlk hlk2
  rw [hd, hbb]
  have C31 := hid (fun X (hX : Below W.heap.size W X) => clone31 a d.lits.length c d.lits X rfl hn' (hrow.below hX))

  have POST := hid (fun (w4 : World) (hb4 : Below ((W.alloc (.cells #[.int .i64 0, .slice none 0 0, .bool false] 83)).alloc (.cells #[.int .i64 d.id, .slice a d.lits.length c, .bool d.red] 83)).heap.size ((W.alloc (.cells #[.int .i64 0, .slice none 0 0, .bool false] 83)).alloc (.cells #[.int .i64 d.id, .slice a d.lits.length c, .bool d.red] 83)) w4) => show w4.heap[W.heap.size + 1]? = some (.cells #[.int .i64 d.id, .slice a d.lits.length c, .bool d.red] 83 (0, 0)) ∧ w4.heap[W.heap.size]? = some (.cells #[.int .i64 0, .slice none 0 0, .bool false] 83 (0, 0)) ∧ Below W.heap.size W w4 from by
    refine ⟨(hb4.block (W.heap.size + 1) (by simp)).trans ?_, (hb4.block W.heap.size (by simp; omega)).trans (((below_box (W.alloc (.cells #[.int .i64 0, .slice none 0 0, .bool false] 83)) (.cells #[.int .i64 d.id, .slice a d.lits.length c, .bool d.red] 83)).block W.heap.size (by simp)).trans (heap_alloc_new W _)), box_below _ _ (box_below _ _ hb4)⟩
    have := heap_alloc_new (W.alloc (.cells #[.int .i64 0, .slice none 0 0, .bool false] 83)) (.cells #[.int .i64 d.id, .slice a d.lits.length c, .bool d.red] 83)
    simpa using this)
  have CX := hid (C31.out ((W.alloc (.cells #[.int .i64 0, .slice none 0 0, .bool false] 83)).alloc (.cells #[.int .i64 d.id, .slice a d.lits.length c, .bool d.red] 83)) (box_below _ _ (below_box _ _)))
  clear C31
  clear a1 a3 hb hn hn' hE hd hbb hv hfb hrow
  go_enter Tryz.func52, Tryz.ntmps52
  go_wp2_with (go_at_call 35; go_loud (refine CX.out.mono ?_; clear CX; rintro e w4 ⟨o, k4, rfl, ho, hb4⟩; obtain ⟨G1, G0, B0⟩ := POST.out w4 hb4; have HO := hid ho; have HB := hid B0; have HG1 := hid G1; have HG0 := hid G0; have g10 : w4.cell? ⟨W.heap.size + 1, 0, none⟩ = some (.int .i64 d.id) := row_cell G1 0; have f10 := row_frozen G1 0; have g11 : w4.cell? ⟨W.heap.size + 1, 1, none⟩ = some (.slice a d.lits.length c) := row_cell G1 1; have f11 := row_frozen G1 1; have g12 : w4.cell? ⟨W.heap.size + 1, 2, none⟩ = some (.bool d.red) := row_cell G1 2; have f12 := row_frozen G1 2; have g00 : w4.cell? ⟨W.heap.size, 0, none⟩ = some (.int .i64 0) := row_cell G0 0; have f00 := row_frozen G0 0; have g01 : w4.cell? ⟨W.heap.size, 1, none⟩ = some (.slice none 0 0) := row_cell G0 1; have f01 := row_frozen G0 1; have g02 : w4.cell? ⟨W.heap.size, 2, none⟩ = some (.bool false) := row_cell G0 2; have f02 := row_frozen G0 2; clear ho hb4 G0 G1 B0 POST))
  have hz : ((W.alloc (.cells #[.int .i64 0, .slice none 0 0, .bool false] 83)).alloc (.cells #[.int .i64 d.id, .slice a d.lits.length c, .bool d.red] 83)).heap.size = W.heap.size + 2 := by simp
  have ho := HO.out
  rw [hz] at ho
  refine bodyPost_ret (results_row_tmp rfl _ _ W.heap.size 83 #[.int .i64 d.id, .slice o d.lits.length k4, .bool d.red] (0, 0) _ rfl ?_ Tryz.underlying83 rfl (by kernel_rfl)) rfl ?_
  · exact heap_set_row (heap_set_row (heap_set_row ((heap_other w4 _ (by omega)).trans HG0.out) _) _) _
  · refine ⟨o, k4, rfl, own_base (own_set (own_set (own_set (own_set ho (by omega) _) (by omega) _) (by omega) _) (by omega) _) (by omega), ?_⟩
    exact (((HB.out.setCell (by simp) _).setCell (by simp) _).setCell (by simp) _).setCell (by simp) _
end Go.Proofs.YthpebfojkpnojaaGreat

/- What leaving and entering do, plainly; and the map of live clauses turned by a delete. -/
namespace Bas
theorem look_delL (L : List E) (id i : Int) : look (delL L id) i = if i = id then none else look L i := by
  induction L with
  | nil => simp [look, delL]
  | cons d L ih =>
    unfold look delL at *
    rw [List.filter_cons]
    by_cases h1 : d.id = id
    · rw [if_neg (by simp [h1]), ih, List.find?_cons]
      by_cases h2 : i = id
      · rw [if_pos h2, if_pos h2]
      · rw [if_neg h2, if_neg h2]
        have : (d.id == i) = false := by simp [h1]; exact fun e => h2 e.symm
        rw [this]
    · rw [if_pos (by simp [h1]), List.find?_cons, List.find?_cons, ih]
      cases h3 : d.id == i
      · rfl
      · have h4 : d.id = i := by simpa using h3
        have h5 : ¬ i = id := fun e => h1 (h4.trans e)
        rw [if_neg h5, if_neg h5]
theorem occ_delL (L : List E) (id l : Int) : occ (delL L id) l = (occ L l).filter (fun i => i != id) := by
  unfold occ delL
  rw [List.filter_map, List.filter_filter, List.filter_filter]
  congr 1
  apply List.filter_congr
  intro e _
  simp only [Function.comp]
  rw [Bool.and_comm]
theorem rest_delL {L : List E} {ids : List Int} {l : Int} (id : Int) (h : ids.filter (fun i => (look L i).isSome) = occ L l) : ids.filter (fun i => (look (delL L id) i).isSome) = occ (delL L id) l := by
  rw [occ_delL, ← h, List.filter_filter]
  apply List.filter_congr
  intro i _
  rw [look_delL]
  by_cases h1 : i = id
  · simp [h1]
  · simp [h1]
theorem look_new (L : List E) (e : E) (i : Int) : look (L ++ [e]) i = (look L i).or (if e.id = i then some e else none) := by
  unfold look
  rw [List.find?_append, List.find?_cons]
  congr 1
  by_cases h : e.id = i
  · simp [h]
  · have : (e.id == i) = false := by simpa using h
    rw [this, if_neg h]; rfl
theorem occ_new (L : List E) (e : E) (l : Int) : occ (L ++ [e]) l = occ L l ++ if e.lits.contains l then [e.id] else [] := by
  unfold occ
  rw [List.filter_append, List.map_append, List.filter_cons]
  congr 1
  split <;> rfl
end Bas
namespace Go.Proofs.YthpebfojkpnojaaGreat
open Go.RowKit Go.Maps
set_option linter.unusedVariables false
set_option linter.unusedSimpArgs false
set_option maxRecDepth 100000
/-- The map of live clauses turned, and nothing else: as Bs.turn, where the ids may turn too. -/
theorem Bs.turn2 {M : Nat → Prop} {bb K : Nat} {s : Bas.S} {W : World} (h : Bs M bb K s W) : ∃ bm k f, W.cell? ⟨bb, 3, none⟩ = some (.map (some bm)) ∧ M bm ∧ Mp W bm k f ∧ k ≤ K ∧ (∀ id, I64 id → EntAt M W (Bas.look s.live id) (f id)) ∧
    ∀ (W' : World) (L' : List Bas.E) (k' K' : Nat) (f' : Int → Option Value), W.heap.size ≤ W'.heap.size → (∀ g, g < W.heap.size → g ≠ bm → W'.heap[g]? = W.heap[g]?) → Mp W' bm k' f' → k' ≤ K' → K ≤ K' → (∀ id, I64 id → EntAt M W' (Bas.look L' id) (f' id)) → (∀ l, Bas.occ s.live l = [] → Bas.occ L' l = []) → (∀ (ids : List Int) l, ids.filter (fun i => (Bas.look s.live i).isSome) = Bas.occ s.live l → ids.filter (fun i => (Bas.look L' i).isSome) = Bas.occ L' l) → Bs M bb K' { s with live := L' } W' := by
  obtain ⟨hv, bm, br, k, k2, f, g, rv, sv, tv, R, Z, rw', ids, iv, hb, m1, m2, m3, hne, ⟨a1, a2, a3⟩, ⟨b1, b2, b3, b4, b5⟩, ⟨c1, c2, c3⟩, ⟨d1, d2, d3⟩, e1⟩ := h
  have x3 : W.cell? ⟨bb, 3, none⟩ = some (.map (some bm)) := row_cell hb 3
  refine ⟨bm, k, f, x3, m2, a1, a2, a3, fun W' L' k' K' f' hs hk hm hk' hK he ho hl => ?_⟩
  obtain ⟨es, cl, hbm⟩ := a1.obj
  have hc : ∀ (g : Nat) (cs : Array Value) (t : TypeId), W.heap[g]? = some (.cells cs t (0, 0)) → W'.heap[g]? = W.heap[g]? := fun g cs t hg => hk g (lt_of_blk hg) (fun e => by rw [e, hbm] at hg; cases hg)
  have hn : ∀ g, g < W.heap.size → ¬ M g → W'.heap[g]? = W.heap[g]? := fun g hg hnm => hk g hg (fun e => hnm (e ▸ m2))
  refine ⟨hv, bm, br, k', k2, f', g, rv, sv, tv, R, Z, rw', ids, iv, (hc _ _ _ hb).trans hb, m1, m2, m3, hne, ⟨hm, hk', he⟩, ⟨b1.same (hk br b1.lt (fun e => hne e.symm)), Nat.le_trans b2 hK, fun l v hlv => ?_, fun l hl2 => ho l (b4 l hl2), b5⟩, ⟨c1.keep hc, c2, fun q hq => ⟨(c3 q hq).1.keep hs hn, (c3 q hq).2.keep hs hn⟩⟩, ⟨d1.keep hc, d2, fun q hq => ⟨(d3 q hq).1.keep hs hn, (d3 q hq).2.keep hs hn⟩⟩, e1.keep hc⟩
  obtain ⟨q1, q2, ⟨go, la, q3, q4⟩, q5, q6, q7⟩ := b3 l v hlv
  exact ⟨q1, q2, ⟨go, la, (hc _ _ _ q3).trans q3, q4⟩, q5.keep hc, hl _ _ q6, q7⟩
/-- The delete of a clause that leaves. -/
theorem Bs.gone {M : Nat → Prop} {bb K : Nat} {s : Bas.S} {W : World} (h : Bs M bb K s W) (id : Int) : ∃ bm k f, W.cell? ⟨bb, 3, none⟩ = some (.map (some bm)) ∧ M bm ∧ Mp W bm k f ∧
    ∀ (W' : World) (k' : Nat), W.heap.size ≤ W'.heap.size → (∀ g, g < W.heap.size → g ≠ bm → W'.heap[g]? = W.heap[g]?) → Mp W' bm k' (upd f id none) → k' ≤ k → Bs M bb K { s with live := Bas.delL s.live id } W' := by
  obtain ⟨bm, k, f, x3, m2, a1, a2, a3, hT⟩ := h.turn2
  refine ⟨bm, k, f, x3, m2, a1, fun W' k' hs hk hm hk' => hT W' _ k' K _ hs hk hm (Nat.le_trans hk' a2) (Nat.le_refl _) (fun i hi => ?_) (fun l hl => by rw [Bas.occ_delL, hl]; rfl) (fun ids l hl => Bas.rest_delL id hl)⟩
  have hn : ∀ g, g < W.heap.size → ¬ M g → W'.heap[g]? = W.heap[g]? := fun g hg hnm => hk g hg (fun e => hnm (e ▸ m2))
  have h0 := (a3 i hi).keep hs hn
  rw [Bas.look_delL]
  by_cases h1 : i = id
  · rw [if_pos h1, h1]; simp [EntAt, upd]
  · rw [if_neg h1, show upd f id none i = f i by simp [upd, h1]]; exact h0
end Go.Proofs.YthpebfojkpnojaaGreat

/- A literal's row, marked: how many of its ids went, and which one last. -/
namespace Go.Proofs.YthpebfojkpnojaaGreat
open Go.RowKit Go.Maps
set_option linter.unusedVariables false
set_option linter.unusedSimpArgs false
set_option maxRecDepth 100000
/-- Two marks of a row turned, and nothing else. -/
theorem Bs.mark {M : Nat → Prop} {bb K : Nat} {s : Bas.S} {W : World} (h : Bs M bb K s W) (l : Int) : ∃ br k2 g, W.cell? ⟨bb, 4, none⟩ = some (.map (some br)) ∧ M br ∧ Mr W br k2 g ∧ (g l = none ∨ ∃ rb o c go la, ∃ ids : List Int, g l = some (.pointer (some ⟨rb, 0, none⟩)) ∧ M rb ∧ W.heap[rb]? = some (.cells #[.slice o ids.length c, .int .i64 go, .int .i64 la] 88 (0, 0)) ∧ Hid (I64 go ∧ I64 la) ∧ W.ownsRow 0 2 1 (.slice o ids.length c) ids.length (ids.map (Value.int .i64)) ∧ (ids.Pairwise (· < ·) ∧ ∀ i ∈ ids, 0 < i ∧ i ≤ s.last) ∧
      ∀ (W' : World) (go' la' : Int), I64 go' → I64 la' → W.heap.size ≤ W'.heap.size → (∀ q, q < W.heap.size → q ≠ rb → W'.heap[q]? = W.heap[q]?) → W'.heap[rb]? = some (.cells #[.slice o ids.length c, .int .i64 go', .int .i64 la'] 88 (0, 0)) → Bs M bb K s W') := by
  obtain ⟨hv, bm, br, k, k2, f, g, rv, sv, tv, R, Z, rw', ids, iv, hb, m1, m2, m3, hne, ⟨a1, a2, a3⟩, ⟨b1, b2, b3, b4, b5⟩, ⟨c1, c2, c3⟩, ⟨d1, d2, d3⟩, e1⟩ := h
  refine ⟨br, k2, g, row_cell hb 4, m3, b1, ?_⟩
  cases hg : g l with
  | none => exact .inl rfl
  | some v =>
    right
    obtain ⟨rfl, q2, ⟨go, la, q3, q4⟩, q5, q6, q7⟩ := b3 l v hg
    obtain ⟨o, c, hiv⟩ := own_slc q5.1
    refine ⟨rw' l, o, c, go, la, ids l, rfl, q2, by rw [← hiv]; exact q3, hid q4, by rw [← hiv]; exact q5.1, q7, fun W' go' la' hgo hla hs hk hrb => ?_⟩
    have hc : ∀ (q : Nat) (cs : Array Value) (t : TypeId), t ≠ 88 → W.heap[q]? = some (.cells cs t (0, 0)) → W'.heap[q]? = W.heap[q]? := fun q cs t ht hq => hk q (lt_of_blk hq) (fun e => by
      rw [e, q3] at hq
      injection hq with hq; injection hq with _ hq _; exact ht hq.symm)
    have hmap : ∀ (q : Nat) es cl, W.heap[q]? = some (.map es cl) → W'.heap[q]? = W.heap[q]? := fun q es cl hq => hk q (lt_of_blk hq) (fun e => by rw [e, q3] at hq; cases hq)
    have hn : ∀ q, q < W.heap.size → ¬ M q → W'.heap[q]? = W.heap[q]? := fun q hq hnm => hk q hq (fun e => hnm (e ▸ q2))
    have ok : ∀ {e size : Nat} {v : Value} {n : Nat} {xs : List Value}, e ≠ 88 → OwnM M W e size v n xs → OwnM M W' e size v n xs := fun n1 ho => ⟨own_keep ho.1 (fun q cs _ hq => hc q cs _ n1 hq), ho.2⟩
    obtain ⟨es1, cl1, hm1⟩ := a1.obj
    obtain ⟨es2, cl2, hm2⟩ := b1.obj
    refine ⟨hv, bm, br, k, k2, f, g, rv, sv, tv, R, Z, rw', ids, iv, (hc _ _ _ (by decide) hb).trans hb, m1, m2, m3, hne, ⟨a1.same (hmap _ _ _ hm1), a2, fun id hi => (a3 id hi).keep hs hn⟩, ⟨b1.same (hmap _ _ _ hm2), b2, fun l' v' hlv => ?_, b4, b5⟩, ⟨ok (by decide) c1, c2, fun q hq => ⟨(c3 q hq).1.keep hs hn, (c3 q hq).2.keep hs hn⟩⟩, ⟨ok (by decide) d1, d2, fun q hq => ⟨(d3 q hq).1.keep hs hn, (d3 q hq).2.keep hs hn⟩⟩, ok (by decide) e1⟩
    obtain ⟨p1, p2, ⟨go2, la2, p3, p4⟩, p5, p6, p7⟩ := b3 l' v' hlv
    by_cases hll : l' = l
    · subst hll
      exact ⟨p1, p2, ⟨go', la', by rw [hrb, hiv], hgo, hla⟩, ok (by decide) p5, p6, p7⟩
    · exact ⟨p1, p2, ⟨go2, la2, (hk _ (lt_of_blk p3) (b5 l' l v' _ hlv hg hll).1).trans p3, p4⟩, ok (by decide) p5, p6, p7⟩
end Go.Proofs.YthpebfojkpnojaaGreat

