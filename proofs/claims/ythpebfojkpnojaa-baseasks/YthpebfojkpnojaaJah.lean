/- A clause and a row of hints in memory of their own: slices.Clone. -/
import Derived.Test.YthpebfojkpnojaaJaf
/- A clause and a row of hints in memory of their own: slices.Clone. -/
namespace Go.Proofs.Ythpebfojkpnojaa
open Go.RowKit
set_option linter.unusedVariables false
theorem info45 : (Try.prog.info? 45).map (fun i => (i.zero, i.size, i.bytes)) = some (some (.int .i32 0), 1, 4) := by kernel_rfl
theorem one_ints (k : IntKind) (l : List Int) : ∀ u ∈ l.map (Value.int k), u.oneCell' = true := by
  intro u hu
  obtain ⟨x, _, rfl⟩ := List.mem_map.1 hu
  rfl
def ClOut (w : World) (xs : List Int) (n : Nat) (e : Ending) (w' : World) : Prop :=
  ∃ o k, e = .returned (.slice o n k) ∧ w'.ownsRow w.heap.size 45 1 (.slice o n k) n (xs.map (Value.int .i32)) ∧ Below w.heap.size w w'
set_option maxRecDepth 100000 in
set_option maxHeartbeats 2000000 in
theorem clone31 (a : Option Addr) (n c : Nat) (xs : List Int) (w : World) (hn : xs.length = n) (hb : n ≤ 16777216) (hx : Lits w a xs) :
    Calls Try.prog 31 #[.slice a n c] w fun e w' => ClOut w xs n e w' := by
  cases a with
  | none =>
    have hx0 : xs = [] := by
      rcases hx.2 with h | ⟨b, off, e, _⟩
      · exact h
      · cases e
    subst hx0
    obtain rfl : n = 0 := by simpa using hn.symm
    have HF : Hid (ClOut w [] 0 (.returned (.slice none 0 0)) w) := ⟨none, 0, rfl, World.ownsRow_nil _ _ _ _, Below.refl _ _⟩
    clear hx hn
    have hnil : ∀ W, (binOp .eql 23 (.slice none 0 c) (.slice none 0 0)).run Try.prog W = .ok (.bool true) W := fun W => by kernel_rfl
    go_enter Try.func31, Try.ntmps31
    go_wp2
    go_ret
    exact HF.out
  | some ad =>
    obtain ⟨i0, hi, hz⟩ := Option.map_eq_some_iff.1 info45
    simp only [Prod.mk.injEq] at hz
    have hB1 := below_box w (.cells #[] 45)
    have hx1 : (w.alloc (.cells #[] 45)).heap[w.heap.size]? = some (.cells #[] 45 (0, 0)) := heap_alloc_new _ _
    have hl1 := hx.below hB1
    have hs1 : w.heap.size ≤ (w.alloc (.cells #[] 45)).heap.size := by simp
    generalize hW1 : w.alloc (.cells #[] 45) = W1 at hB1 hx1 hl1 hs1
    have ho1 : W1.ownsRow w.heap.size 45 1 (.slice (some ⟨w.heap.size, 0, none⟩) 0 0) 0 [] := ⟨rfl, .inr ⟨w.heap.size, 0, #[], rfl, Nat.le_refl _, hx1, Nat.le_refl _, Nat.zero_le _, rfl, rfl⟩⟩
    obtain ⟨v2, B, hr, ho2, hgb, _, _⟩ := run_append_own_at (P := Try.prog) W1 w.heap.size 23 23 45 i0 _ 1 4 Try.underlying23 hi hz.1 hz.2.1 hz.2.2 rfl (by decide) (.slice (some ⟨w.heap.size, 0, none⟩) 0 0) 0 [] ho1 ad n c (xs.map (Value.int .i32)) (by simp [hn]) (fun j u hu => by
      rw [List.getElem?_map] at hu
      obtain ⟨x, hx', rfl⟩ := Option.map_eq_some_iff.1 hu
      have hj : j < xs.length := by
        rcases Nat.lt_or_ge j xs.length with h' | h'
        · exact h'
        · rw [List.getElem?_eq_none h'] at hx'; cases hx'
      obtain ⟨b, off, e, _, hc, _, _⟩ := Row.at hl1 hj
      cases e
      rw [show (⟨b, off, none⟩ : Addr).add j = ⟨b, off + j, none⟩ by simp [Addr.add], hc]
      simp [List.getD, hx']) (one_ints _ _) (by simp [maxLen]; omega) (by omega) (by omega)
    obtain ⟨o, k, rfl⟩ := own_slc ho2
    rw [Nat.zero_add] at hr ho2
    rw [List.nil_append] at ho2
    have HR := hid hr
    have HF : Hid (ClOut w xs n (.returned (.slice o n k)) B) := ⟨o, k, rfl, ho2, by
      refine hB1.trans ?_
      exact ⟨hgb.os, hgb.tape, hgb.output, hgb.size, fun q hq => hgb.block q (by omega) (by show some q ≠ some w.heap.size; intro e; injection e with e; omega)⟩⟩
    clear hi hz hB1 hx1 hl1 hs1 ho1 hr ho2 hgb hx hn
    have hnil : ∀ W, (binOp .eql 23 (.slice (some ad) n c) (.slice none 0 0)).run Try.prog W = .ok (.bool false) W := fun W => by kernel_rfl
    go_enter Try.func31, Try.ntmps31
    go_wp2_with (at_builtin; refine wpList_append_run rfl (.tmp 5) (.tmp 6) 23 23 rfl rfl rfl HR.out ?_)
    go_ret
    exact HF.out
def HnOut (w : World) (xs : List Int) (n : Nat) (e : Ending) (w' : World) : Prop :=
  ∃ o k, e = .returned (.slice o n k) ∧ w'.ownsRow w.heap.size 2 1 (.slice o n k) n (xs.map (Value.int .i64)) ∧ Below w.heap.size w w'
set_option maxRecDepth 100000 in
set_option maxHeartbeats 2000000 in
theorem clone34 (a : Option Addr) (n c : Nat) (xs : List Int) (w : World) (hn : xs.length = n) (hb : n ≤ 16777216) (hx : Hnts w a xs) :
    Calls Try.prog 34 #[.slice a n c] w fun e w' => HnOut w xs n e w' := by
  cases a with
  | none =>
    have hx0 : xs = [] := by
      rcases hx.2 with h | ⟨b, off, e, _⟩
      · exact h
      · cases e
    subst hx0
    obtain rfl : n = 0 := by simpa using hn.symm
    have HF : Hid (HnOut w [] 0 (.returned (.slice none 0 0)) w) := ⟨none, 0, rfl, World.ownsRow_nil _ _ _ _, Below.refl _ _⟩
    clear hx hn
    have hnil : ∀ W, (binOp .eql 24 (.slice none 0 c) (.slice none 0 0)).run Try.prog W = .ok (.bool true) W := fun W => by kernel_rfl
    go_enter Try.func34, Try.ntmps34
    go_wp2
    go_ret
    exact HF.out
  | some ad =>
    obtain ⟨i0, hi, hz⟩ := Option.map_eq_some_iff.1 info2
    simp only [Prod.mk.injEq] at hz
    have hB1 := below_box w (.cells #[] 2)
    have hx1 : (w.alloc (.cells #[] 2)).heap[w.heap.size]? = some (.cells #[] 2 (0, 0)) := heap_alloc_new _ _
    have hl1 := hx.below hB1
    have hs1 : w.heap.size ≤ (w.alloc (.cells #[] 2)).heap.size := by simp
    generalize hW1 : w.alloc (.cells #[] 2) = W1 at hB1 hx1 hl1 hs1
    have ho1 : W1.ownsRow w.heap.size 2 1 (.slice (some ⟨w.heap.size, 0, none⟩) 0 0) 0 [] := ⟨rfl, .inr ⟨w.heap.size, 0, #[], rfl, Nat.le_refl _, hx1, Nat.le_refl _, Nat.zero_le _, rfl, rfl⟩⟩
    obtain ⟨v2, B, hr, ho2, hgb, _, _⟩ := run_append_own_at (P := Try.prog) W1 w.heap.size 24 24 2 i0 _ 1 8 Try.underlying24 hi hz.1 hz.2.1 hz.2.2 rfl (by decide) (.slice (some ⟨w.heap.size, 0, none⟩) 0 0) 0 [] ho1 ad n c (xs.map (Value.int .i64)) (by simp [hn]) (fun j u hu => by
      rw [List.getElem?_map] at hu
      obtain ⟨x, hx', rfl⟩ := Option.map_eq_some_iff.1 hu
      have hj : j < xs.length := by
        rcases Nat.lt_or_ge j xs.length with h' | h'
        · exact h'
        · rw [List.getElem?_eq_none h'] at hx'; cases hx'
      obtain ⟨b, off, e, _, hc, _, _⟩ := Row.at hl1 hj
      cases e
      rw [show (⟨b, off, none⟩ : Addr).add j = ⟨b, off + j, none⟩ by simp [Addr.add], hc]
      simp [List.getD, hx']) (one_ints _ _) (by simp [maxLen]; omega) (by omega) (by omega)
    obtain ⟨o, k, rfl⟩ := own_slc ho2
    rw [Nat.zero_add] at hr ho2
    rw [List.nil_append] at ho2
    have HR := hid hr
    have HF : Hid (HnOut w xs n (.returned (.slice o n k)) B) := ⟨o, k, rfl, ho2, by
      refine hB1.trans ?_
      exact ⟨hgb.os, hgb.tape, hgb.output, hgb.size, fun q hq => hgb.block q (by omega) (by show some q ≠ some w.heap.size; intro e; injection e with e; omega)⟩⟩
    clear hi hz hB1 hx1 hl1 hs1 ho1 hr ho2 hgb hx hn
    have hnil : ∀ W, (binOp .eql 24 (.slice (some ad) n c) (.slice none 0 0)).run Try.prog W = .ok (.bool false) W := fun W => by kernel_rfl
    go_enter Try.func34, Try.ntmps34
    go_wp2_with (at_builtin; refine wpList_append_run rfl (.tmp 5) (.tmp 6) 24 24 rfl rfl rfl HR.out ?_)
    go_ret
    exact HF.out
end Go.Proofs.Ythpebfojkpnojaa

/- Occurs, Keep: the calls that stand on alive, keep and note. -/
namespace Go.Proofs.Ythpebfojkpnojaa
open Go.RowKit Go.Maps
set_option linter.unusedVariables false
set_option linter.unusedSimpArgs false
set_option maxRecDepth 100000
theorem sorted_len : ∀ (ids : List Int) (lo hi : Int), ids.Pairwise (· < ·) → (∀ i ∈ ids, lo < i ∧ i ≤ hi) → lo ≤ hi → (ids.length : Int) ≤ hi - lo := by
  intro ids
  induction ids with
  | nil => intro lo hi _ _ h; simp; omega
  | cons x t ih =>
    intro lo hi hp hb _
    rw [List.pairwise_cons] at hp
    have h1 := hb x (List.mem_cons_self ..)
    have := ih x hi hp.2 (fun i hi' => ⟨hp.1 i hi', (hb i (List.mem_cons_of_mem _ hi')).2⟩) h1.2
    simp only [List.length_cons]
    omega
theorem own_row {W : World} {base n c e : Nat} {o : Option Addr} {k : IntKind} {lo hi : Int} {xs : List Int} (h : W.ownsRow base e 1 (.slice o n c) n (xs.map (Value.int k))) (hb : ∀ x ∈ xs, lo ≤ x ∧ x ≤ hi) : Row k lo hi W o xs := by
  refine ⟨hb, ?_⟩
  have hl : xs.length = n := by have := h.1; simpa using this
  rcases h.2 with ⟨_, h0⟩ | ⟨g, c', cur, e1, _, h2, _, _, h5, h6⟩
  · left; exact List.eq_nil_of_length_eq_zero (by omega)
  · right
    injection e1 with e1 _ _
    refine ⟨g, 0, e1, lt_of_blk h2, fun j hj => ?_⟩
    rw [Nat.zero_add, row_cell h2]
    have h7 : (cur.toList.take (n * 1))[j]? = (xs.map (Value.int k))[j]? := by rw [h6]
    rw [List.getElem?_take, if_pos (by omega), List.getElem?_map, List.getElem?_eq_getElem hj] at h7
    rw [← Array.getElem?_toList, h7]
    simp [List.getD, hj]
set_option maxHeartbeats 4000000 in
theorem occurs15 {M : Nat → Prop} {bb K : Nat} {s : Bas.S} {W : World} (h : Bs M bb K s W) (hL : s.last ≤ 100000000) (l : Int) (hl : I32 l) :
    Calls Try.prog 15 #[.pointer (some ⟨bb, 0, none⟩), .int .i32 l] W fun e w' => IntsOut W.heap.size (Bas.occ s.live l) e w' ∧ Below W.heap.size W w' := by
  obtain ⟨hv, bm, br, k, k2, f, g, rv, sv, tv, R, Z, rw', ids, iv, hb, m1, m2, m3, hne, ⟨a1, a2, a3⟩, ⟨b1, b2, b3, b4, b5⟩, _⟩ := h
  have x3 : W.cell? ⟨bb, 3, none⟩ = some (.map (some bm)) := row_cell hb 3
  have x4 : W.cell? ⟨bb, 4, none⟩ = some (.map (some br)) := row_cell hb 4
  have hlk := b1.look hl
  cases hg : g l with
  | none =>
    have HO := hid (b4 l hg)
    rw [hg] at hlk
    simp only [Option.getD_none, Option.isSome_none] at hlk
    clear b3 b4 b5 a3 hg a1 b1 x3 hb
    go_enter Try.func15, Try.ntmps15
    go_wp2
    go_ret
    exact ⟨⟨_, rfl, by rw [HO.out]; exact World.ownsRow_nil _ _ _ _⟩, Below.refl _ _⟩
  | some v =>
    obtain ⟨rfl, _, ⟨go, la, q3, _⟩, q5, q6, q7, q8⟩ := b3 l v hg
    rw [hg] at hlk
    simp only [Option.getD_some, Option.isSome_some] at hlk
    have hlen : (ids l).length ≤ 100000000 := by
      have := sorted_len (ids l) 0 100000000 q7 (fun i hi => ⟨(q8 i hi).1, by have := (q8 i hi).2; omega⟩) (by omega)
      omega
    obtain ⟨o, c, hiv⟩ := own_slc q5.1
    have hq5 := q5.1
    rw [hiv] at hq5 q3
    have hrow : Hnts W o (ids l) := own_row hq5 (fun i hi => by have := q8 i hi; omega)
    have r0 : W.cell? ⟨rw' l, 0, none⟩ = some (.slice o (ids l).length c) := row_cell q3 0
    have hf : (ids l).filter (fun i => (f i).isSome) = Bas.occ s.live l := by
      rw [← q6]
      apply List.filter_congr
      intro i hi
      have hi2 := q8 i hi
      have := a3 i ⟨by omega, by omega⟩
      cases hq : Bas.look s.live i with
      | none => rw [hq] at this; simp only [EntAt] at this; rw [this]; rfl
      | some d => rw [hq] at this; obtain ⟨_, _, e1, _⟩ := this; rw [e1]; rfl
    have C := hid (alive41 x3 a1 (fun i v hi hfv => by
      have := a3 i hi
      rw [hfv] at this
      cases hq : Bas.look s.live i with
      | none => rw [hq] at this; cases this
      | some d => rw [hq] at this; obtain ⟨a9, c9, e1, _⟩ := this; injection e1 with e1; exact ⟨_, _, _, _, _, e1⟩) o (ids l).length c (ids l) rfl hlen hrow)
    rw [hf] at C
    clear b3 b4 b5 a3 hg a1 b1 x3 hb hf q3 q5 q6 q7 q8 hrow hq5 hiv hlen
    generalize (ids l).length = n at *
    generalize rw' l = rb at *
    go_enter Try.func15, Try.ntmps15
    go_wp2_with (go_at_call 41; refine C.out.mono ?_; rintro e w4 ⟨⟨v4, rfl, ho⟩, hw4⟩; have HO4 := hid ho; have HB4 := hid hw4; clear ho hw4)
    go_ret
    exact ⟨⟨_, rfl, HO4.out⟩, HB4.out⟩
end Go.Proofs.Ythpebfojkpnojaa

/- Keep, Get. -/
namespace Go.Proofs.Ythpebfojkpnojaa
open Go.RowKit Go.Maps
set_option linter.unusedVariables false
set_option linter.unusedSimpArgs false
set_option maxRecDepth 100000
theorem Bs.more {M : Nat → Prop} {bb K K' : Nat} {s : Bas.S} {W : World} (h : Bs M bb K s W) (hk : K ≤ K') : Bs M bb K' s W := by
  obtain ⟨hv, bm, br, k, k2, f, g, rv, sv, tv, R, Z, rw', ids, iv, hb, m1, m2, m3, hne, ⟨a1, a2, a3⟩, ⟨b1, b2, b3⟩, c⟩ := h
  exact ⟨hv, bm, br, k, k2, f, g, rv, sv, tv, R, Z, rw', ids, iv, hb, m1, m2, m3, hne, ⟨a1, Nat.le_trans a2 hk, a3⟩, ⟨b1, Nat.le_trans b2 hk, b3⟩, c⟩
theorem Bs.below {M : Nat → Prop} {bb K : Nat} {s : Bas.S} {W W' : World} (h : Bs M bb K s W) (hl : Below W.heap.size W W') : Bs M bb K s W' := by
  obtain ⟨hv, bm, br, k, k2, f, g, rv, sv, tv, R, Z, rw', ids, iv, hb, m1, m2, m3, hne, ⟨a1, a2, a3⟩, ⟨b1, b2, b3, b4⟩, ⟨c1, c2, c3⟩, ⟨d1, d2, d3⟩, e1⟩ := h
  have ho : ∀ {e : TypeId} {size : Nat} {v : Value} {n : Nat} {xs : List Value}, OwnM M W e size v n xs → OwnM M W' e size v n xs := fun h => ⟨own_below h.1 hl, h.2⟩
  refine ⟨hv, bm, br, k, k2, f, g, rv, sv, tv, R, Z, rw', ids, iv, (hl.block bb (lt_of_blk hb)).trans hb, m1, m2, m3, hne, ⟨a1.same (hl.block bm a1.lt), a2, fun id hi => (a3 id hi).keep hl.size (fun g hg _ => hl.block g hg)⟩, ⟨b1.same (hl.block br b1.lt), b2, fun l v hlv => ?_, b4⟩, ⟨ho c1, c2, fun q hq => ⟨(c3 q hq).1.below hl, (c3 q hq).2.below hl⟩⟩, ⟨ho d1, d2, fun q hq => ⟨(d3 q hq).1.below hl, (d3 q hq).2.below hl⟩⟩, ho e1⟩
  obtain ⟨q1, q2, ⟨go, la, q3, q4⟩, q5, q6, q7⟩ := b3 l v hlv
  exact ⟨q1, q2, ⟨go, la, (hl.block _ (lt_of_blk q3)).trans q3, q4⟩, ho q5, q6, q7⟩
/-- What a call leaves that turns the base and answers an error. -/
def ErrOut (M : Nat → Prop) (bb K : Nat) (r : Int) (s : Bas.S) (W : World) (en : Ending) (w' : World) : Prop := en = .returned (.int .i64 r) ∧ ∃ M', Bs M' bb K s w' ∧ Fm M W w' ∧ Mn W M M'
set_option maxHeartbeats 4000000 in
theorem keep8 {M : Nat → Prop} {bb K : Nat} {s : Bas.S} {W : World} (h : Bs M bb K s W) (hK : K < maxLen) (hn : s.rules.length ≤ 1000000000) (id : Int) (hi : I64 id) :
    Calls Try.prog 8 #[.pointer (some ⟨bb, 0, none⟩), .int .i64 id] W fun en w' => ErrOut M bb (K + 1) (Bas.keepE s id) (Bas.keepS s id) W en w' := by
  have h' := h
  obtain ⟨hv, bm, br, k, k2, f, g, rv, sv, tv, R, Z, rw', ids, iv, hb, m1, m2, m3, hne, ⟨a1, a2, a3⟩, _⟩ := h'
  have x3 : W.cell? ⟨bb, 3, none⟩ = some (.map (some bm)) := row_cell hb 3
  have hlk := a1.look hi
  have hE := a3 id hi
  cases he : Bas.look s.live id with
  | none =>
    rw [he] at hE
    simp only [EntAt] at hE
    rw [hE] at hlk
    simp only [Option.getD_none, Option.isSome_none] at hlk
    have OUT := hid (fun X (hX : Below W.heap.size W X) => show ErrOut M bb (K + 1) (Bas.keepE s id) (Bas.keepS s id) W (.returned (.int .i64 5)) X from by
      have e1 : Bas.keepE s id = 5 := by simp [Bas.keepE, he]
      have e2 : Bas.keepS s id = s := by simp [Bas.keepS, e1]
      rw [e1, e2]
      exact ⟨rfl, M, (h.more (Nat.le_succ _)).below hX, Fm.of_below hX, Mn.refl _ _⟩)
    clear h a1 a3 hb hE he
    go_enter Try.func8, Try.ntmps8
    go_wp2
    go_ret
    exact OUT.out _ (below_box _ _)
  | some e =>
    rw [he] at hE
    obtain ⟨a9, c9, hf, _⟩ := hE
    rw [hf] at hlk
    simp only [Option.getD_some, Option.isSome_some, entV] at hlk
    have C35 := hid (fun X (hX : Below W.heap.size W X) => keep35 (h.below hX) hK id hi e he)
    have e1 : Bas.keepE s id = 0 := by simp [Bas.keepE, he]
    have C33 := hid (fun (W1 : World) (h1 : Bs M bb (K + 1) { s with live := Bas.keepL s.live id } W1) => note33 h1 ⟨2, id, 0, false, [], []⟩ none 0 none 0 ⟨by show (0 : Int) ≤ 2; decide, by show (2 : Int) < 256; decide⟩ ⟨Row.nil _ _ _ _ _, fun _ _ e => by cases e⟩ ⟨Row.nil _ _ _ _ _, fun _ _ e => by cases e⟩ hn)
    have OUT := hid (fun (W1 w' : World) (hF : Fm M W W1) (ho : NoteOut M bb (K + 1) { s with live := Bas.keepL s.live id, rules := s.rules ++ [⟨2, id, 0, false, [], []⟩] } W1 (.returned (.tuple #[])) w') => show ErrOut M bb (K + 1) (Bas.keepE s id) (Bas.keepS s id) W (.returned (.int .i64 0)) w' from by
      obtain ⟨_, M', o1, o2, o3⟩ := ho
      have e2 : Bas.keepS s id = { s with live := Bas.keepL s.live id, rules := s.rules ++ [⟨2, id, 0, false, [], []⟩] } := by simp [Bas.keepS, e1]
      rw [e1, e2]
      refine ⟨rfl, M', o1, ?_, ?_⟩
      · exact ⟨o2.os.trans hF.os, o2.tape.trans hF.tape, o2.output.trans hF.output, Nat.le_trans hF.size o2.size, fun q hq hnm => (o2.block q (Nat.lt_of_lt_of_le hq hF.size) hnm).trans (hF.block q hq hnm)⟩
      · intro q hq
        rcases o3 q hq with h9 | h9
        · exact .inl h9
        · exact .inr (Nat.le_trans hF.size h9))
    clear h a1 a3 hb he e1 hf hn hK
    generalize e.lits.length = el at *
    generalize e.red = er at *
    generalize e.id = ei at *
    go_enter Try.func8, Try.ntmps8
    go_wp2_with (first | (go_at_call 35; go_loud (refine (C35.out _ (below_box _ _)).mono ?_; clear C35; rintro e w4 ⟨rfl, hB4, hF4⟩; have HB4 := hid hB4; have HF4 := hid (show Fm M W w4 from (Fm.of_below (below_box _ _)).trans hF4 (Mn.refl _ _)); clear hB4 hF4)) | (go_at_call 33; go_loud ( refine (C33.out _ HB4.out).mono ?_; clear C33; rintro e w5 ho; have hen := ho.1; subst hen; have HO5 := hid (OUT.out _ _ HF4.out ho); clear ho)))
    go_ret
    exact HO5.out
end Go.Proofs.Ythpebfojkpnojaa

/- Get. -/
namespace Go.Proofs.Ythpebfojkpnojaa
open Go.RowKit Go.Maps
set_option linter.unusedVariables false
set_option linter.unusedSimpArgs false
set_option maxRecDepth 100000
def GetOut (W : World) (d : Bas.E) (b : Bool) (en : Ending) (w' : World) : Prop := ∃ o k, en = .returned (.tuple #[.agg #[.int .i64 d.id, .slice o d.lits.length k, .bool d.red], .bool b]) ∧ w'.ownsRow W.heap.size 45 1 (.slice o d.lits.length k) d.lits.length (d.lits.map (Value.int .i32)) ∧ Below W.heap.size W w'
set_option maxHeartbeats 4000000 in
theorem get6 {M : Nat → Prop} {bb K : Nat} {s : Bas.S} {W : World} (h : Bs M bb K s W) (id : Int) (hi : I64 id) (hn : ∀ e, Bas.look s.live id = some e → e.lits.length ≤ 16777216) :
    Calls Try.prog 6 #[.pointer (some ⟨bb, 0, none⟩), .int .i64 id] W fun en w' => GetOut W ((Bas.look s.live id).getD ⟨0, [], false⟩) (Bas.look s.live id).isSome en w' := by
  obtain ⟨hv, bm, br, k, k2, f, g, rv, sv, tv, R, Z, rw', ids, iv, hb, m1, m2, m3, hne, ⟨a1, a2, a3⟩, _⟩ := h
  have x3 : W.cell? ⟨bb, 3, none⟩ = some (.map (some bm)) := row_cell hb 3
  have hlk := (a1.same ((below_box W (.cells #[.int .i64 0, .slice none 0 0, .bool false] 32)).block bm a1.lt)).look hi
  have hb2 : Below W.heap.size W ((W.alloc (.cells #[.int .i64 0, .slice none 0 0, .bool false] 32)).alloc (.cells #[.int .i64 0, .slice none 0 0, .bool false] 32)) := box_below _ _ (below_box _ _)
  have hlk2 := (a1.same (hb2.block bm a1.lt)).look hi
  have x3a := ((below_box W (.cells #[.int .i64 0, .slice none 0 0, .bool false] 32)).cell (p := ⟨bb, 3, none⟩) (cell_lt x3)).trans x3
  have x3b := (hb2.cell (p := ⟨bb, 3, none⟩) (cell_lt x3)).trans x3
  clear hb2
  have hE := a3 id hi
  obtain ⟨d, hd⟩ : ∃ d, (Bas.look s.live id).getD ⟨0, [], false⟩ = d := ⟨_, rfl⟩
  obtain ⟨b, hbb⟩ : ∃ b, (Bas.look s.live id).isSome = b := ⟨_, rfl⟩
  have hn' : d.lits.length ≤ 16777216 := by
    rw [← hd]
    cases he : Bas.look s.live id with
    | none => simp
    | some e => exact hn e he
  obtain ⟨a, c, hv, hrow⟩ : ∃ a c, (f id).getD (.agg #[.int .i64 0, .slice none 0 0, .bool false]) = .agg #[.int .i64 d.id, .slice a d.lits.length c, .bool d.red] ∧ Lits W a d.lits := by
    rw [← hd]
    cases he : Bas.look s.live id with
    | none => rw [he] at hE; simp only [EntAt] at hE; rw [hE]; exact ⟨none, 0, rfl, Row.nil _ _ _ _ _⟩
    | some e => rw [he] at hE; obtain ⟨a9, c9, hf, hr, _⟩ := hE; rw [hf]; exact ⟨a9, c9, rfl, hr.1⟩
  have hfb : (f id).isSome = b := by
    rw [← hbb]
    cases he : Bas.look s.live id with
    | none => rw [he] at hE; simp only [EntAt] at hE; rw [hE]; rfl
    | some e => rw [he] at hE; obtain ⟨a9, c9, hf, hr, _⟩ := hE; rw [hf]; rfl
  rw [hv, hfb] at hlk hlk2
  rw [hd, hbb]
  have C31 := hid (fun X (hX : Below W.heap.size W X) => clone31 a d.lits.length c d.lits X rfl hn' (hrow.below hX))

  have POST := hid (fun (w4 : World) (hb4 : Below ((W.alloc (.cells #[.int .i64 0, .slice none 0 0, .bool false] 32)).alloc (.cells #[.int .i64 d.id, .slice a d.lits.length c, .bool d.red] 32)).heap.size ((W.alloc (.cells #[.int .i64 0, .slice none 0 0, .bool false] 32)).alloc (.cells #[.int .i64 d.id, .slice a d.lits.length c, .bool d.red] 32)) w4) => show w4.heap[W.heap.size + 1]? = some (.cells #[.int .i64 d.id, .slice a d.lits.length c, .bool d.red] 32 (0, 0)) ∧ w4.heap[W.heap.size]? = some (.cells #[.int .i64 0, .slice none 0 0, .bool false] 32 (0, 0)) ∧ Below W.heap.size W w4 from by
    refine ⟨(hb4.block (W.heap.size + 1) (by simp)).trans ?_, (hb4.block W.heap.size (by simp; omega)).trans (((below_box (W.alloc (.cells #[.int .i64 0, .slice none 0 0, .bool false] 32)) (.cells #[.int .i64 d.id, .slice a d.lits.length c, .bool d.red] 32)).block W.heap.size (by simp)).trans (heap_alloc_new W _)), box_below _ _ (box_below _ _ hb4)⟩
    have := heap_alloc_new (W.alloc (.cells #[.int .i64 0, .slice none 0 0, .bool false] 32)) (.cells #[.int .i64 d.id, .slice a d.lits.length c, .bool d.red] 32)
    simpa using this)
  have CX := hid (C31.out ((W.alloc (.cells #[.int .i64 0, .slice none 0 0, .bool false] 32)).alloc (.cells #[.int .i64 d.id, .slice a d.lits.length c, .bool d.red] 32)) (box_below _ _ (below_box _ _)))
  clear C31
  clear a1 a3 hb hn hn' hE hd hbb hv hfb hrow
  go_enter Try.func6, Try.ntmps6
  go_wp2_with (go_at_call 31; go_loud (refine CX.out.mono ?_; clear CX; rintro e w4 ⟨o, k4, rfl, ho, hb4⟩; obtain ⟨G1, G0, B0⟩ := POST.out w4 hb4; have HO := hid ho; have HB := hid B0; have HG1 := hid G1; have HG0 := hid G0; have g10 : w4.cell? ⟨W.heap.size + 1, 0, none⟩ = some (.int .i64 d.id) := row_cell G1 0; have f10 := row_frozen G1 0; have g11 : w4.cell? ⟨W.heap.size + 1, 1, none⟩ = some (.slice a d.lits.length c) := row_cell G1 1; have f11 := row_frozen G1 1; have g12 : w4.cell? ⟨W.heap.size + 1, 2, none⟩ = some (.bool d.red) := row_cell G1 2; have f12 := row_frozen G1 2; have g00 : w4.cell? ⟨W.heap.size, 0, none⟩ = some (.int .i64 0) := row_cell G0 0; have f00 := row_frozen G0 0; have g01 : w4.cell? ⟨W.heap.size, 1, none⟩ = some (.slice none 0 0) := row_cell G0 1; have f01 := row_frozen G0 1; have g02 : w4.cell? ⟨W.heap.size, 2, none⟩ = some (.bool false) := row_cell G0 2; have f02 := row_frozen G0 2; clear ho hb4 G0 G1 B0 POST))
  have hz : ((W.alloc (.cells #[.int .i64 0, .slice none 0 0, .bool false] 32)).alloc (.cells #[.int .i64 d.id, .slice a d.lits.length c, .bool d.red] 32)).heap.size = W.heap.size + 2 := by simp
  have ho := HO.out
  rw [hz] at ho
  refine bodyPost_ret (results_row_tmp rfl _ _ W.heap.size 32 #[.int .i64 d.id, .slice o d.lits.length k4, .bool d.red] (0, 0) _ rfl ?_ Try.underlying32 rfl (by kernel_rfl)) rfl ?_
  · exact heap_set_row (heap_set_row (heap_set_row ((heap_other w4 _ (by omega)).trans HG0.out) _) _) _
  · refine ⟨o, k4, rfl, own_base (own_set (own_set (own_set (own_set ho (by omega) _) (by omega) _) (by omega) _) (by omega) _) (by omega), ?_⟩
    exact (((HB.out.setCell (by simp) _).setCell (by simp) _).setCell (by simp) _).setCell (by simp) _
end Go.Proofs.Ythpebfojkpnojaa

