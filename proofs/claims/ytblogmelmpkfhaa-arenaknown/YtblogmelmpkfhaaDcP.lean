/- The document's Put. -/
import Derived.Test.YtblogmelmpkfhaaDcW
import Derived.Test.YtblogmelmpkfhaaPut3
namespace Go.Proofs.Ytblogmelmpkfhaa
open Go.RowKit Go.Maps
set_option linter.unusedVariables false

theorem info92 : (Try.prog.info? 92).map (fun i => (i.zero, i.size, i.bytes)) = some (some (.agg #[.int .i64 0, .int .i64 0, .int .i64 0, .slice none 0 0, .bool false, .int .i64 0, .int .i64 0, .bool false]), 8, 80) := by kernel_rfl
theorem irow_snoc (E : List En) (o : Int) (e : En) : irow (E ++ [e]) o = irow E o ++ icell (o + (Arn.size (items E) : Nat)) e := by
  induction E generalizing o with
  | nil => simp [irow, items, Arn.size]
  | cons f E ih =>
    have e1 : o + f.1.room + ((Arn.size (items E) : Nat) : Int) = o + (Arn.size (items (f :: E)) : Nat) := by
      have : Arn.size (items (f :: E)) = f.1.room + Arn.size (items E) := rfl
      rw [this]
      omega
    rw [List.cons_append, irow, ih, irow, List.append_assoc, e1]
/-- A copy of literals, new. -/
theorem own_copy {W : World} {a : Option Addr} {k cap : Nat} {c : List Int} (hk : c.length = k) (hK : k ≤ 268435456) (hc : Lits W a c) :
    ∃ o' c' W', (Builtin.append_ #[30, 30] 30 #[.slice none 0 0, .slice a k cap]).run Try.prog W = .ok (.slice o' k c') W' ∧ Below W.heap.size W W' ∧ LR W' o' c ∧ (k ≤ c' ∧ c' ≤ 9223372036854775807) ∧ (∀ b off, o' = some ⟨b, off, none⟩ → W.heap.size ≤ b ∧ b < W'.heap.size) ∧ W'.ownsRow W.heap.size 48 1 (.slice o' k c') k (c.map (Value.int .i32)) := by
  rcases Nat.eq_zero_or_pos k with h0 | hp
  · subst h0
    have hc0 : c = [] := List.eq_nil_of_length_eq_zero hk
    subst hc0
    refine ⟨none, 0, W, ?_, Below.refl _ _, ⟨hc.1, .inl rfl⟩, ⟨Nat.le_refl _, by omega⟩, (fun b off e => by cases e), World.ownsRow_nil _ _ _ _⟩
    obtain ⟨i0, hi, hz⟩ := Option.map_eq_some_iff.1 info48
    simp only [Prod.mk.injEq] at hz
    cases a <;> simp [Builtin.append_, run_underlying Try.underlying30, sizeOf, typeInfo, hi, Builtin.firstCells, loadCells, Builtin.lenOf, loadCellsFrom]
  · obtain ⟨b, off, rfl⟩ : ∃ b off, a = some ⟨b, off, none⟩ := by
      rcases hc.shape with h | h
      · omega
      · exact h
    obtain ⟨i0, hi, hz⟩ := Option.map_eq_some_iff.1 info48
    simp only [Prod.mk.injEq] at hz
    obtain ⟨g, c', W', hr, ho, hg, hat, hlt⟩ := run_append_lies (P := Try.prog) W 30 30 W.heap.size 48 i0 (.int .i32 0) 1 4 Try.underlying30 hi hz.1 hz.2.1 hz.2.2 rfl (by decide) (.slice none 0 0) 0 [] (World.ownsRow_nil _ _ _ _) ⟨b, off, none⟩ k cap (c.map (Value.int .i32)) (by simp [hk]) (fun j u hu => by
      have hj : j < c.length := by
        rcases Nat.lt_or_ge j c.length with h' | h'
        · exact h'
        · rw [List.getElem?_eq_none (by simpa using h')] at hu; cases hu
      obtain ⟨b2, o2, e2, _, hc2, _⟩ := hc.at hj
      cases e2
      rw [show (⟨b, off, none⟩ : Addr).add j = ⟨b, off + j, none⟩ from Go.WideShapes.add_plain _ _ _, hc2]
      rw [List.getElem?_map, List.getElem?_eq_getElem hj] at hu
      rw [List.getD, List.getElem?_eq_getElem hj]
      exact hu) (by intro u hu; obtain ⟨y, _, rfl⟩ := List.mem_map.1 hu; rfl) hp (by unfold maxLen; omega) (by omega) (Nat.le_refl _) _ rfl
    simp only [Nat.zero_add, List.nil_append] at hr ho
    have hb : Below W.heap.size W W' := (Below.refl _ _).grown hg (Nat.le_refl _) (fun q hq => by cases hq)
    obtain ⟨hgn, cur, hgc⟩ := own_blk (g := g) ho rfl
    refine ⟨some ⟨g, 0, none⟩, c', W', hr, hb, ⟨hc.1, .inr ⟨g, 0, cur, rfl, hgc, fun j hj => ?_⟩⟩, ?_, fun b2 off2 e2 => by cases e2; exact ⟨hgn, hlt⟩, ho⟩
    · have := ho.cellAt j (by omega)
      rw [row_cell hgc] at this
      rw [Nat.zero_add, this, List.getElem?_map, List.getElem?_eq_getElem hj, List.getD, List.getElem?_eq_getElem hj]
      rfl
    · rcases ho.2 with ⟨e', _⟩ | ⟨g', c2, cur', e', _, _, h4, h5, _⟩
      · cases e'
      · cases e'
        unfold maxLen at h5
        exact ⟨h4, by omega⟩
/-- One more clause in the document's row. -/
theorem Dc.push {n db lim : Nat} {v : Value} {E : List En} {W : World} (h : Dc n db lim v E W) (e : En) (hok : e.1.ok) (hl : LR W e.2.1 e.1.lits) (hcp : e.1.lits.length ≤ e.2.2 ∧ e.2.2 ≤ 9223372036854775807) (hf : Arn.size (items E) + e.1.room ≤ lim) :
    ∃ g c B, (Builtin.append_ #[70, 70] 70 #[v, .slice (some ⟨W.heap.size, 0, none⟩) 1 1]).run Try.prog (W.alloc (.cells (icell (Arn.size (items E) : Nat) e).toArray 92)) = .ok (.slice (some ⟨g, 0, none⟩) (E.length + 1) c) B ∧
      B.cell? ⟨db, 1, none⟩ = some v ∧ B.frozen? ⟨db, 1, none⟩ = false ∧ B.cell? ⟨db, 2, none⟩ = some (.int .i64 (Arn.size (items E) : Nat)) ∧ B.frozen? ⟨db, 2, none⟩ = false ∧
      ∀ s : Int, s = (Arn.size (items E) + e.1.room : Nat) → Dc n db lim (.slice (some ⟨g, 0, none⟩) (E.length + 1) c) (E ++ [e]) ((B.setCell ⟨db, 1, none⟩ (.slice (some ⟨g, 0, none⟩) (E.length + 1) c)).setCell ⟨db, 2, none⟩ (.int .i64 s)) ∧ Fr pD n W ((B.setCell ⟨db, 1, none⟩ (.slice (some ⟨g, 0, none⟩) (E.length + 1) c)).setCell ⟨db, 2, none⟩ (.int .i64 s)) := by
  obtain ⟨i0, hi, hz⟩ := Option.map_eq_some_iff.1 info92
  simp only [Prod.mk.injEq] at hz
  have hEl := h.len
  have hal := below_box W (.cells (icell (Arn.size (items E) : Nat) e).toArray 92)
  have hsz : (W.alloc (.cells (icell (Arn.size (items E) : Nat) e).toArray 92)).heap.size = W.heap.size + 1 := by simp
  have hn : n ≤ W.heap.size := by have := h.ndb; have := lt_of_blk h.blk; omega
  obtain ⟨g, c, B, hr, ho, hg, hat, hlt⟩ := run_append_lies (P := Try.prog) (W.alloc (.cells (icell (Arn.size (items E) : Nat) e).toArray 92)) 70 70 n 92 i0 _ 8 80 Try.underlying70 hi hz.1 hz.2.1 hz.2.2 rfl (by decide) v E.length _ (own_below h.own hal)
    ⟨W.heap.size, 0, none⟩ 1 1 (icell (Arn.size (items E) : Nat) e) rfl (World.news_of_block (heap_alloc_new W (.cells (icell (Arn.size (items E) : Nat) e).toArray 92))) (by intro u hu; simp [icell] at hu; rcases hu with rfl | rfl | rfl | rfl | rfl | rfl | rfl | rfl <;> rfl) (by decide) (by unfold maxLen; omega) (by omega) (by rw [hsz]; omega) _ hsz
  have hvne : ∀ q, v.ownBlock = some q → q ≠ db := fun q hq e2 => by
    subst e2
    obtain ⟨_, cur, hq2⟩ := own_blk h.own hq
    have := h.blk
    rw [hq2] at this
    injection this with e3; injection e3 with _ e3; cases e3
  have hblk : B.heap[db]? = some (.cells #[.int .i64 lim, v, .int .i64 (Arn.size (items E) : Nat)] 72 (0, 0)) :=
    (hg.block db (by rw [hsz]; have := lt_of_blk h.blk; omega) (fun e2 => hvne db e2.symm rfl)).trans ((hal.block db (lt_of_blk h.blk)).trans h.blk)
  obtain ⟨hgn, cur, hgc⟩ := own_blk (g := g) ho rfl
  have hgdb : g ≠ db := by rintro rfl; rw [hblk] at hgc; injection hgc with e3; injection e3 with _ e3; cases e3
  refine ⟨g, c, B, hr, row_cell hblk 1, row_frozen hblk 1, row_cell hblk 2, row_frozen hblk 2, fun s hs => ?_⟩
  have hF0 : Fr pD n W B := (Fr.of_below hal).trans (Fr.grown hg (fun q hq => by
    obtain ⟨hq1, cur2, hq2⟩ := own_blk h.own hq
    refine ⟨hq1, fun o ho2 => ?_⟩
    rw [hal.block q (lt_of_blk hq2), hq2] at ho2
    cases ho2
    exact .inr rfl))
  have hF1 : Fr pD n B ((B.setCell ⟨db, 1, none⟩ (.slice (some ⟨g, 0, none⟩) (E.length + 1) c)).setCell ⟨db, 2, none⟩ (.int .i64 s)) := by
    refine (Fr.set B _ h.ndb (fun o ho2 => ?_)).trans (Fr.set _ _ h.ndb (fun o ho2 => ?_))
    · have : B.heap[db]? = some o := ho2
      rw [hblk] at this; cases this; exact .inl rfl
    · have : (B.setCell ⟨db, 1, none⟩ (.slice (some ⟨g, 0, none⟩) (E.length + 1) c)).heap[db]? = some o := ho2
      rw [heap_set_row hblk] at this; cases this; exact .inl rfl
  have hF48 : ∀ cs fr, ¬ pD (.cells cs 48 fr) := fun cs fr hx => by rcases hx with hx | hx <;> cases hx
  have hit : items (E ++ [e]) = items E ++ [e.1] := by simp [items]
  have hsz2 : Arn.size (items (E ++ [e])) = Arn.size (items E) + e.1.room := by rw [hit, Arn.size_append]; simp [Arn.size]
  refine ⟨⟨h.ndb, ?_, ?_, ?_, ?_, by rw [hsz2]; exact hf, h.lim, ?_⟩, hF0.trans hF1⟩
  · rw [heap_set_row (heap_set_row hblk _), hsz2, ← hs]; rfl
  · rw [List.length_append, irow_snoc, Int.zero_add]
    exact own2_set (v := .bool true) (u := .bool true) (own2_set (v := .bool true) (u := .bool true) ho (fun e2 => hgdb e2.symm) _) (fun e2 => hgdb e2.symm) _
  · intro f hf2
    rcases List.mem_append.1 hf2 with hf2 | hf2
    · exact ((h.lits f hf2).fr hF0 hF48).fr hF1 hF48
    · rw [List.mem_singleton.1 hf2]; exact (hl.fr hF0 hF48).fr hF1 hF48
  · rw [hit]
    intro y hy
    rcases List.mem_append.1 hy with hy | hy
    · exact h.ok y hy
    · rw [List.mem_singleton.1 hy]; exact hok
  · intro f hf2
    rcases List.mem_append.1 hf2 with hf2 | hf2
    · exact h.caps f hf2
    · rw [List.mem_singleton.1 hf2]; exact hcp
end Go.Proofs.Ytblogmelmpkfhaa
