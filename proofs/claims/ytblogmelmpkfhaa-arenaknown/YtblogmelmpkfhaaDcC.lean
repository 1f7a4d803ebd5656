/- The document's Collect: one clause more, plainly and in memory. -/
import Derived.Test.YtblogmelmpkfhaaDcP
namespace Arn
theorem collect_take {M : List It} {i : Nat} {x : It} (h : M[i]? = some x) : collect (M.take (i + 1)) = collect (M.take i) ++ (if x.dead then [] else [x.tight]) := by
  have hi := (List.getElem?_eq_some_iff.1 h).1
  rw [List.take_succ_eq_append_getElem hi, collect_append]
  rw [List.getElem?_eq_getElem hi] at h
  cases h
  cases hd : M[i].dead
  · rw [collect_live _ hd]; rfl
  · rw [collect_dead (D := [M[i]]) (fun y hy => by obtain rfl := List.mem_singleton.1 hy; exact hd)]; simp
end Arn
namespace Go.Proofs.Ytblogmelmpkfhaa
open Go.RowKit Go.Maps
set_option linter.unusedVariables false

def tightE (e : En) : En := (e.1.tight, e.2)
def colE (E : List En) : List En := (E.filter (fun e => !e.1.dead)).map tightE
theorem items_col (E : List En) : items (colE E) = Arn.collect (items E) := by
  induction E with
  | nil => rfl
  | cons e E ih =>
    cases hd : e.1.dead
    · have h1 : colE (e :: E) = tightE e :: colE E := by simp [colE, hd]
      have h2 : Arn.collect (items (e :: E)) = e.1.tight :: Arn.collect (items E) := by simp [items, Arn.collect, hd]
      rw [h1, h2, ← ih]; rfl
    · have h1 : colE (e :: E) = colE E := by simp [colE, hd]
      have h2 : Arn.collect (items (e :: E)) = Arn.collect (items E) := by simp [items, Arn.collect, hd]
      rw [h1, h2, ← ih]
theorem col_take {E : List En} {i : Nat} {e : En} (h : E[i]? = some e) : colE (E.take (i + 1)) = colE (E.take i) ++ (if e.1.dead then [] else [tightE e]) := by
  have hi := (List.getElem?_eq_some_iff.1 h).1
  rw [List.take_succ_eq_append_getElem hi]
  rw [List.getElem?_eq_getElem hi] at h
  cases h
  unfold colE
  rw [List.filter_append, List.map_append]
  cases hd : E[i].1.dead <;> simp [hd]
theorem col_mem {E : List En} {e : En} (h : e ∈ colE E) : ∃ f ∈ E, e = tightE f := by
  obtain ⟨f, hf, rfl⟩ := List.mem_map.1 h
  exact ⟨f, (List.mem_filter.1 hf).1, rfl⟩
theorem items_take (E : List En) (i : Nat) : items (E.take i) = (items E).take i := by simp [items, List.map_take]
/-- A number more, behind a row of one's own. -/
theorem appM {W : World} {base : Nat} {v : Value} {k : Nat} {xs : List Int} (ho : W.ownsRow base 3 1 v k (xs.map (Value.int .i64))) (p : Int) (hb : base ≤ W.heap.size) (hk : k ≤ 100000000) :
    ∃ g c B, (Builtin.append_ #[59, 59] 59 #[v, .slice (some ⟨W.heap.size, 0, none⟩) 1 1]).run Try.prog (W.alloc (.cells #[.int .i64 p] 3)) = .ok (.slice (some ⟨g, 0, none⟩) (k + 1) c) B ∧ B.ownsRow base 3 1 (.slice (some ⟨g, 0, none⟩) (k + 1) c) (k + 1) ((xs ++ [p]).map (Value.int .i64)) ∧
      (W.alloc (.cells #[.int .i64 p] 3)).grownBy B v.ownBlock ∧ (v.ownBlock = some g ∨ g = W.heap.size + 1) ∧ Fr (pT 3) base W B := by
  obtain ⟨i0, hi0, hz⟩ := Option.map_eq_some_iff.1 info3
  simp only [Prod.mk.injEq] at hz
  obtain ⟨g, c, B, hr, h2, h3, h5, _⟩ := run_append_lies (P := Try.prog) (W.alloc (.cells #[.int .i64 p] 3)) 59 59 base 3 i0 (.int .i64 0) 1 8 Try.underlying59 hi0 hz.1 hz.2.1 hz.2.2 rfl (by decide) v k _ (ho.alloc _) ⟨W.heap.size, 0, none⟩ 1 1 [.int .i64 p] rfl (World.news_of_block (heap_alloc_new W (.cells #[.int .i64 p] 3))) (by intro u hu; simp at hu; subst hu; rfl) (by decide) (by unfold maxLen; omega) (by omega) (by simp; omega) _ rfl
  refine ⟨g, c, B, hr, by rw [List.map_append]; exact h2, h3, by simpa using h5, (Fr.alloc W _).trans (Fr.grown h3 (fun q hq => ?_))⟩
  obtain ⟨hq1, cur, hq2⟩ := own_blk ho hq
  refine ⟨hq1, fun o ho2 => ?_⟩
  have := (below_box W (.cells #[.int .i64 p] 3)).block q (lt_of_blk hq2)
  rw [this, hq2] at ho2
  cases ho2
  rfl
theorem own_lt {W : World} {base n size : Nat} {e : TypeId} {v : Value} {xs : List Value} {g : Nat} (h : W.ownsRow base e size v n xs) (hg : v.ownBlock = some g) : g < W.heap.size := by
  obtain ⟨_, cur, hq⟩ := own_blk h hg
  exact lt_of_blk hq
/-- Two rows that don't lie in one block. -/
def Apart (u v : Value) : Prop := ∀ g, u.ownBlock = some g → v.ownBlock ≠ some g
theorem Apart.symm {u v : Value} (h : Apart u v) : Apart v u := fun g h1 h2 => h g h2 h1
/-- A clause that lives, put behind the others. -/
theorem col_step {base : Nat} {fo to lo : Option Addr} {k fc tc lc : Nat} {fs ts : List Int} {xs : List Value} {wr : World} (hb : base ≤ wr.heap.size) (hk : k ≤ 67108864)
    (hf : wr.ownsRow base 3 1 (.slice fo k fc) k (fs.map (Value.int .i64))) (ht : wr.ownsRow base 3 1 (.slice to k tc) k (ts.map (Value.int .i64))) (hl : wr.ownsRow base 92 8 (.slice lo k lc) k xs) (hne : Apart (.slice fo k fc) (.slice to k tc))
    (p rm id en ln lbd used : Int) (la : Option Addr) (L cap : Nat) (red : Bool) :
    ∃ g1 c1 B1 g2 c2 B2 V V2 g3 c3 B3,
      (Builtin.append_ #[59, 59] 59 #[.slice fo k fc, .slice (some ⟨wr.heap.size + 1, 0, none⟩) 1 1]).run Try.prog ((wr.alloc (.cells #[.int .i64 p, .int .i64 rm, .int .i64 id, .slice la L cap, .bool red, .int .i64 lbd, .int .i64 used, .bool false] 92)).alloc (.cells #[.int .i64 p] 3)) = .ok (.slice (some ⟨g1, 0, none⟩) (k + 1) c1) B1 ∧
      (Builtin.append_ #[59, 59] 59 #[.slice to k tc, .slice (some ⟨B1.heap.size, 0, none⟩) 1 1]).run Try.prog (B1.alloc (.cells #[.int .i64 en] 3)) = .ok (.slice (some ⟨g2, 0, none⟩) (k + 1) c2) B2 ∧
      B2.heap[wr.heap.size]? = some (.cells #[.int .i64 p, .int .i64 rm, .int .i64 id, .slice la L cap, .bool red, .int .i64 lbd, .int .i64 used, .bool false] 92 (0, 0)) ∧
      B2.setCell ⟨wr.heap.size, 0, none⟩ (.int .i64 en) = V ∧ V.heap[wr.heap.size]? = some (.cells #[.int .i64 en, .int .i64 rm, .int .i64 id, .slice la L cap, .bool red, .int .i64 lbd, .int .i64 used, .bool false] 92 (0, 0)) ∧
      V.setCell ⟨wr.heap.size, 1, none⟩ (.int .i64 ln) = V2 ∧ V2.heap[wr.heap.size]? = some (.cells #[.int .i64 en, .int .i64 ln, .int .i64 id, .slice la L cap, .bool red, .int .i64 lbd, .int .i64 used, .bool false] 92 (0, 0)) ∧
      (Builtin.append_ #[70, 70] 70 #[.slice lo k lc, .slice (some ⟨V2.heap.size, 0, none⟩) 1 1]).run Try.prog (V2.alloc (.cells #[.int .i64 en, .int .i64 ln, .int .i64 id, .slice la L cap, .bool red, .int .i64 lbd, .int .i64 used, .bool false] 92)) = .ok (.slice (some ⟨g3, 0, none⟩) (k + 1) c3) B3 ∧
      B3.ownsRow base 3 1 (.slice (some ⟨g1, 0, none⟩) (k + 1) c1) (k + 1) ((fs ++ [p]).map (Value.int .i64)) ∧ B3.ownsRow base 3 1 (.slice (some ⟨g2, 0, none⟩) (k + 1) c2) (k + 1) ((ts ++ [en]).map (Value.int .i64)) ∧
      B3.ownsRow base 92 8 (.slice (some ⟨g3, 0, none⟩) (k + 1) c3) (k + 1) (xs ++ [.int .i64 en, .int .i64 ln, .int .i64 id, .slice la L cap, .bool red, .int .i64 lbd, .int .i64 used, .bool false]) ∧
      Apart (.slice (some ⟨g1, 0, none⟩) (k + 1) c1) (.slice (some ⟨g2, 0, none⟩) (k + 1) c2) ∧ Below base wr B3 := by
  have h92 : ∀ cs fr, ¬ pT 3 (.cells cs 92 fr) := fun cs fr hx => by cases hx
  have h3 : ∀ cs fr, ¬ pT 92 (.cells cs 3 fr) := fun cs fr hx => by cases hx
  obtain ⟨X, hX⟩ : ∃ X, wr.alloc (.cells #[.int .i64 p, .int .i64 rm, .int .i64 id, .slice la L cap, .bool red, .int .i64 lbd, .int .i64 used, .bool false] 92) = X := ⟨_, rfl⟩
  have hXs : X.heap.size = wr.heap.size + 1 := by rw [← hX]; simp
  have hXb : Below wr.heap.size wr X := by rw [← hX]; exact below_box _ _
  have hX0 : X.heap[wr.heap.size]? = some (.cells #[.int .i64 p, .int .i64 rm, .int .i64 id, .slice la L cap, .bool red, .int .i64 lbd, .int .i64 used, .bool false] 92 (0, 0)) := by rw [← hX]; exact heap_alloc_new _ _
  have hfX := own_below hf hXb
  have htX := own_below ht hXb
  have hlX := own_below hl hXb
  rw [hX]
  obtain ⟨g1, c1, B1, r1, o1, gr1, w1, F1⟩ := appM hfX p (by omega) (by omega)
  have hB1s : X.heap.size + 1 ≤ B1.heap.size := by have := gr1.size; simpa using this
  have htB1 : B1.ownsRow base 3 1 (.slice to k tc) k (ts.map (Value.int .i64)) := (htX.alloc _).kept gr1 (by
    cases hq : (Value.slice to k tc).ownBlock with
    | none => exact .inl rfl
    | some g => exact .inr (fun e => hne.symm g hq e.symm))
  have hlB1 := own_fr hlX F1 h92
  have hxB1 := F1.block _ _ hX0 (.inr (h92 _ _))
  obtain ⟨g2, c2, B2, r2, o2, gr2, w2, F2⟩ := appM htB1 en (by omega) (by omega)
  have hap : Apart (.slice (some ⟨g1, 0, none⟩) (k + 1) c1) (.slice to k tc) := by
    intro g hg ht2
    obtain rfl : g1 = g := by simpa [Value.ownBlock] using hg
    rcases w1 with w1 | w1
    · exact hne g1 w1 ht2
    · have := own_lt htX ht2; omega
  have hB2s : B1.heap.size + 1 ≤ B2.heap.size := by have := gr2.size; simpa using this
  have o1B2 : B2.ownsRow base 3 1 (.slice (some ⟨g1, 0, none⟩) (k + 1) c1) (k + 1) ((fs ++ [p]).map (Value.int .i64)) := (o1.alloc _).kept gr2 (.inr (fun e => hap g1 rfl e.symm))
  have hap2 : Apart (.slice (some ⟨g1, 0, none⟩) (k + 1) c1) (.slice (some ⟨g2, 0, none⟩) (k + 1) c2) := by
    intro g hg ht2
    obtain rfl : g1 = g := by simpa [Value.ownBlock] using hg
    obtain rfl : g2 = g1 := by simpa [Value.ownBlock] using ht2
    rcases w2 with w2 | w2
    · exact hap g2 rfl w2
    · have := own_lt (g := g2) o1 rfl; omega
  have hlB2 := own_fr hlB1 F2 h92
  have hxB2 := F2.block _ _ hxB1 (.inr (h92 _ _))
  obtain ⟨V, hV⟩ : ∃ V, B2.setCell ⟨wr.heap.size, 0, none⟩ (.int .i64 en) = V := ⟨_, rfl⟩
  obtain ⟨V2, hV2⟩ : ∃ V2, V.setCell ⟨wr.heap.size, 1, none⟩ (.int .i64 ln) = V2 := ⟨_, rfl⟩
  have hxV : V.heap[wr.heap.size]? = some (.cells #[.int .i64 en, .int .i64 rm, .int .i64 id, .slice la L cap, .bool red, .int .i64 lbd, .int .i64 used, .bool false] 92 (0, 0)) := by rw [← hV, heap_set_row hxB2]; rfl
  have hxV2 : V2.heap[wr.heap.size]? = some (.cells #[.int .i64 en, .int .i64 ln, .int .i64 id, .slice la L cap, .bool red, .int .i64 lbd, .int .i64 used, .bool false] 92 (0, 0)) := by rw [← hV2, heap_set_row hxV]; rfl
  have hFV : Fr (pT 92) wr.heap.size B2 V2 := by
    rw [← hV2, ← hV]
    refine (Fr.set (a := ⟨wr.heap.size, 0, none⟩) B2 _ (Nat.le_refl wr.heap.size) (fun o ho2 => ?_)).trans (Fr.set (a := ⟨wr.heap.size, 1, none⟩) _ _ (Nat.le_refl wr.heap.size) (fun o ho2 => ?_))
    · have : B2.heap[wr.heap.size]? = some o := ho2
      rw [hxB2] at this; cases this; rfl
    · have : (B2.setCell ⟨wr.heap.size, 0, none⟩ (.int .i64 en)).heap[wr.heap.size]? = some o := ho2
      rw [hV, hxV] at this; cases this; rfl
  have hlV2 : V2.ownsRow base 92 8 (.slice lo k lc) k xs := by
    refine ⟨hlB2.1, hlB2.2.imp (fun x => x) ?_⟩
    rintro ⟨g, c, cur, e1, h1, h2, h3⟩
    refine ⟨g, c, cur, e1, h1, hFV.block g _ h2 (.inl ?_), h3⟩
    exact own_lt hl (by rw [e1]; rfl)
  have o1V2 := own_fr o1B2 hFV h3
  have o2V2 := own_fr o2 hFV h3
  have hV2s : B2.heap.size ≤ V2.heap.size := hFV.size
  obtain ⟨i0, hi, hz⟩ := Option.map_eq_some_iff.1 info92
  simp only [Prod.mk.injEq] at hz
  obtain ⟨g3, c3, B3, r3, o3, gr3, w3, _⟩ := run_append_lies (P := Try.prog) (V2.alloc (.cells #[.int .i64 en, .int .i64 ln, .int .i64 id, .slice la L cap, .bool red, .int .i64 lbd, .int .i64 used, .bool false] 92)) 70 70 base 92 i0 _ 8 80 Try.underlying70 hi hz.1 hz.2.1 hz.2.2 rfl (by decide) (.slice lo k lc) k xs (hlV2.alloc _)
    ⟨V2.heap.size, 0, none⟩ 1 1 [.int .i64 en, .int .i64 ln, .int .i64 id, .slice la L cap, .bool red, .int .i64 lbd, .int .i64 used, .bool false] rfl (World.news_of_block (heap_alloc_new V2 (.cells #[.int .i64 en, .int .i64 ln, .int .i64 id, .slice la L cap, .bool red, .int .i64 lbd, .int .i64 used, .bool false] 92))) (by intro u hu; simp at hu; rcases hu with rfl | rfl | rfl | rfl | rfl | rfl | rfl | rfl <;> rfl) (by decide) (by unfold maxLen; omega) (by omega) (by simp; omega) _ rfl
  have F3 : Fr (pT 92) base V2 B3 := (Fr.alloc V2 _).trans (Fr.grown gr3 (fun q hq => by
    obtain ⟨hq1, cur, hq2⟩ := own_blk hlV2 hq
    refine ⟨hq1, fun o ho2 => ?_⟩
    have := (below_box V2 (.cells #[.int .i64 en, .int .i64 ln, .int .i64 id, .slice la L cap, .bool red, .int .i64 lbd, .int .i64 used, .bool false] 92)).block q (lt_of_blk hq2)
    rw [this, hq2] at ho2
    cases ho2
    rfl))
  have FX : Fr (pT 3) base wr X := Fr.of_below hXb
  refine ⟨g1, c1, B1, g2, c2, B2, V, V2, g3, c3, B3, by rw [← hXs]; exact r1, r2, hxB2, hV, hxV, hV2, hxV2, r3, own_fr o1V2 F3 h3, own_fr o2V2 F3 h3, o3, hap2, ?_⟩
  have q1 := ((FX.trans F1).trans F2).below hb
  have q2 := (hFV.below (by omega)).mono hb
  have q3 := F3.below (by omega)
  exact (q1.trans q2).trans q3
end Go.Proofs.Ytblogmelmpkfhaa
