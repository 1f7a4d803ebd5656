/- What leaving and entering do, plainly; and the map of live clauses turned by a delete. -/
import Derived.Test.YthpebfojkpnojaaGet
namespace Bas
theorem look_delL (L : List E) (id i : Int) : look (delL L id) i = if i = id then none else look L i := by
  induction L with
  | nil => simp [look, delL]
  | cons d L ih =>
    unfold look delL at *
    rw [List.filter_cons]
    by_cases h1 : d.id = id
    · rw [if_neg (by simp [h1]), ih, List.find?_cons]
      by_cases h2 : i = id
      · rw [if_pos h2, if_pos h2]
      · rw [if_neg h2, if_neg h2]
        have : (d.id == i) = false := by simp [h1]; exact fun e => h2 e.symm
        rw [this]
    · rw [if_pos (by simp [h1]), List.find?_cons, List.find?_cons, ih]
      cases h3 : d.id == i
      · rfl
      · have h4 : d.id = i := by simpa using h3
        have h5 : ¬ i = id := fun e => h1 (h4.trans e)
        rw [if_neg h5, if_neg h5]
theorem occ_delL (L : List E) (id l : Int) : occ (delL L id) l = (occ L l).filter (fun i => i != id) := by
  unfold occ delL
  rw [List.filter_map, List.filter_filter, List.filter_filter]
  congr 1
  apply List.filter_congr
  intro e _
  simp only [Function.comp]
  rw [Bool.and_comm]
theorem rest_delL {L : List E} {ids : List Int} {l : Int} (id : Int) (h : ids.filter (fun i => (look L i).isSome) = occ L l) : ids.filter (fun i => (look (delL L id) i).isSome) = occ (delL L id) l := by
  rw [occ_delL, ← h, List.filter_filter]
  apply List.filter_congr
  intro i _
  rw [look_delL]
  by_cases h1 : i = id
  · simp [h1]
  · simp [h1]
theorem look_new (L : List E) (e : E) (i : Int) : look (L ++ [e]) i = (look L i).or (if e.id = i then some e else none) := by
  unfold look
  rw [List.find?_append, List.find?_cons]
  congr 1
  by_cases h : e.id = i
  · simp [h]
  · have : (e.id == i) = false := by simpa using h
    rw [this, if_neg h]; rfl
theorem occ_new (L : List E) (e : E) (l : Int) : occ (L ++ [e]) l = occ L l ++ if e.lits.contains l then [e.id] else [] := by
  unfold occ
  rw [List.filter_append, List.map_append, List.filter_cons]
  congr 1
  split <;> rfl
end Bas
namespace Go.Proofs.Ythpebfojkpnojaa
open Go.RowKit Go.Maps
set_option linter.unusedVariables false
set_option linter.unusedSimpArgs false
set_option maxRecDepth 100000
/-- The map of live clauses turned, and nothing else: as Bs.turn, where the ids may turn too. -/
theorem Bs.turn2 {M : Nat → Prop} {bb K : Nat} {s : Bas.S} {W : World} (h : Bs M bb K s W) : ∃ bm k f, W.cell? ⟨bb, 3, none⟩ = some (.map (some bm)) ∧ M bm ∧ Mp W bm k f ∧ k ≤ K ∧ (∀ id, I64 id → EntAt M W (Bas.look s.live id) (f id)) ∧
    ∀ (W' : World) (L' : List Bas.E) (k' K' : Nat) (f' : Int → Option Value), W.heap.size ≤ W'.heap.size → (∀ g, g < W.heap.size → g ≠ bm → W'.heap[g]? = W.heap[g]?) → Mp W' bm k' f' → k' ≤ K' → K ≤ K' → (∀ id, I64 id → EntAt M W' (Bas.look L' id) (f' id)) → (∀ l, Bas.occ s.live l = [] → Bas.occ L' l = []) → (∀ (ids : List Int) l, ids.filter (fun i => (Bas.look s.live i).isSome) = Bas.occ s.live l → ids.filter (fun i => (Bas.look L' i).isSome) = Bas.occ L' l) → Bs M bb K' { s with live := L' } W' := by
  obtain ⟨hv, bm, br, k, k2, f, g, rv, sv, tv, R, Z, rw', ids, iv, hb, m1, m2, m3, hne, ⟨a1, a2, a3⟩, ⟨b1, b2, b3, b4, b5⟩, ⟨c1, c2, c3⟩, ⟨d1, d2, d3⟩, e1⟩ := h
  have x3 : W.cell? ⟨bb, 3, none⟩ = some (.map (some bm)) := row_cell hb 3
  refine ⟨bm, k, f, x3, m2, a1, a2, a3, fun W' L' k' K' f' hs hk hm hk' hK he ho hl => ?_⟩
  obtain ⟨es, cl, hbm⟩ := a1.obj
  have hc : ∀ (g : Nat) (cs : Array Value) (t : TypeId), W.heap[g]? = some (.cells cs t (0, 0)) → W'.heap[g]? = W.heap[g]? := fun g cs t hg => hk g (lt_of_blk hg) (fun e => by rw [e, hbm] at hg; cases hg)
  have hn : ∀ g, g < W.heap.size → ¬ M g → W'.heap[g]? = W.heap[g]? := fun g hg hnm => hk g hg (fun e => hnm (e ▸ m2))
  refine ⟨hv, bm, br, k', k2, f', g, rv, sv, tv, R, Z, rw', ids, iv, (hc _ _ _ hb).trans hb, m1, m2, m3, hne, ⟨hm, hk', he⟩, ⟨b1.same (hk br b1.lt (fun e => hne e.symm)), Nat.le_trans b2 hK, fun l v hlv => ?_, fun l hl2 => ho l (b4 l hl2), b5⟩, ⟨c1.keep hc, c2, fun q hq => ⟨(c3 q hq).1.keep hs hn, (c3 q hq).2.keep hs hn⟩⟩, ⟨d1.keep hc, d2, fun q hq => ⟨(d3 q hq).1.keep hs hn, (d3 q hq).2.keep hs hn⟩⟩, e1.keep hc⟩
  obtain ⟨q1, q2, ⟨go, la, q3, q4⟩, q5, q6, q7⟩ := b3 l v hlv
  exact ⟨q1, q2, ⟨go, la, (hc _ _ _ q3).trans q3, q4⟩, q5.keep hc, hl _ _ q6, q7⟩
/-- The delete of a clause that leaves. -/
theorem Bs.gone {M : Nat → Prop} {bb K : Nat} {s : Bas.S} {W : World} (h : Bs M bb K s W) (id : Int) : ∃ bm k f, W.cell? ⟨bb, 3, none⟩ = some (.map (some bm)) ∧ M bm ∧ Mp W bm k f ∧
    ∀ (W' : World) (k' : Nat), W.heap.size ≤ W'.heap.size → (∀ g, g < W.heap.size → g ≠ bm → W'.heap[g]? = W.heap[g]?) → Mp W' bm k' (upd f id none) → k' ≤ k → Bs M bb K { s with live := Bas.delL s.live id } W' := by
  obtain ⟨bm, k, f, x3, m2, a1, a2, a3, hT⟩ := h.turn2
  refine ⟨bm, k, f, x3, m2, a1, fun W' k' hs hk hm hk' => hT W' _ k' K _ hs hk hm (Nat.le_trans hk' a2) (Nat.le_refl _) (fun i hi => ?_) (fun l hl => by rw [Bas.occ_delL, hl]; rfl) (fun ids l hl => Bas.rest_delL id hl)⟩
  have hn : ∀ g, g < W.heap.size → ¬ M g → W'.heap[g]? = W.heap[g]? := fun g hg hnm => hk g hg (fun e => hnm (e ▸ m2))
  have h0 := (a3 i hi).keep hs hn
  rw [Bas.look_delL]
  by_cases h1 : i = id
  · rw [if_pos h1, h1]; simp [EntAt, upd]
  · rw [if_neg h1, show upd f id none i = f i by simp [upd, h1]]; exact h0
end Go.Proofs.Ythpebfojkpnojaa
