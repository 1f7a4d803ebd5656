/- What leaving and entering do, plainly; and the map of live clauses turned by a delete. -/
import Derived.Test.YthpebfojkpnojaaJah
/- What leaving and entering do, plainly; and the map of live clauses turned by a delete. -/
namespace Bas
theorem look_delL (L : List E) (id i : Int) : look (delL L id) i = if i = id then none else look L i := by
  induction L with
  | nil => simp [look, delL]
  | cons d L ih =>
    unfold look delL at *
    rw [List.filter_cons]
    by_cases h1 : d.id = id
    · rw [if_neg (by simp [h1]), ih, List.find?_cons]
      by_cases h2 : i = id
      · rw [if_pos h2, if_pos h2]
      · rw [if_neg h2, if_neg h2]
        have : (d.id == i) = false := by simp [h1]; exact fun e => h2 e.symm
        rw [this]
    · rw [if_pos (by simp [h1]), List.find?_cons, List.find?_cons, ih]
      cases h3 : d.id == i
      · rfl
      · have h4 : d.id = i := by simpa using h3
        have h5 : ¬ i = id := fun e => h1 (h4.trans e)
        rw [if_neg h5, if_neg h5]
theorem occ_delL (L : List E) (id l : Int) : occ (delL L id) l = (occ L l).filter (fun i => i != id) := by
  unfold occ delL
  rw [List.filter_map, List.filter_filter, List.filter_filter]
  congr 1
  apply List.filter_congr
  intro e _
  simp only [Function.comp]
  rw [Bool.and_comm]
theorem rest_delL {L : List E} {ids : List Int} {l : Int} (id : Int) (h : ids.filter (fun i => (look L i).isSome) = occ L l) : ids.filter (fun i => (look (delL L id) i).isSome) = occ (delL L id) l := by
  rw [occ_delL, ← h, List.filter_filter]
  apply List.filter_congr
  intro i _
  rw [look_delL]
  by_cases h1 : i = id
  · simp [h1]
  · simp [h1]
theorem look_new (L : List E) (e : E) (i : Int) : look (L ++ [e]) i = (look L i).or (if e.id = i then some e else none) := by
  unfold look
  rw [List.find?_append, List.find?_cons]
  congr 1
  by_cases h : e.id = i
  · simp [h]
  · have : (e.id == i) = false := by simpa using h
    rw [this, if_neg h]; rfl
theorem occ_new (L : List E) (e : E) (l : Int) : occ (L ++ [e]) l = occ L l ++ if e.lits.contains l then [e.id] else [] := by
  unfold occ
  rw [List.filter_append, List.map_append, List.filter_cons]
  congr 1
  split <;> rfl
end Bas
namespace Go.Proofs.Ythpebfojkpnojaa
open Go.RowKit Go.Maps
set_option linter.unusedVariables false
set_option linter.unusedSimpArgs false
set_option maxRecDepth 100000
/-- The map of live clauses turned, and nothing else: as Bs.turn, where the ids may turn too. -/
theorem Bs.turn2 {M : Nat → Prop} {bb K : Nat} {s : Bas.S} {W : World} (h : Bs M bb K s W) : ∃ bm k f, W.cell? ⟨bb, 3, none⟩ = some (.map (some bm)) ∧ M bm ∧ Mp W bm k f ∧ k ≤ K ∧ (∀ id, I64 id → EntAt M W (Bas.look s.live id) (f id)) ∧
    ∀ (W' : World) (L' : List Bas.E) (k' K' : Nat) (f' : Int → Option Value), W.heap.size ≤ W'.heap.size → (∀ g, g < W.heap.size → g ≠ bm → W'.heap[g]? = W.heap[g]?) → Mp W' bm k' f' → k' ≤ K' → K ≤ K' → (∀ id, I64 id → EntAt M W' (Bas.look L' id) (f' id)) → (∀ l, Bas.occ s.live l = [] → Bas.occ L' l = []) → (∀ (ids : List Int) l, ids.filter (fun i => (Bas.look s.live i).isSome) = Bas.occ s.live l → ids.filter (fun i => (Bas.look L' i).isSome) = Bas.occ L' l) → Bs M bb K' { s with live := L' } W' := by
  obtain ⟨hv, bm, br, k, k2, f, g, rv, sv, tv, R, Z, rw', ids, iv, hb, m1, m2, m3, hne, ⟨a1, a2, a3⟩, ⟨b1, b2, b3, b4, b5⟩, ⟨c1, c2, c3⟩, ⟨d1, d2, d3⟩, e1⟩ := h
  have x3 : W.cell? ⟨bb, 3, none⟩ = some (.map (some bm)) := row_cell hb 3
  refine ⟨bm, k, f, x3, m2, a1, a2, a3, fun W' L' k' K' f' hs hk hm hk' hK he ho hl => ?_⟩
  obtain ⟨es, cl, hbm⟩ := a1.obj
  have hc : ∀ (g : Nat) (cs : Array Value) (t : TypeId), W.heap[g]? = some (.cells cs t (0, 0)) → W'.heap[g]? = W.heap[g]? := fun g cs t hg => hk g (lt_of_blk hg) (fun e => by rw [e, hbm] at hg; cases hg)
  have hn : ∀ g, g < W.heap.size → ¬ M g → W'.heap[g]? = W.heap[g]? := fun g hg hnm => hk g hg (fun e => hnm (e ▸ m2))
  refine ⟨hv, bm, br, k', k2, f', g, rv, sv, tv, R, Z, rw', ids, iv, (hc _ _ _ hb).trans hb, m1, m2, m3, hne, ⟨hm, hk', he⟩, ⟨b1.same (hk br b1.lt (fun e => hne e.symm)), Nat.le_trans b2 hK, fun l v hlv => ?_, fun l hl2 => ho l (b4 l hl2), b5⟩, ⟨c1.keep hc, c2, fun q hq => ⟨(c3 q hq).1.keep hs hn, (c3 q hq).2.keep hs hn⟩⟩, ⟨d1.keep hc, d2, fun q hq => ⟨(d3 q hq).1.keep hs hn, (d3 q hq).2.keep hs hn⟩⟩, e1.keep hc⟩
  obtain ⟨q1, q2, ⟨go, la, q3, q4⟩, q5, q6, q7⟩ := b3 l v hlv
  exact ⟨q1, q2, ⟨go, la, (hc _ _ _ q3).trans q3, q4⟩, q5.keep hc, hl _ _ q6, q7⟩
/-- The delete of a clause that leaves. -/
theorem Bs.gone {M : Nat → Prop} {bb K : Nat} {s : Bas.S} {W : World} (h : Bs M bb K s W) (id : Int) : ∃ bm k f, W.cell? ⟨bb, 3, none⟩ = some (.map (some bm)) ∧ M bm ∧ Mp W bm k f ∧
    ∀ (W' : World) (k' : Nat), W.heap.size ≤ W'.heap.size → (∀ g, g < W.heap.size → g ≠ bm → W'.heap[g]? = W.heap[g]?) → Mp W' bm k' (upd f id none) → k' ≤ k → Bs M bb K { s with live := Bas.delL s.live id } W' := by
  obtain ⟨bm, k, f, x3, m2, a1, a2, a3, hT⟩ := h.turn2
  refine ⟨bm, k, f, x3, m2, a1, fun W' k' hs hk hm hk' => hT W' _ k' K _ hs hk hm (Nat.le_trans hk' a2) (Nat.le_refl _) (fun i hi => ?_) (fun l hl => by rw [Bas.occ_delL, hl]; rfl) (fun ids l hl => Bas.rest_delL id hl)⟩
  have hn : ∀ g, g < W.heap.size → ¬ M g → W'.heap[g]? = W.heap[g]? := fun g hg hnm => hk g hg (fun e => hnm (e ▸ m2))
  have h0 := (a3 i hi).keep hs hn
  rw [Bas.look_delL]
  by_cases h1 : i = id
  · rw [if_pos h1, h1]; simp [EntAt, upd]
  · rw [if_neg h1, show upd f id none i = f i by simp [upd, h1]]; exact h0
end Go.Proofs.Ythpebfojkpnojaa

/- A literal's row, marked: how many of its ids went, and which one last. -/
namespace Go.Proofs.Ythpebfojkpnojaa
open Go.RowKit Go.Maps
set_option linter.unusedVariables false
set_option linter.unusedSimpArgs false
set_option maxRecDepth 100000
/-- Two marks of a row turned, and nothing else. -/
theorem Bs.mark {M : Nat → Prop} {bb K : Nat} {s : Bas.S} {W : World} (h : Bs M bb K s W) (l : Int) : ∃ br k2 g, W.cell? ⟨bb, 4, none⟩ = some (.map (some br)) ∧ M br ∧ Mr W br k2 g ∧ (g l = none ∨ ∃ rb o c go la, ∃ ids : List Int, g l = some (.pointer (some ⟨rb, 0, none⟩)) ∧ M rb ∧ W.heap[rb]? = some (.cells #[.slice o ids.length c, .int .i64 go, .int .i64 la] 92 (0, 0)) ∧ Hid (I64 go ∧ I64 la) ∧ W.ownsRow 0 2 1 (.slice o ids.length c) ids.length (ids.map (Value.int .i64)) ∧ (ids.Pairwise (· < ·) ∧ ∀ i ∈ ids, 0 < i ∧ i ≤ s.last) ∧
      ∀ (W' : World) (go' la' : Int), I64 go' → I64 la' → W.heap.size ≤ W'.heap.size → (∀ q, q < W.heap.size → q ≠ rb → W'.heap[q]? = W.heap[q]?) → W'.heap[rb]? = some (.cells #[.slice o ids.length c, .int .i64 go', .int .i64 la'] 92 (0, 0)) → Bs M bb K s W') := by
  obtain ⟨hv, bm, br, k, k2, f, g, rv, sv, tv, R, Z, rw', ids, iv, hb, m1, m2, m3, hne, ⟨a1, a2, a3⟩, ⟨b1, b2, b3, b4, b5⟩, ⟨c1, c2, c3⟩, ⟨d1, d2, d3⟩, e1⟩ := h
  refine ⟨br, k2, g, row_cell hb 4, m3, b1, ?_⟩
  cases hg : g l with
  | none => exact .inl rfl
  | some v =>
    right
    obtain ⟨rfl, q2, ⟨go, la, q3, q4⟩, q5, q6, q7⟩ := b3 l v hg
    obtain ⟨o, c, hiv⟩ := own_slc q5.1
    refine ⟨rw' l, o, c, go, la, ids l, rfl, q2, by rw [← hiv]; exact q3, hid q4, by rw [← hiv]; exact q5.1, q7, fun W' go' la' hgo hla hs hk hrb => ?_⟩
    have hc : ∀ (q : Nat) (cs : Array Value) (t : TypeId), t ≠ 92 → W.heap[q]? = some (.cells cs t (0, 0)) → W'.heap[q]? = W.heap[q]? := fun q cs t ht hq => hk q (lt_of_blk hq) (fun e => by
      rw [e, q3] at hq
      injection hq with hq; injection hq with _ hq _; exact ht hq.symm)
    have hmap : ∀ (q : Nat) es cl, W.heap[q]? = some (.map es cl) → W'.heap[q]? = W.heap[q]? := fun q es cl hq => hk q (lt_of_blk hq) (fun e => by rw [e, q3] at hq; cases hq)
    have hn : ∀ q, q < W.heap.size → ¬ M q → W'.heap[q]? = W.heap[q]? := fun q hq hnm => hk q hq (fun e => hnm (e ▸ q2))
    have ok : ∀ {e size : Nat} {v : Value} {n : Nat} {xs : List Value}, e ≠ 92 → OwnM M W e size v n xs → OwnM M W' e size v n xs := fun n1 ho => ⟨own_keep ho.1 (fun q cs _ hq => hc q cs _ n1 hq), ho.2⟩
    obtain ⟨es1, cl1, hm1⟩ := a1.obj
    obtain ⟨es2, cl2, hm2⟩ := b1.obj
    refine ⟨hv, bm, br, k, k2, f, g, rv, sv, tv, R, Z, rw', ids, iv, (hc _ _ _ (by decide) hb).trans hb, m1, m2, m3, hne, ⟨a1.same (hmap _ _ _ hm1), a2, fun id hi => (a3 id hi).keep hs hn⟩, ⟨b1.same (hmap _ _ _ hm2), b2, fun l' v' hlv => ?_, b4, b5⟩, ⟨ok (by decide) c1, c2, fun q hq => ⟨(c3 q hq).1.keep hs hn, (c3 q hq).2.keep hs hn⟩⟩, ⟨ok (by decide) d1, d2, fun q hq => ⟨(d3 q hq).1.keep hs hn, (d3 q hq).2.keep hs hn⟩⟩, ok (by decide) e1⟩
    obtain ⟨p1, p2, ⟨go2, la2, p3, p4⟩, p5, p6, p7⟩ := b3 l' v' hlv
    by_cases hll : l' = l
    · subst hll
      exact ⟨p1, p2, ⟨go', la', by rw [hrb, hiv], hgo, hla⟩, ok (by decide) p5, p6, p7⟩
    · exact ⟨p1, p2, ⟨go2, la2, (hk _ (lt_of_blk p3) (b5 l' l v' _ hlv hg hll).1).trans p3, p4⟩, ok (by decide) p5, p6, p7⟩
end Go.Proofs.Ythpebfojkpnojaa

/- A literal's row turned: its ids, and its marks. -/
namespace Go.Proofs.Ythpebfojkpnojaa
open Go.RowKit Go.Maps
set_option linter.unusedVariables false
set_option linter.unusedSimpArgs false
set_option maxRecDepth 100000
set_option maxHeartbeats 1000000 in
/-- One row turned, its ids in their old block or in a new one, and nothing else. -/
theorem Bs.rowed {M : Nat → Prop} {bb K : Nat} {s : Bas.S} {W : World} (h : Bs M bb K s W) (l : Int) : ∃ br k2 g, W.cell? ⟨bb, 4, none⟩ = some (.map (some br)) ∧ M br ∧ Mr W br k2 g ∧ (g l = none ∨ ∃ rb o c go la, ∃ ids : List Int, g l = some (.pointer (some ⟨rb, 0, none⟩)) ∧ M rb ∧ W.heap[rb]? = some (.cells #[.slice o ids.length c, .int .i64 go, .int .i64 la] 92 (0, 0)) ∧ Hid (I64 go ∧ I64 la) ∧ W.ownsRow 0 2 1 (.slice o ids.length c) ids.length (ids.map (Value.int .i64)) ∧ (∀ q, (Value.slice o ids.length c).ownBlock = some q → M q) ∧ ids.filter (fun i => (Bas.look s.live i).isSome) = Bas.occ s.live l ∧ (ids.Pairwise (· < ·) ∧ ∀ i ∈ ids, 0 < i ∧ i ≤ s.last) ∧
      ∀ (W' : World) (nv : Value) (ids' : List Int) (go' la' : Int), I64 go' → I64 la' → Fm M W W' → (∀ q, q < W.heap.size → q ≠ rb → (Value.slice o ids.length c).ownBlock ≠ some q → W'.heap[q]? = W.heap[q]?) → W'.heap[rb]? = some (.cells #[nv, .int .i64 go', .int .i64 la'] 92 (0, 0)) → W'.ownsRow 0 2 1 nv ids'.length (ids'.map (Value.int .i64)) → (∀ q, nv.ownBlock = some q → (Value.slice o ids.length c).ownBlock = some q ∨ W.heap.size ≤ q) → ids'.filter (fun i => (Bas.look s.live i).isSome) = Bas.occ s.live l → (ids'.Pairwise (· < ·) ∧ ∀ i ∈ ids', 0 < i ∧ i ≤ s.last) →
        ∃ M', Bs M' bb K s W' ∧ Mn W M M' ∧ ∀ q, M q → M' q) := by
  obtain ⟨hv, bm, br, k, k2, f, g, rv, sv, tv, R, Z, rw', ids, iv, hb, m1, m2, m3, hne, ⟨a1, a2, a3⟩, ⟨b1, b2, b3, b4, b5⟩, ⟨c1, c2, c3⟩, ⟨d1, d2, d3⟩, e1⟩ := h
  refine ⟨br, k2, g, row_cell hb 4, m3, b1, ?_⟩
  cases hg : g l with
  | none => exact .inl rfl
  | some v =>
    right
    obtain ⟨rfl, q2, ⟨go, la, q3, q4⟩, q5, q6, q7⟩ := b3 l v hg
    obtain ⟨o, c, hiv⟩ := own_slc q5.1
    refine ⟨rw' l, o, c, go, la, ids l, rfl, q2, by rw [← hiv]; exact q3, hid q4, by rw [← hiv]; exact q5.1, by rw [← hiv]; exact q5.2, q6, q7, fun W' nv ids' go' la' hgo hla hF hk hrb hown hnew hocc hsrt => ?_⟩
    rw [← hiv] at hk hnew
    have hs := hF.size
    have hMn : Mn W M (fun q => M q ∨ nv.ownBlock = some q) := fun q hq => by
      rcases hq with hq | hq
      · exact .inl hq
      · rcases hnew q hq with h9 | h9
        · exact .inl (q5.2 q h9)
        · exact .inr h9
    have hM' : ∀ q, M q → (fun q => M q ∨ nv.ownBlock = some q) q := fun q hq => .inl hq
    have hc : ∀ (q : Nat) (cs : Array Value) (t : TypeId), t ≠ 92 → t ≠ 2 → W.heap[q]? = some (.cells cs t (0, 0)) → W'.heap[q]? = W.heap[q]? := fun q cs t ht ht2 hq => hk q (lt_of_blk hq) (fun e => by
      rw [e, q3] at hq
      injection hq with hq; injection hq with _ hq _; exact ht hq.symm) (fun e => by
      obtain ⟨_, cur, h9⟩ := own_blk q5.1 e
      rw [h9] at hq
      injection hq with hq; injection hq with _ hq _; exact ht2 hq.symm)
    have hmap : ∀ (q : Nat) es cl, W.heap[q]? = some (.map es cl) → W'.heap[q]? = W.heap[q]? := fun q es cl hq => hk q (lt_of_blk hq) (fun e => by rw [e, q3] at hq; cases hq) (fun e => by
      obtain ⟨_, cur, h9⟩ := own_blk q5.1 e
      rw [h9] at hq; cases hq)
    have ok : ∀ {e size : Nat} {v : Value} {n : Nat} {xs : List Value}, e ≠ 92 → e ≠ 2 → OwnM M W e size v n xs → OwnM (fun q => M q ∨ nv.ownBlock = some q) W' e size v n xs := fun n1 n2 ho => OwnM.mono (M := M) ⟨own_keep ho.1 (fun q cs _ hq => hc q cs _ n1 n2 hq), ho.2⟩ hM'
    obtain ⟨es1, cl1, hm1⟩ := a1.obj
    obtain ⟨es2, cl2, hm2⟩ := b1.obj
    refine ⟨fun q => M q ∨ nv.ownBlock = some q, ⟨hv, bm, br, k, k2, f, g, rv, sv, tv, R, Z, rw', (fun x => if x = l then ids' else ids x), (fun x => if x = l then nv else iv x), (hc _ _ _ (by decide) (by decide) hb).trans hb, hM' _ m1, hM' _ m2, hM' _ m3, hne, ⟨a1.same (hmap _ _ _ hm1), a2, fun id hi => ?_⟩, ⟨b1.same (hmap _ _ _ hm2), b2, fun l' v' hlv => ?_, b4, fun x y v1 v2 h1 h2 hxy => ⟨(b5 x y v1 v2 h1 h2 hxy).1, fun q hq => ?_⟩⟩, ⟨ok (by decide) (by decide) c1, c2, fun q hq => ⟨(c3 q hq).1.fm hF hMn, (c3 q hq).2.fm hF hMn⟩⟩, ⟨ok (by decide) (by decide) d1, d2, fun q hq => ⟨(d3 q hq).1.fm hF hMn, (d3 q hq).2.fm hF hMn⟩⟩, ok (by decide) (by decide) e1⟩, hMn, hM'⟩
    · have h0 := a3 id hi
      cases hq : Bas.look s.live id with
      | none => rw [hq] at h0; exact h0
      | some e =>
        rw [hq] at h0
        obtain ⟨a9, c9, k1, k2, k3⟩ := h0
        exact ⟨a9, c9, k1, k2.fm hF hMn, k3⟩
    · obtain ⟨p1, p2, ⟨go2, la2, p3, p4⟩, p5, p6, p7⟩ := b3 l' v' hlv
      by_cases hll : l' = l
      · subst hll
        simp only [if_true]
        exact ⟨p1, hM' _ p2, ⟨go', la', hrb, hgo, hla⟩, ⟨hown, fun q hq => .inr hq⟩, hocc, hsrt⟩
      · simp only [if_neg hll]
        have hb5 := b5 l' l v' _ hlv hg hll
        refine ⟨p1, hM' _ p2, ⟨go2, la2, (hk _ (lt_of_blk p3) hb5.1 (fun e => ?_)).trans p3, p4⟩, OwnM.mono (M := M) ⟨?_, p5.2⟩ hM', p6, p7⟩
        · obtain ⟨_, cur, h9⟩ := own_blk q5.1 e
          rw [h9] at p3
          injection p3 with p3; injection p3 with _ p3 _; cases p3
        · refine own_keep p5.1 (fun q cs hq1 hq => hk q (lt_of_blk hq) (fun e => ?_) (hb5.2 q hq1))
          rw [e, q3] at hq
          injection hq with hq; injection hq with _ hq _; cases hq
    · by_cases hx : x = l
      · subst hx
        have hyx : ¬ y = x := fun e => hxy e.symm
        simp only [if_true, if_neg hyx] at hq ⊢
        rcases hnew q hq with h9 | h9
        · exact (b5 x y v1 v2 h1 h2 hxy).2 q h9
        · intro e
          obtain ⟨_, cur, h8⟩ := own_blk (b3 y v2 h2).own.1 e
          have := lt_of_blk h8
          omega
      · simp only [if_neg hx] at hq
        by_cases hy : y = l
        · subst hy
          simp only [if_true]
          intro e
          rcases hnew q e with h9 | h9
          · exact (b5 x y v1 v2 h1 h2 hxy).2 q hq h9
          · obtain ⟨_, cur, h8⟩ := own_blk (b3 x v1 h1).own.1 hq
            have := lt_of_blk h8
            omega
        · simp only [if_neg hy]
          exact (b5 x y v1 v2 h1 h2 hxy).2 q hq
end Go.Proofs.Ythpebfojkpnojaa

/- A literal's row put away. -/
namespace Go.Proofs.Ythpebfojkpnojaa
open Go.RowKit Go.Maps
set_option linter.unusedVariables false
set_option linter.unusedSimpArgs false
set_option maxRecDepth 100000
/-- The map of rows loses a row of a literal that occurs nowhere, and nothing else turns. -/
theorem Bs.unrow {M : Nat → Prop} {bb K : Nat} {s : Bas.S} {W : World} (h : Bs M bb K s W) (l : Int) (hl : Bas.occ s.live l = []) : ∃ br k2 g, W.cell? ⟨bb, 4, none⟩ = some (.map (some br)) ∧ M br ∧ Mr W br k2 g ∧
    ∀ (W' : World), W.heap.size ≤ W'.heap.size → (∀ q, q < W.heap.size → q ≠ br → W'.heap[q]? = W.heap[q]?) → Mr W' br k2 (upd g l none) → Bs M bb K s W' := by
  obtain ⟨hv, bm, br, k, k2, f, g, rv, sv, tv, R, Z, rw', ids, iv, hb, m1, m2, m3, hne, ⟨a1, a2, a3⟩, ⟨b1, b2, b3, b4, b5⟩, ⟨c1, c2, c3⟩, ⟨d1, d2, d3⟩, e1⟩ := h
  refine ⟨br, k2, g, row_cell hb 4, m3, b1, fun W' hs hk hm => ?_⟩
  obtain ⟨es, cl, hbr⟩ := b1.obj
  have hc : ∀ (q : Nat) (cs : Array Value) (t : TypeId), W.heap[q]? = some (.cells cs t (0, 0)) → W'.heap[q]? = W.heap[q]? := fun q cs t hq => hk q (lt_of_blk hq) (fun e => by rw [e, hbr] at hq; cases hq)
  have hn : ∀ q, q < W.heap.size → ¬ M q → W'.heap[q]? = W.heap[q]? := fun q hq hnm => hk q hq (fun e => hnm (e ▸ m3))
  have hu : ∀ x v, upd g l none x = some v → g x = some v := fun x v hx => by
    by_cases e : x = l
    · simp [upd, e] at hx
    · simpa [upd, e] using hx
  refine ⟨hv, bm, br, k, k2, f, upd g l none, rv, sv, tv, R, Z, rw', ids, iv, (hc _ _ _ hb).trans hb, m1, m2, m3, hne, ⟨a1.same (hk bm a1.lt hne), a2, fun id hi => (a3 id hi).keep hs hn⟩, ⟨hm, b2, fun l' v hlv => ?_, fun l' hl' => ?_, fun x y v1 v2 h1 h2 hxy => b5 x y v1 v2 (hu _ _ h1) (hu _ _ h2) hxy⟩, ⟨c1.keep hc, c2, fun q hq => ⟨(c3 q hq).1.keep hs hn, (c3 q hq).2.keep hs hn⟩⟩, ⟨d1.keep hc, d2, fun q hq => ⟨(d3 q hq).1.keep hs hn, (d3 q hq).2.keep hs hn⟩⟩, e1.keep hc⟩
  · obtain ⟨q1, q2, ⟨go, la, q3, q4⟩, q5, q6, q7⟩ := b3 l' v (hu _ _ hlv)
    exact ⟨q1, q2, ⟨go, la, (hc _ _ _ q3).trans q3, q4⟩, q5.keep hc, q6, q7⟩
  · by_cases e : l' = l
    · rw [e]; exact hl
    · exact b4 l' (by simpa [upd, e] using hl')
end Go.Proofs.Ythpebfojkpnojaa

