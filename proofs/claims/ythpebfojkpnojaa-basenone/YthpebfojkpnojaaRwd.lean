/- A literal's row turned: its ids, and its marks. -/
import Derived.Test.YthpebfojkpnojaaRow
namespace Go.Proofs.Ythpebfojkpnojaa
open Go.RowKit Go.Maps
set_option linter.unusedVariables false
set_option linter.unusedSimpArgs false
set_option maxRecDepth 100000
set_option maxHeartbeats 1000000 in
/-- One row turned, its ids in their old block or in a new one, and nothing else. -/
theorem Bs.rowed {M : Nat → Prop} {bb K : Nat} {s : Bas.S} {W : World} (h : Bs M bb K s W) (l : Int) : ∃ br k2 g, W.cell? ⟨bb, 4, none⟩ = some (.map (some br)) ∧ M br ∧ Mr W br k2 g ∧ (g l = none ∨ ∃ rb o c go la, ∃ ids : List Int, g l = some (.pointer (some ⟨rb, 0, none⟩)) ∧ M rb ∧ W.heap[rb]? = some (.cells #[.slice o ids.length c, .int .i64 go, .int .i64 la] 92 (0, 0)) ∧ Hid (I64 go ∧ I64 la) ∧ W.ownsRow 0 2 1 (.slice o ids.length c) ids.length (ids.map (Value.int .i64)) ∧ (∀ q, (Value.slice o ids.length c).ownBlock = some q → M q) ∧ ids.filter (fun i => (Bas.look s.live i).isSome) = Bas.occ s.live l ∧ (ids.Pairwise (· < ·) ∧ ∀ i ∈ ids, 0 < i ∧ i ≤ s.last) ∧
      ∀ (W' : World) (nv : Value) (ids' : List Int) (go' la' : Int), I64 go' → I64 la' → Fm M W W' → (∀ q, q < W.heap.size → q ≠ rb → (Value.slice o ids.length c).ownBlock ≠ some q → W'.heap[q]? = W.heap[q]?) → W'.heap[rb]? = some (.cells #[nv, .int .i64 go', .int .i64 la'] 92 (0, 0)) → W'.ownsRow 0 2 1 nv ids'.length (ids'.map (Value.int .i64)) → (∀ q, nv.ownBlock = some q → (Value.slice o ids.length c).ownBlock = some q ∨ W.heap.size ≤ q) → ids'.filter (fun i => (Bas.look s.live i).isSome) = Bas.occ s.live l → (ids'.Pairwise (· < ·) ∧ ∀ i ∈ ids', 0 < i ∧ i ≤ s.last) →
        ∃ M', Bs M' bb K s W' ∧ Mn W M M' ∧ ∀ q, M q → M' q) := by
  obtain ⟨hv, bm, br, k, k2, f, g, rv, sv, tv, R, Z, rw', ids, iv, hb, m1, m2, m3, hne, ⟨a1, a2, a3⟩, ⟨b1, b2, b3, b4, b5⟩, ⟨c1, c2, c3⟩, ⟨d1, d2, d3⟩, e1⟩ := h
  refine ⟨br, k2, g, row_cell hb 4, m3, b1, ?_⟩
  cases hg : g l with
  | none => exact .inl rfl
  | some v =>
    right
    obtain ⟨rfl, q2, ⟨go, la, q3, q4⟩, q5, q6, q7⟩ := b3 l v hg
    obtain ⟨o, c, hiv⟩ := own_slc q5.1
    refine ⟨rw' l, o, c, go, la, ids l, rfl, q2, by rw [← hiv]; exact q3, hid q4, by rw [← hiv]; exact q5.1, by rw [← hiv]; exact q5.2, q6, q7, fun W' nv ids' go' la' hgo hla hF hk hrb hown hnew hocc hsrt => ?_⟩
    rw [← hiv] at hk hnew
    have hs := hF.size
    have hMn : Mn W M (fun q => M q ∨ nv.ownBlock = some q) := fun q hq => by
      rcases hq with hq | hq
      · exact .inl hq
      · rcases hnew q hq with h9 | h9
        · exact .inl (q5.2 q h9)
        · exact .inr h9
    have hM' : ∀ q, M q → (fun q => M q ∨ nv.ownBlock = some q) q := fun q hq => .inl hq
    have hc : ∀ (q : Nat) (cs : Array Value) (t : TypeId), t ≠ 92 → t ≠ 2 → W.heap[q]? = some (.cells cs t (0, 0)) → W'.heap[q]? = W.heap[q]? := fun q cs t ht ht2 hq => hk q (lt_of_blk hq) (fun e => by
      rw [e, q3] at hq
      injection hq with hq; injection hq with _ hq _; exact ht hq.symm) (fun e => by
      obtain ⟨_, cur, h9⟩ := own_blk q5.1 e
      rw [h9] at hq
      injection hq with hq; injection hq with _ hq _; exact ht2 hq.symm)
    have hmap : ∀ (q : Nat) es cl, W.heap[q]? = some (.map es cl) → W'.heap[q]? = W.heap[q]? := fun q es cl hq => hk q (lt_of_blk hq) (fun e => by rw [e, q3] at hq; cases hq) (fun e => by
      obtain ⟨_, cur, h9⟩ := own_blk q5.1 e
      rw [h9] at hq; cases hq)
    have ok : ∀ {e size : Nat} {v : Value} {n : Nat} {xs : List Value}, e ≠ 92 → e ≠ 2 → OwnM M W e size v n xs → OwnM (fun q => M q ∨ nv.ownBlock = some q) W' e size v n xs := fun n1 n2 ho => OwnM.mono (M := M) ⟨own_keep ho.1 (fun q cs _ hq => hc q cs _ n1 n2 hq), ho.2⟩ hM'
    obtain ⟨es1, cl1, hm1⟩ := a1.obj
    obtain ⟨es2, cl2, hm2⟩ := b1.obj
    refine ⟨fun q => M q ∨ nv.ownBlock = some q, ⟨hv, bm, br, k, k2, f, g, rv, sv, tv, R, Z, rw', (fun x => if x = l then ids' else ids x), (fun x => if x = l then nv else iv x), (hc _ _ _ (by decide) (by decide) hb).trans hb, hM' _ m1, hM' _ m2, hM' _ m3, hne, ⟨a1.same (hmap _ _ _ hm1), a2, fun id hi => ?_⟩, ⟨b1.same (hmap _ _ _ hm2), b2, fun l' v' hlv => ?_, b4, fun x y v1 v2 h1 h2 hxy => ⟨(b5 x y v1 v2 h1 h2 hxy).1, fun q hq => ?_⟩⟩, ⟨ok (by decide) (by decide) c1, c2, fun q hq => ⟨(c3 q hq).1.fm hF hMn, (c3 q hq).2.fm hF hMn⟩⟩, ⟨ok (by decide) (by decide) d1, d2, fun q hq => ⟨(d3 q hq).1.fm hF hMn, (d3 q hq).2.fm hF hMn⟩⟩, ok (by decide) (by decide) e1⟩, hMn, hM'⟩
    · have h0 := a3 id hi
      cases hq : Bas.look s.live id with
      | none => rw [hq] at h0; exact h0
      | some e =>
        rw [hq] at h0
        obtain ⟨a9, c9, k1, k2, k3⟩ := h0
        exact ⟨a9, c9, k1, k2.fm hF hMn, k3⟩
    · obtain ⟨p1, p2, ⟨go2, la2, p3, p4⟩, p5, p6, p7⟩ := b3 l' v' hlv
      by_cases hll : l' = l
      · subst hll
        simp only [if_true]
        exact ⟨p1, hM' _ p2, ⟨go', la', hrb, hgo, hla⟩, ⟨hown, fun q hq => .inr hq⟩, hocc, hsrt⟩
      · simp only [if_neg hll]
        have hb5 := b5 l' l v' _ hlv hg hll
        refine ⟨p1, hM' _ p2, ⟨go2, la2, (hk _ (lt_of_blk p3) hb5.1 (fun e => ?_)).trans p3, p4⟩, OwnM.mono (M := M) ⟨?_, p5.2⟩ hM', p6, p7⟩
        · obtain ⟨_, cur, h9⟩ := own_blk q5.1 e
          rw [h9] at p3
          injection p3 with p3; injection p3 with _ p3 _; cases p3
        · refine own_keep p5.1 (fun q cs hq1 hq => hk q (lt_of_blk hq) (fun e => ?_) (hb5.2 q hq1))
          rw [e, q3] at hq
          injection hq with hq; injection hq with _ hq _; cases hq
    · by_cases hx : x = l
      · subst hx
        have hyx : ¬ y = x := fun e => hxy e.symm
        simp only [if_true, if_neg hyx] at hq ⊢
        rcases hnew q hq with h9 | h9
        · exact (b5 x y v1 v2 h1 h2 hxy).2 q h9
        · intro e
          obtain ⟨_, cur, h8⟩ := own_blk (b3 y v2 h2).own.1 e
          have := lt_of_blk h8
          omega
      · simp only [if_neg hx] at hq
        by_cases hy : y = l
        · subst hy
          simp only [if_true]
          intro e
          rcases hnew q e with h9 | h9
          · exact (b5 x y v1 v2 h1 h2 hxy).2 q hq h9
          · obtain ⟨_, cur, h8⟩ := own_blk (b3 x v1 h1).own.1 hq
            have := lt_of_blk h8
            omega
        · simp only [if_neg hy]
          exact (b5 x y v1 v2 h1 h2 hxy).2 q hq
end Go.Proofs.Ythpebfojkpnojaa
