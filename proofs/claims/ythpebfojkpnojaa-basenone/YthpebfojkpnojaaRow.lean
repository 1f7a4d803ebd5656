/- A literal's row, marked: how many of its ids went, and which one last. -/
import Derived.Test.YthpebfojkpnojaaLvp
namespace Go.Proofs.Ythpebfojkpnojaa
open Go.RowKit Go.Maps
set_option linter.unusedVariables false
set_option linter.unusedSimpArgs false
set_option maxRecDepth 100000
/-- Two marks of a row turned, and nothing else. -/
theorem Bs.mark {M : Nat → Prop} {bb K : Nat} {s : Bas.S} {W : World} (h : Bs M bb K s W) (l : Int) : ∃ br k2 g, W.cell? ⟨bb, 4, none⟩ = some (.map (some br)) ∧ M br ∧ Mr W br k2 g ∧ (g l = none ∨ ∃ rb o c go la, ∃ ids : List Int, g l = some (.pointer (some ⟨rb, 0, none⟩)) ∧ M rb ∧ W.heap[rb]? = some (.cells #[.slice o ids.length c, .int .i64 go, .int .i64 la] 92 (0, 0)) ∧ Hid (I64 go ∧ I64 la) ∧ W.ownsRow 0 2 1 (.slice o ids.length c) ids.length (ids.map (Value.int .i64)) ∧ (ids.Pairwise (· < ·) ∧ ∀ i ∈ ids, 0 < i ∧ i ≤ s.last) ∧
      ∀ (W' : World) (go' la' : Int), I64 go' → I64 la' → W.heap.size ≤ W'.heap.size → (∀ q, q < W.heap.size → q ≠ rb → W'.heap[q]? = W.heap[q]?) → W'.heap[rb]? = some (.cells #[.slice o ids.length c, .int .i64 go', .int .i64 la'] 92 (0, 0)) → Bs M bb K s W') := by
  obtain ⟨hv, bm, br, k, k2, f, g, rv, sv, tv, R, Z, rw', ids, iv, hb, m1, m2, m3, hne, ⟨a1, a2, a3⟩, ⟨b1, b2, b3, b4, b5⟩, ⟨c1, c2, c3⟩, ⟨d1, d2, d3⟩, e1⟩ := h
  refine ⟨br, k2, g, row_cell hb 4, m3, b1, ?_⟩
  cases hg : g l with
  | none => exact .inl rfl
  | some v =>
    right
    obtain ⟨rfl, q2, ⟨go, la, q3, q4⟩, q5, q6, q7⟩ := b3 l v hg
    obtain ⟨o, c, hiv⟩ := own_slc q5.1
    refine ⟨rw' l, o, c, go, la, ids l, rfl, q2, by rw [← hiv]; exact q3, hid q4, by rw [← hiv]; exact q5.1, q7, fun W' go' la' hgo hla hs hk hrb => ?_⟩
    have hc : ∀ (q : Nat) (cs : Array Value) (t : TypeId), t ≠ 92 → W.heap[q]? = some (.cells cs t (0, 0)) → W'.heap[q]? = W.heap[q]? := fun q cs t ht hq => hk q (lt_of_blk hq) (fun e => by
      rw [e, q3] at hq
      injection hq with hq; injection hq with _ hq _; exact ht hq.symm)
    have hmap : ∀ (q : Nat) es cl, W.heap[q]? = some (.map es cl) → W'.heap[q]? = W.heap[q]? := fun q es cl hq => hk q (lt_of_blk hq) (fun e => by rw [e, q3] at hq; cases hq)
    have hn : ∀ q, q < W.heap.size → ¬ M q → W'.heap[q]? = W.heap[q]? := fun q hq hnm => hk q hq (fun e => hnm (e ▸ q2))
    have ok : ∀ {e size : Nat} {v : Value} {n : Nat} {xs : List Value}, e ≠ 92 → OwnM M W e size v n xs → OwnM M W' e size v n xs := fun n1 ho => ⟨own_keep ho.1 (fun q cs _ hq => hc q cs _ n1 hq), ho.2⟩
    obtain ⟨es1, cl1, hm1⟩ := a1.obj
    obtain ⟨es2, cl2, hm2⟩ := b1.obj
    refine ⟨hv, bm, br, k, k2, f, g, rv, sv, tv, R, Z, rw', ids, iv, (hc _ _ _ (by decide) hb).trans hb, m1, m2, m3, hne, ⟨a1.same (hmap _ _ _ hm1), a2, fun id hi => (a3 id hi).keep hs hn⟩, ⟨b1.same (hmap _ _ _ hm2), b2, fun l' v' hlv => ?_, b4, b5⟩, ⟨ok (by decide) c1, c2, fun q hq => ⟨(c3 q hq).1.keep hs hn, (c3 q hq).2.keep hs hn⟩⟩, ⟨ok (by decide) d1, d2, fun q hq => ⟨(d3 q hq).1.keep hs hn, (d3 q hq).2.keep hs hn⟩⟩, ok (by decide) e1⟩
    obtain ⟨p1, p2, ⟨go2, la2, p3, p4⟩, p5, p6, p7⟩ := b3 l' v' hlv
    by_cases hll : l' = l
    · subst hll
      exact ⟨p1, p2, ⟨go', la', by rw [hrb, hiv], hgo, hla⟩, ok (by decide) p5, p6, p7⟩
    · exact ⟨p1, p2, ⟨go2, la2, (hk _ (lt_of_blk p3) (b5 l' l v' _ hlv hg hll).1).trans p3, p4⟩, ok (by decide) p5, p6, p7⟩
end Go.Proofs.Ythpebfojkpnojaa
