/- A literal's row put away. -/
import Derived.Test.YthpebfojkpnojaaRwd
namespace Go.Proofs.Ythpebfojkpnojaa
open Go.RowKit Go.Maps
set_option linter.unusedVariables false
set_option linter.unusedSimpArgs false
set_option maxRecDepth 100000
/-- The map of rows loses a row of a literal that occurs nowhere, and nothing else turns. -/
theorem Bs.unrow {M : Nat → Prop} {bb K : Nat} {s : Bas.S} {W : World} (h : Bs M bb K s W) (l : Int) (hl : Bas.occ s.live l = []) : ∃ br k2 g, W.cell? ⟨bb, 4, none⟩ = some (.map (some br)) ∧ M br ∧ Mr W br k2 g ∧
    ∀ (W' : World), W.heap.size ≤ W'.heap.size → (∀ q, q < W.heap.size → q ≠ br → W'.heap[q]? = W.heap[q]?) → Mr W' br k2 (upd g l none) → Bs M bb K s W' := by
  obtain ⟨hv, bm, br, k, k2, f, g, rv, sv, tv, R, Z, rw', ids, iv, hb, m1, m2, m3, hne, ⟨a1, a2, a3⟩, ⟨b1, b2, b3, b4, b5⟩, ⟨c1, c2, c3⟩, ⟨d1, d2, d3⟩, e1⟩ := h
  refine ⟨br, k2, g, row_cell hb 4, m3, b1, fun W' hs hk hm => ?_⟩
  obtain ⟨es, cl, hbr⟩ := b1.obj
  have hc : ∀ (q : Nat) (cs : Array Value) (t : TypeId), W.heap[q]? = some (.cells cs t (0, 0)) → W'.heap[q]? = W.heap[q]? := fun q cs t hq => hk q (lt_of_blk hq) (fun e => by rw [e, hbr] at hq; cases hq)
  have hn : ∀ q, q < W.heap.size → ¬ M q → W'.heap[q]? = W.heap[q]? := fun q hq hnm => hk q hq (fun e => hnm (e ▸ m3))
  have hu : ∀ x v, upd g l none x = some v → g x = some v := fun x v hx => by
    by_cases e : x = l
    · simp [upd, e] at hx
    · simpa [upd, e] using hx
  refine ⟨hv, bm, br, k, k2, f, upd g l none, rv, sv, tv, R, Z, rw', ids, iv, (hc _ _ _ hb).trans hb, m1, m2, m3, hne, ⟨a1.same (hk bm a1.lt hne), a2, fun id hi => (a3 id hi).keep hs hn⟩, ⟨hm, b2, fun l' v hlv => ?_, fun l' hl' => ?_, fun x y v1 v2 h1 h2 hxy => b5 x y v1 v2 (hu _ _ h1) (hu _ _ h2) hxy⟩, ⟨c1.keep hc, c2, fun q hq => ⟨(c3 q hq).1.keep hs hn, (c3 q hq).2.keep hs hn⟩⟩, ⟨d1.keep hc, d2, fun q hq => ⟨(d3 q hq).1.keep hs hn, (d3 q hq).2.keep hs hn⟩⟩, e1.keep hc⟩
  · obtain ⟨q1, q2, ⟨go, la, q3, q4⟩, q5, q6, q7⟩ := b3 l' v (hu _ _ hlv)
    exact ⟨q1, q2, ⟨go, la, (hc _ _ _ q3).trans q3, q4⟩, q5.keep hc, q6, q7⟩
  · by_cases e : l' = l
    · rw [e]; exact hl
    · exact b4 l' (by simpa [upd, e] using hl')
end Go.Proofs.Ythpebfojkpnojaa
