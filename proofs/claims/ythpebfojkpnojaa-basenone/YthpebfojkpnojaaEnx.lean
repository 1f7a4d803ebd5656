/- enter: the next id is taken, and the clause put under it. -/
import Derived.Test.YthpebfojkpnojaaEnr
namespace Bas
def entered (s : S) (lits : List Int) (red : Bool) : S := { s with last := s.last + 1, live := s.live ++ [⟨s.last + 1, lits, red⟩] }
end Bas
namespace Go.Proofs.Ythpebfojkpnojaa
open Go.RowKit Go.Maps
set_option linter.unusedVariables false
set_option linter.unusedSimpArgs false
set_option maxRecDepth 100000
theorem Bx.toS' {M : Nat → Prop} {bb K : Nat} {s : Bas.S} {L : List Bas.E} {W : World} (h : Bx M bb K s L W) (e : L = s.live) : Bs M bb K s W := by
  subst e; exact h.toS
set_option maxHeartbeats 1000000 in
theorem Bs.enterX {M : Nat → Prop} {bb K : Nat} {s : Bas.S} {W : World} (h : Bs M bb K s W) (hK : K < maxLen) (h0 : 0 ≤ s.last) (hL : s.last < 100000000) (hg : ∀ e ∈ s.live, e.id ≤ s.last) (lits : List Int) (red : Bool) (a : Option Addr) (c : Nat) (hl : LI M W a lits) (hc : lits.length ≤ c ∧ c ≤ maxLen) :
    ∃ bm, W.cell? ⟨bb, 2, none⟩ = some (.int .i64 s.last) ∧ W.frozen? ⟨bb, 2, none⟩ = false ∧ W.cell? ⟨bb, 3, none⟩ = some (.map (some bm)) ∧ ∀ W1, W.setCell ⟨bb, 2, none⟩ (.int .i64 (s.last + 1)) = W1 → W1.cell? ⟨bb, 2, none⟩ = some (.int .i64 (s.last + 1)) ∧ W1.cell? ⟨bb, 3, none⟩ = some (.map (some bm)) ∧
      ∃ W2, (Instr.mapUpdate 75 (.map (some bm)) (.int .i64 (s.last + 1)) (.agg #[.int .i64 (s.last + 1), .slice a lits.length c, .bool red])).run Try.prog W1.drew = .ok () W2 ∧ Bx M bb (K + 1) (Bas.entered s lits red) (s.live ++ [⟨s.last + 1, [], red⟩]) W2 ∧ Fm M W W2 := by
  obtain ⟨hv, bm, br, k, k2, f, g, rv, sv, tv, R, Z, rw', ids, iv, hb, m1, m2, m3, hne, ⟨a1, a2, a3⟩, ⟨b1, b2, b3, b4, b5⟩, ⟨c1, c2, c3⟩, ⟨d1, d2, d3⟩, e1⟩ := h
  refine ⟨bm, row_cell hb 2, row_frozen hb 2, row_cell hb 3, fun W1 hW1 => ?_⟩
  have hb1 : W1.heap[bb]? = some (.cells #[.int .i64 s.vars, .int .i64 s.form, .int .i64 (s.last + 1), .map (some bm), .map (some br), rv, .int .i64 (Bas.nsteps s : Nat), sv, tv] 78 (0, 0)) := by rw [← hW1]; exact heap_set_row hb _
  refine ⟨row_cell hb1 2, row_cell hb1 3, ?_⟩
  have hk1 : ∀ q, q ≠ bb → W1.drew.heap[q]? = W.heap[q]? := fun q hq => by rw [← hW1]; exact heap_other W _ hq
  have hs1 : W1.drew.heap.size = W.heap.size := by rw [← hW1]; simp [World.setCell, World.drew]
  have hbm : bm ≠ bb := fun e => by
    obtain ⟨es, cl, h9⟩ := a1.obj
    rw [e, hb] at h9; cases h9
  have hbr : br ≠ bb := fun e => by
    obtain ⟨es, cl, h9⟩ := b1.obj
    rw [e, hb] at h9; cases h9
  have hi : I64 (s.last + 1) := ⟨by omega, by omega⟩
  obtain ⟨W2, hr, hM2, hmt⟩ := (a1.same (hk1 bm hbm)).put hi (by omega) (.agg #[.int .i64 (s.last + 1), .slice a lits.length c, .bool red])
  have hk : ∀ q, q < W.heap.size → q ≠ bb → q ≠ bm → W2.heap[q]? = W.heap[q]? := fun q hq h1 h2 => (hmt.grown.block q (by rw [hs1]; exact hq) (fun e => h2 (by simpa using e))).trans (hk1 q h1)
  have hs : W.heap.size ≤ W2.heap.size := by rw [← hs1]; exact hmt.grown.size
  have hn : ∀ q, q < W.heap.size → ¬ M q → W2.heap[q]? = W.heap[q]? := fun q hq hnm => hk q hq (fun e => hnm (e ▸ m1)) (fun e => hnm (e ▸ m2))
  have hF : Fm M W W2 := ⟨by rw [hmt.grown.os, ← hW1]; rfl, by rw [hmt.grown.tape, ← hW1]; rfl, by rw [hmt.grown.output, ← hW1]; rfl, hs, hn⟩
  have hcl : ∀ (q : Nat) (cs : Array Value) (t : TypeId), t ≠ 78 → W.heap[q]? = some (.cells cs t (0, 0)) → W2.heap[q]? = W.heap[q]? := fun q cs t ht hq => hk q (lt_of_blk hq) (fun e => by
    rw [e, hb] at hq
    injection hq with hq; injection hq with _ hq _; exact ht hq.symm) (fun e => by
    obtain ⟨es, cl, h9⟩ := a1.obj
    rw [e, h9] at hq; cases hq)
  have ok : ∀ {e size : Nat} {v : Value} {n : Nat} {xs : List Value}, e ≠ 78 → OwnM M W e size v n xs → OwnM M W2 e size v n xs := fun n1 ho => ⟨own_keep ho.1 (fun q cs _ hq => hcl q cs _ n1 hq), ho.2⟩
  have hb2 : W2.heap[bb]? = _ := (hmt.grown.block bb (by rw [hs1]; exact lt_of_blk hb) (fun e => hbm (by simpa using e.symm))).trans hb1
  have hlook : ∀ i, Bas.look (s.live ++ [⟨s.last + 1, lits, red⟩]) i = if i = s.last + 1 then some ⟨s.last + 1, lits, red⟩ else Bas.look s.live i := fun i => by
    by_cases h1 : i = s.last + 1
    · rw [if_pos h1, h1, Bas.look_new, if_pos rfl]
      cases hq : Bas.look s.live (s.last + 1) with
      | none => rfl
      | some e =>
        obtain ⟨hm, h2⟩ := Bas.look_mem hq
        have := hg e hm
        omega
    · rw [if_neg h1]
      exact Bas.look_old _ h1
  refine ⟨W2, hr, ⟨hv, bm, br, k + 1, k2, upd f (s.last + 1) (some (.agg #[.int .i64 (s.last + 1), .slice a lits.length c, .bool red])), g, rv, sv, tv, R, Z, rw', ids, iv, hb2, m1, m2, m3, hne, ⟨hM2, Nat.succ_le_succ a2, fun id hid1 => ?_⟩, ⟨b1.same (hk br b1.lt hbr (fun e => hne e.symm)), Nat.le_succ_of_le b2, fun l v hlv => ?_, fun l hl2 => ?_, b5⟩, ⟨ok (by decide) c1, c2, fun q hq => ⟨(c3 q hq).1.keep hs hn, (c3 q hq).2.keep hs hn⟩⟩, ⟨ok (by decide) d1, d2, fun q hq => ⟨(d3 q hq).1.keep hs hn, (d3 q hq).2.keep hs hn⟩⟩, ok (by decide) e1⟩, hF⟩
  · show EntAt M W2 (Bas.look (s.live ++ [⟨s.last + 1, lits, red⟩]) id) _
    rw [hlook]
    by_cases h1 : id = s.last + 1
    · rw [if_pos h1]
      subst h1
      exact ⟨a, c, by simp [upd, entV], hl.keep hs hn, hc⟩
    · rw [if_neg h1]
      have e2 : upd f (s.last + 1) (some (.agg #[.int .i64 (s.last + 1), .slice a lits.length c, .bool red])) id = f id := by simp [upd, h1]
      rw [e2]
      exact (a3 id hid1).keep hs hn
  · obtain ⟨p1, p2, ⟨go, la, p3, p4⟩, p5, p6, p7, p8⟩ := b3 l v hlv
    refine ⟨p1, p2, ⟨go, la, (hcl _ _ _ (by decide) p3).trans p3, p4⟩, ok (by decide) p5, ?_, p7, fun i hi => ?_⟩
    · rw [Bas.occ_new]
      simp only [List.contains_nil, Bool.false_eq_true, if_false, List.append_nil]
      rw [← p6]
      apply List.filter_congr
      intro i hi
      rw [Bas.look_old _ (by have := p8 i hi; show i ≠ s.last + 1; omega)]
    · have := p8 i hi
      exact ⟨this.1, by show i ≤ s.last + 1; omega⟩
  · rw [Bas.occ_new]
    simp only [List.contains_nil, Bool.false_eq_true, if_false, List.append_nil]
    exact b4 l hl2
end Go.Proofs.Ythpebfojkpnojaa
