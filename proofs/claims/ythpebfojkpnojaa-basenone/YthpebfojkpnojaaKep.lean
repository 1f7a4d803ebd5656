/- keep: a live clause is not redundant any more. -/
import Derived.Test.YthpebfojkpnojaaAlv
namespace Bas
theorem look_keepL (L : List E) (id i : Int) : look (keepL L id) i = (look L i).map (fun e => if e.id = id then { e with red := false } else e) := by
  induction L with
  | nil => rfl
  | cons d L ih =>
    unfold look keepL at *
    rw [List.map_cons, List.find?_cons, List.find?_cons]
    have e1 : (if d.id = id then { d with red := false } else d).id = d.id := by split <;> rfl
    rw [e1]
    cases h : d.id == i
    · exact ih
    · rfl
theorem occ_keepL (L : List E) (id l : Int) : occ (keepL L id) l = occ L l := by
  induction L with
  | nil => rfl
  | cons d L ih =>
    unfold occ keepL at *
    rw [List.map_cons, List.filter_cons, List.filter_cons]
    have e1 : (if d.id = id then { d with red := false } else d).lits = d.lits := by split <;> rfl
    have e2 : (if d.id = id then { d with red := false } else d).id = d.id := by split <;> rfl
    rw [e1]
    split
    · rw [List.map_cons, List.map_cons, e2, ih]
    · exact ih
end Bas
namespace Go.Proofs.Ythpebfojkpnojaa
open Go.RowKit Go.Maps
set_option linter.unusedVariables false
set_option linter.unusedSimpArgs false
set_option maxRecDepth 100000
theorem own_keep {W W' : World} {base n size : Nat} {e : TypeId} {v : Value} {xs : List Value} (h : W.ownsRow base e size v n xs) (hk : ∀ g cs, v.ownBlock = some g → W.heap[g]? = some (.cells cs e (0, 0)) → W'.heap[g]? = W.heap[g]?) : W'.ownsRow base e size v n xs := by
  refine ⟨h.1, ?_⟩
  rcases h.2 with h' | ⟨g, cap, cur, rfl, h1, h2, h3⟩
  · exact .inl h'
  · exact .inr ⟨g, cap, cur, rfl, h1, (hk g cur rfl h2).trans h2, h3⟩
theorem OwnM.keep {M : Nat → Prop} {W W' : World} {e : TypeId} {size : Nat} {v : Value} {n : Nat} {xs : List Value} (h : OwnM M W e size v n xs) (hk : ∀ (g : Nat) (cs : Array Value) (t : TypeId), W.heap[g]? = some (.cells cs t (0, 0)) → W'.heap[g]? = W.heap[g]?) : OwnM M W' e size v n xs := ⟨own_keep h.1 (fun g cs _ hg => hk g cs e hg), h.2⟩
theorem RI.keep {q : IntKind} {lo hi : Int} {M : Nat → Prop} {W W' : World} {a : Option Addr} {xs : List Int} (h : RI q lo hi M W a xs) (hs : W.heap.size ≤ W'.heap.size) (hk : ∀ g, g < W.heap.size → ¬ M g → W'.heap[g]? = W.heap[g]?) : RI q lo hi M W' a xs := by
  obtain ⟨⟨h1, h2⟩, h3⟩ := h
  by_cases hx : xs = []
  · exact ⟨⟨h1, .inl hx⟩, h3⟩
  · rcases h2 with h2 | ⟨b, off, e, hl, hc⟩
    · exact absurd h2 hx
    · exact ⟨⟨h1, .inr ⟨b, off, e, Nat.lt_of_lt_of_le hl hs, fun j hj => (World.cell?_of_block (w := W) (a := ⟨b, off + j, none⟩) (hk b hl (h3 b off e hx))).trans (hc j hj)⟩⟩, h3⟩
/-- The map of live clauses turned, and nothing else. -/
theorem Bs.turn {M : Nat → Prop} {bb K : Nat} {s : Bas.S} {W : World} (h : Bs M bb K s W) : ∃ bm k f, W.cell? ⟨bb, 3, none⟩ = some (.map (some bm)) ∧ M bm ∧ Mp W bm k f ∧ k ≤ K ∧ (∀ id, I64 id → EntAt M W (Bas.look s.live id) (f id)) ∧
    ∀ (W' : World) (L' : List Bas.E) (k' K' : Nat) (f' : Int → Option Value), W.heap.size ≤ W'.heap.size → (∀ g, g < W.heap.size → g ≠ bm → W'.heap[g]? = W.heap[g]?) → Mp W' bm k' f' → k' ≤ K' → K ≤ K' → (∀ id, I64 id → EntAt M W' (Bas.look L' id) (f' id)) → (∀ l, Bas.occ L' l = Bas.occ s.live l) → (∀ i, (Bas.look L' i).isSome = (Bas.look s.live i).isSome) → Bs M bb K' { s with live := L' } W' := by
  obtain ⟨hv, bm, br, k, k2, f, g, rv, sv, tv, R, Z, rw', ids, iv, hb, m1, m2, m3, hne, ⟨a1, a2, a3⟩, ⟨b1, b2, b3, b4, b5⟩, ⟨c1, c2, c3⟩, ⟨d1, d2, d3⟩, e1⟩ := h
  have x3 : W.cell? ⟨bb, 3, none⟩ = some (.map (some bm)) := row_cell hb 3
  refine ⟨bm, k, f, x3, m2, a1, a2, a3, fun W' L' k' K' f' hs hk hm hk' hK he ho hl => ?_⟩
  obtain ⟨es, cl, hbm⟩ := a1.obj
  have hc : ∀ (g : Nat) (cs : Array Value) (t : TypeId), W.heap[g]? = some (.cells cs t (0, 0)) → W'.heap[g]? = W.heap[g]? := fun g cs t hg => hk g (lt_of_blk hg) (fun e => by rw [e, hbm] at hg; cases hg)
  have hn : ∀ g, g < W.heap.size → ¬ M g → W'.heap[g]? = W.heap[g]? := fun g hg hnm => hk g hg (fun e => hnm (e ▸ m2))
  refine ⟨hv, bm, br, k', k2, f', g, rv, sv, tv, R, Z, rw', ids, iv, (hc _ _ _ hb).trans hb, m1, m2, m3, hne, ⟨hm, hk', he⟩, ⟨b1.same (hk br b1.lt (fun e => hne e.symm)), Nat.le_trans b2 hK, fun l v hlv => ?_, fun l hl2 => by show Bas.occ L' l = []; rw [ho l]; exact b4 l hl2, b5⟩, ⟨c1.keep hc, c2, fun q hq => ⟨(c3 q hq).1.keep hs hn, (c3 q hq).2.keep hs hn⟩⟩, ⟨d1.keep hc, d2, fun q hq => ⟨(d3 q hq).1.keep hs hn, (d3 q hq).2.keep hs hn⟩⟩, e1.keep hc⟩
  obtain ⟨q1, q2, ⟨go, la, q3, q4⟩, q5, q6, q7⟩ := b3 l v hlv
  refine ⟨q1, q2, ⟨go, la, (hc _ _ _ q3).trans q3, q4⟩, q5.keep hc, ?_, q7⟩
  show (ids l).filter (fun i => (Bas.look L' i).isSome) = Bas.occ L' l
  rw [ho l, ← q6]
  congr 1
  funext i
  exact hl i
theorem EntAt.keep {M : Nat → Prop} {W W' : World} {o : Option Bas.E} {v : Option Value} (h : EntAt M W o v) (hs : W.heap.size ≤ W'.heap.size) (hk : ∀ g, g < W.heap.size → ¬ M g → W'.heap[g]? = W.heap[g]?) : EntAt M W' o v := by
  cases o with
  | none => exact h
  | some e =>
    obtain ⟨a, c, h1, h2, h3⟩ := h
    exact ⟨a, c, h1, h2.keep hs hk, h3⟩
set_option maxHeartbeats 4000000 in
theorem keep35 {M : Nat → Prop} {bb K : Nat} {s : Bas.S} {W : World} (h : Bs M bb K s W) (hK : K < maxLen) (id : Int) (hi : I64 id) (e : Bas.E) (he : Bas.look s.live id = some e) :
    Calls Try.prog 35 #[.pointer (some ⟨bb, 0, none⟩), .int .i64 id] W fun en w' => en = .returned (.tuple #[]) ∧ Bs M bb (K + 1) { s with live := Bas.keepL s.live id } w' ∧ Fm M W w' := by
  obtain ⟨bm, k, f, x3, hMb, hMp, hk, hE, hT⟩ := h.turn
  have hid1 : e.id = id := (Bas.look_mem he).2
  obtain ⟨a, c, hfe, hli, hcc⟩ : ∃ a c, f id = some (entV e a c) ∧ LI M W a e.lits ∧ e.lits.length ≤ c ∧ c ≤ maxLen := by
    have := hE id hi
    rw [he] at this
    exact this
  have hlk := hMp.look1 hi
  rw [hfe] at hlk
  simp only [Option.getD_some, entV, hid1] at hlk
  obtain ⟨W2, hW2⟩ : ∃ W2, (W.alloc (.cells #[.int .i64 id, .slice a e.lits.length c, .bool false] 32)).drew = W2 := ⟨_, rfl⟩
  have hb2 : Below W.heap.size W W2 := by rw [← hW2]; exact (below_box _ _).drew
  have hM2 : Mp W2 bm k f := hMp.same (hb2.block bm hMp.lt)
  obtain ⟨W3, hr, hM3, hmt⟩ := hM2.put hi (by omega) (.agg #[.int .i64 id, .slice a e.lits.length c, .bool false])
  have x3' : W2.cell? ⟨bb, 3, none⟩ = some (.map (some bm)) := (hb2.cell (p := ⟨bb, 3, none⟩) (cell_lt x3)).trans x3
  have hs3 : W.heap.size ≤ W3.heap.size := Nat.le_trans hb2.size hmt.grown.size
  have hblk : ∀ g, g < W.heap.size → g ≠ bm → W3.heap[g]? = W.heap[g]? := fun g hg hne => (hmt.grown.block g (Nat.lt_of_lt_of_le hg hb2.size) (fun e1 => hne (by simpa using e1))).trans (hb2.block g hg)
  have hn : ∀ g, g < W.heap.size → ¬ M g → W3.heap[g]? = W.heap[g]? := fun g hg hnm => hblk g hg (fun e1 => hnm (e1 ▸ hMb))
  have OUT := hid (show Bs M bb (K + 1) { s with live := Bas.keepL s.live id } W3 ∧ Fm M W W3 from ⟨hT W3 _ (k + 1) (K + 1) _ hs3 hblk hM3 (by omega) (by omega) (fun i hi2 => by
      rw [Bas.look_keepL]
      have h0 := (hE i hi2).keep hs3 hn
      by_cases hii : i = id
      · subst hii
        rw [he]
        simp only [Option.map_some, hid1, if_true]
        refine ⟨a, c, ?_, hli.keep hs3 hn, hcc⟩
        simp [upd, entV, hid1]
      · have e2 : upd f id (some (.agg #[.int .i64 id, .slice a e.lits.length c, .bool false])) i = f i := by simp [upd, hii]
        rw [e2]
        cases hq : Bas.look s.live i with
        | none => rw [hq] at h0; exact h0
        | some d =>
          rw [hq] at h0
          have hd := (Bas.look_mem hq).2
          simp only [Option.map_some]
          rw [if_neg (by rw [hd]; exact hii)]
          exact h0) (Bas.occ_keepL _ _) (fun i => by rw [Bas.look_keepL]; cases Bas.look s.live i <;> rfl), ⟨hmt.grown.os.trans hb2.os, hmt.grown.tape.trans hb2.tape, hmt.grown.output.trans hb2.output, hs3, hn⟩⟩)
  clear h hT hE hMp hM2 hM3 hmt hfe hli hcc hb2 hs3 hblk hn hMb he
  generalize e.lits.length = el at *
  generalize e.red = er at *
  rw [← hW2] at x3' hr
  clear hid1 hW2
  go_enter Try.func35, Try.ntmps35
  go_wp2
  go_region
  go_wp2
  refine bodyPost_end (results_none rfl _ _ _) rfl ?_
  exact ⟨rfl, OUT.out⟩
end Go.Proofs.Ythpebfojkpnojaa
