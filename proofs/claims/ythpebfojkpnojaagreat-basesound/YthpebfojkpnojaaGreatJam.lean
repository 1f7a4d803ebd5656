/- The base while a clause is entered: its rows tell of one list, its map of another. -/
import Derived.Test.YthpebfojkpnojaaGreatJal
/- The base while a clause is entered: its rows tell of one list, its map of another. -/
namespace Go.Proofs.YthpebfojkpnojaaGreat
open Go.RowKit Go.Maps
set_option linter.unusedVariables false
set_option linter.unusedSimpArgs false
set_option maxRecDepth 100000
/-- The base in memory, where the rows tell of a list of their own. -/
structure Bx (M : Nat → Prop) (bb K : Nat) (s : Bas.S) (L2 : List Bas.E) (W : World) : Prop where
  vars : 0 ≤ s.vars ∧ s.vars ≤ 1048576
  mem : ∃ bm br k k2 f g rv sv tv, ∃ (R : List RlM) (Z : List WtM) (rw : Int → Nat) (ids : Int → List Int) (iv : Int → Value),
    W.heap[bb]? = some (.cells #[.int .i64 s.vars, .int .i64 s.form, .int .i64 s.last, .map (some bm), .map (some br), rv, .int .i64 (Bas.nsteps s : Nat), sv, tv] 76 (0, 0)) ∧
    M bb ∧ M bm ∧ M br ∧ bm ≠ br ∧
    (Mp W bm k f ∧ k ≤ K ∧ ∀ id, I64 id → EntAt M W (Bas.look s.live id) (f id)) ∧
    (Mr W br k2 g ∧ k2 ≤ K ∧ (∀ l v, g l = some v → RowAt M W s.last L2 l v (rw l) (ids l) (iv l)) ∧ (∀ l, g l = none → Bas.occ L2 l = []) ∧
      (∀ l l' v v', g l = some v → g l' = some v' → l ≠ l' → rw l ≠ rw l' ∧ ∀ q, (iv l).ownBlock = some q → (iv l').ownBlock ≠ some q)) ∧
    (OwnM M W 92 6 rv R.length (R.flatMap rlv) ∧ R.map (·.1) = s.rules ∧ ∀ q ∈ R, LI M W q.2.1.1 q.1.lits ∧ HI M W q.2.2.1 q.1.hints) ∧
    (OwnM M W 95 2 sv Z.length (Z.flatMap wtv) ∧ Z.map (·.1) = s.stack ∧ ∀ q ∈ Z, LI M W q.2.1.1 q.1.1 ∧ LI M W q.2.2.1 q.1.2) ∧
    (OwnM M W 66 1 tv (s.vars.toNat + 1) (List.replicate (s.vars.toNat + 1) (.int .i32 0)))
theorem Bs.toX {M : Nat → Prop} {bb K : Nat} {s : Bas.S} {W : World} (h : Bs M bb K s W) : Bx M bb K s s.live W := ⟨h.vars, h.mem⟩
theorem Bx.toS {M : Nat → Prop} {bb K : Nat} {s : Bas.S} {W : World} (h : Bx M bb K s s.live W) : Bs M bb K s W := ⟨h.vars, h.mem⟩
set_option maxHeartbeats 1000000 in
/-- One row turned, its ids in their old block or in a new one, and nothing else. -/
theorem Bx.rowed {M : Nat → Prop} {bb K : Nat} {s : Bas.S} {L2 : List Bas.E} {W : World} (h : Bx M bb K s L2 W) (l : Int) : ∃ br k2 g, W.cell? ⟨bb, 4, none⟩ = some (.map (some br)) ∧ M br ∧ Mr W br k2 g ∧ (g l = none ∧ Bas.occ L2 l = [] ∨ ∃ rb o c go la, ∃ ids : List Int, g l = some (.pointer (some ⟨rb, 0, none⟩)) ∧ M rb ∧ W.heap[rb]? = some (.cells #[.slice o ids.length c, .int .i64 go, .int .i64 la] 88 (0, 0)) ∧ Hid (I64 go ∧ I64 la) ∧ W.ownsRow 0 2 1 (.slice o ids.length c) ids.length (ids.map (Value.int .i64)) ∧ (∀ q, (Value.slice o ids.length c).ownBlock = some q → M q) ∧ ids.filter (fun i => (Bas.look L2 i).isSome) = Bas.occ L2 l ∧ (ids.Pairwise (· < ·) ∧ ∀ i ∈ ids, 0 < i ∧ i ≤ s.last) ∧
      ∀ (W' : World) (nv : Value) (ids' : List Int) (go' la' : Int) (L' : List Bas.E), (∀ i, (Bas.look L' i).isSome = (Bas.look L2 i).isSome) → (∀ l', l' ≠ l → Bas.occ L' l' = Bas.occ L2 l') → I64 go' → I64 la' → Fm M W W' → (∀ q, q < W.heap.size → q ≠ rb → (Value.slice o ids.length c).ownBlock ≠ some q → W'.heap[q]? = W.heap[q]?) → W'.heap[rb]? = some (.cells #[nv, .int .i64 go', .int .i64 la'] 88 (0, 0)) → W'.ownsRow 0 2 1 nv ids'.length (ids'.map (Value.int .i64)) → (∀ q, nv.ownBlock = some q → (Value.slice o ids.length c).ownBlock = some q ∨ W.heap.size ≤ q) → ids'.filter (fun i => (Bas.look L' i).isSome) = Bas.occ L' l → (ids'.Pairwise (· < ·) ∧ ∀ i ∈ ids', 0 < i ∧ i ≤ s.last) →
        ∃ M', Bx M' bb K s L' W' ∧ Mn W M M' ∧ ∀ q, M q → M' q) := by
  obtain ⟨hv, bm, br, k, k2, f, g, rv, sv, tv, R, Z, rw', ids, iv, hb, m1, m2, m3, hne, ⟨a1, a2, a3⟩, ⟨b1, b2, b3, b4, b5⟩, ⟨c1, c2, c3⟩, ⟨d1, d2, d3⟩, e1⟩ := h
  refine ⟨br, k2, g, row_cell hb 4, m3, b1, ?_⟩
  cases hg : g l with
  | none => exact .inl ⟨rfl, b4 l hg⟩
  | some v =>
    right
    obtain ⟨rfl, q2, ⟨go, la, q3, q4⟩, q5, q6, q7⟩ := b3 l v hg
    obtain ⟨o, c, hiv⟩ := own_slc q5.1
    refine ⟨rw' l, o, c, go, la, ids l, rfl, q2, by rw [← hiv]; exact q3, hid q4, by rw [← hiv]; exact q5.1, by rw [← hiv]; exact q5.2, q6, q7, fun W' nv ids' go' la' L' hLs hLo hgo hla hF hk hrb hown hnew hocc hsrt => ?_⟩
    rw [← hiv] at hk hnew
    have hs := hF.size
    have hMn : Mn W M (fun q => M q ∨ nv.ownBlock = some q) := fun q hq => by
      rcases hq with hq | hq
      · exact .inl hq
      · rcases hnew q hq with h9 | h9
        · exact .inl (q5.2 q h9)
        · exact .inr h9
    have hM' : ∀ q, M q → (fun q => M q ∨ nv.ownBlock = some q) q := fun q hq => .inl hq
    have hc : ∀ (q : Nat) (cs : Array Value) (t : TypeId), t ≠ 88 → t ≠ 2 → W.heap[q]? = some (.cells cs t (0, 0)) → W'.heap[q]? = W.heap[q]? := fun q cs t ht ht2 hq => hk q (lt_of_blk hq) (fun e => by
      rw [e, q3] at hq
      injection hq with hq; injection hq with _ hq _; exact ht hq.symm) (fun e => by
      obtain ⟨_, cur, h9⟩ := own_blk q5.1 e
      rw [h9] at hq
      injection hq with hq; injection hq with _ hq _; exact ht2 hq.symm)
    have hmap : ∀ (q : Nat) es cl, W.heap[q]? = some (.map es cl) → W'.heap[q]? = W.heap[q]? := fun q es cl hq => hk q (lt_of_blk hq) (fun e => by rw [e, q3] at hq; cases hq) (fun e => by
      obtain ⟨_, cur, h9⟩ := own_blk q5.1 e
      rw [h9] at hq; cases hq)
    have ok : ∀ {e size : Nat} {v : Value} {n : Nat} {xs : List Value}, e ≠ 88 → e ≠ 2 → OwnM M W e size v n xs → OwnM (fun q => M q ∨ nv.ownBlock = some q) W' e size v n xs := fun n1 n2 ho => OwnM.mono (M := M) ⟨own_keep ho.1 (fun q cs _ hq => hc q cs _ n1 n2 hq), ho.2⟩ hM'
    obtain ⟨es1, cl1, hm1⟩ := a1.obj
    obtain ⟨es2, cl2, hm2⟩ := b1.obj
    refine ⟨fun q => M q ∨ nv.ownBlock = some q, ⟨hv, bm, br, k, k2, f, g, rv, sv, tv, R, Z, rw', (fun x => if x = l then ids' else ids x), (fun x => if x = l then nv else iv x), (hc _ _ _ (by decide) (by decide) hb).trans hb, hM' _ m1, hM' _ m2, hM' _ m3, hne, ⟨a1.same (hmap _ _ _ hm1), a2, fun id hi => ?_⟩, ⟨b1.same (hmap _ _ _ hm2), b2, fun l' v' hlv => ?_, fun l' hl' => by rw [hLo l' (fun e => by rw [e, hg] at hl'; cases hl')]; exact b4 l' hl', fun x y v1 v2 h1 h2 hxy => ⟨(b5 x y v1 v2 h1 h2 hxy).1, fun q hq => ?_⟩⟩, ⟨ok (by decide) (by decide) c1, c2, fun q hq => ⟨(c3 q hq).1.fm hF hMn, (c3 q hq).2.fm hF hMn⟩⟩, ⟨ok (by decide) (by decide) d1, d2, fun q hq => ⟨(d3 q hq).1.fm hF hMn, (d3 q hq).2.fm hF hMn⟩⟩, ok (by decide) (by decide) e1⟩, hMn, hM'⟩
    · have h0 := a3 id hi
      cases hq : Bas.look s.live id with
      | none => rw [hq] at h0; exact h0
      | some e =>
        rw [hq] at h0
        obtain ⟨a9, c9, k1, k2, k3⟩ := h0
        exact ⟨a9, c9, k1, k2.fm hF hMn, k3⟩
    · obtain ⟨p1, p2, ⟨go2, la2, p3, p4⟩, p5, p6, p7⟩ := b3 l' v' hlv
      by_cases hll : l' = l
      · subst hll
        simp only [if_true]
        exact ⟨p1, hM' _ p2, ⟨go', la', hrb, hgo, hla⟩, ⟨hown, fun q hq => .inr hq⟩, hocc, hsrt⟩
      · simp only [if_neg hll]
        have hb5 := b5 l' l v' _ hlv hg hll
        refine ⟨p1, hM' _ p2, ⟨go2, la2, (hk _ (lt_of_blk p3) hb5.1 (fun e => ?_)).trans p3, p4⟩, OwnM.mono (M := M) ⟨?_, p5.2⟩ hM', by rw [hLo l' hll, ← p6]; congr 1; funext i; exact hLs i, p7⟩
        · obtain ⟨_, cur, h9⟩ := own_blk q5.1 e
          rw [h9] at p3
          injection p3 with p3; injection p3 with _ p3 _; cases p3
        · refine own_keep p5.1 (fun q cs hq1 hq => hk q (lt_of_blk hq) (fun e => ?_) (hb5.2 q hq1))
          rw [e, q3] at hq
          injection hq with hq; injection hq with _ hq _; cases hq
    · by_cases hx : x = l
      · subst hx
        have hyx : ¬ y = x := fun e => hxy e.symm
        simp only [if_true, if_neg hyx] at hq ⊢
        rcases hnew q hq with h9 | h9
        · exact (b5 x y v1 v2 h1 h2 hxy).2 q h9
        · intro e
          obtain ⟨_, cur, h8⟩ := own_blk (b3 y v2 h2).own.1 e
          have := lt_of_blk h8
          omega
      · simp only [if_neg hx] at hq
        by_cases hy : y = l
        · subst hy
          simp only [if_true]
          intro e
          rcases hnew q e with h9 | h9
          · exact (b5 x y v1 v2 h1 h2 hxy).2 q hq h9
          · obtain ⟨_, cur, h8⟩ := own_blk (b3 x v1 h1).own.1 hq
            have := lt_of_blk h8
            omega
        · simp only [if_neg hy]
          exact (b5 x y v1 v2 h1 h2 hxy).2 q hq
/-- A literal's first row. -/
theorem Bx.fresh {M : Nat → Prop} {bb K : Nat} {s : Bas.S} {L2 : List Bas.E} {W : World} (h : Bx M bb K s L2 W) (hK : K < maxLen) (l : Int) (hl : I32 l) (br : Nat) (hbr : W.cell? ⟨bb, 4, none⟩ = some (.map (some br))) (hno : ∃ v, (Instr.lookup 72 (.map (some br)) (.int .i32 l) true).run Tryz.prog W = .ok (.tuple #[v, .bool false]) W) :
    ∃ W2, (Instr.mapUpdate 72 (.map (some br)) (.int .i32 l) (.pointer (some ⟨W.heap.size, 0, none⟩))).run Tryz.prog (W.alloc (.cells #[.slice none 0 0, .int .i64 0, .int .i64 0] 88)) = .ok () W2 ∧ (Instr.lookup 72 (.map (some br)) (.int .i32 l) true).run Tryz.prog W2 = .ok (.tuple #[.pointer (some ⟨W.heap.size, 0, none⟩), .bool true]) W2 ∧ W2.cell? ⟨bb, 4, none⟩ = some (.map (some br)) ∧
      Fm M W W2 ∧ ∃ M', Mn W M M' ∧ Bx M' bb (K + 1) s L2 W2 := by
  obtain ⟨hv, bm, br2, k, k2, f, g, rv, sv, tv, R, Z, rw', ids, iv, hb, m1, m2, m3, hne, ⟨a1, a2, a3⟩, ⟨b1, b2, b3, b4, b5⟩, ⟨c1, c2, c3⟩, ⟨d1, d2, d3⟩, e1⟩ := h
  obtain rfl : br2 = br := by
    have := row_cell hb 4
    rw [hbr] at this
    simpa using this.symm
  have hgl : g l = none := by
    obtain ⟨v, hv2⟩ := hno
    rw [b1.look hl] at hv2
    cases hg : g l with
    | none => rfl
    | some v9 => rw [hg] at hv2; simp at hv2
  obtain ⟨W1, hW1⟩ : ∃ W1, W.alloc (.cells #[.slice none 0 0, .int .i64 0, .int .i64 0] 88) = W1 := ⟨_, rfl⟩
  have hb1 : Below W.heap.size W W1 := by rw [← hW1]; exact below_box _ _
  have hnew : W1.heap[W.heap.size]? = some (.cells #[.slice none 0 0, .int .i64 0, .int .i64 0] 88 (0, 0)) := by rw [← hW1]; exact heap_alloc_new _ _
  rw [hW1]
  obtain ⟨W2, hr, hM2, hmt⟩ := (b1.same (hb1.block _ b1.lt)).put hl (by omega) (.pointer (some ⟨W.heap.size, 0, none⟩))
  have hlt := b1.lt
  have hblk : ∀ q, q < W1.heap.size → q ≠ br2 → W2.heap[q]? = W1.heap[q]? := fun q hq hne => hmt.grown.block q hq (fun e1 => hne (by simpa using e1))
  have hk : ∀ q, q < W.heap.size → q ≠ br2 → W2.heap[q]? = W.heap[q]? := fun q hq hne => (hblk q (Nat.lt_of_lt_of_le hq hb1.size) hne).trans (hb1.block q hq)
  have hs : W.heap.size ≤ W2.heap.size := Nat.le_trans hb1.size hmt.grown.size
  have hn : ∀ q, q < W.heap.size → ¬ M q → W2.heap[q]? = W.heap[q]? := fun q hq hnm => hk q hq (fun e => hnm (e ▸ m3))
  have hF : Fm M W W2 := ⟨hmt.grown.os.trans hb1.os, hmt.grown.tape.trans hb1.tape, hmt.grown.output.trans hb1.output, hs, hn⟩
  have hMn : Mn W M (fun q => M q ∨ q = W.heap.size) := fun q hq => by
    rcases hq with hq | rfl
    · exact .inl hq
    · exact .inr (Nat.le_refl _)
  have hM' : ∀ q, M q → (fun q => M q ∨ q = W.heap.size) q := fun q hq => .inl hq
  have hc : ∀ (q : Nat) (cs : Array Value) (t : TypeId), W.heap[q]? = some (.cells cs t (0, 0)) → W2.heap[q]? = W.heap[q]? := fun q cs t hq => hk q (lt_of_blk hq) (fun e => by
    obtain ⟨es, cl, h9⟩ := b1.obj
    rw [e, h9] at hq; cases hq)
  have ok : ∀ {e size : Nat} {v : Value} {n : Nat} {xs : List Value}, OwnM M W e size v n xs → OwnM (fun q => M q ∨ q = W.heap.size) W2 e size v n xs := fun ho => OwnM.mono (M := M) (ho.keep hc) hM'
  have hnew2 := (hblk _ (lt_of_blk hnew) (by omega)).trans hnew
  have hu : ∀ x v, x ≠ l → upd g l (some (.pointer (some ⟨W.heap.size, 0, none⟩))) x = some v → g x = some v := fun x v hx h9 => by simpa [upd, hx] using h9
  refine ⟨W2, hr, ?_, (World.cell?_of_block (hc _ _ _ hb)).trans hbr, hF, _, hMn, ⟨hv, bm, br2, k, k2 + 1, f, upd g l (some (.pointer (some ⟨W.heap.size, 0, none⟩))), rv, sv, tv, R, Z, (fun x => if x = l then W.heap.size else rw' x), (fun x => if x = l then [] else ids x), (fun x => if x = l then .slice none 0 0 else iv x), (hc _ _ _ hb).trans hb, hM' _ m1, hM' _ m2, hM' _ m3, hne, ⟨a1.same (hk bm a1.lt hne), Nat.le_succ_of_le a2, fun id hi => ?_⟩, ⟨hM2, Nat.succ_le_succ b2, fun l' v' hlv => ?_, fun l' hl' => ?_, fun x y v1 v2 h1 h2 hxy => ?_⟩, ⟨ok c1, c2, fun q hq => ⟨(c3 q hq).1.fm hF hMn, (c3 q hq).2.fm hF hMn⟩⟩, ⟨ok d1, d2, fun q hq => ⟨(d3 q hq).1.fm hF hMn, (d3 q hq).2.fm hF hMn⟩⟩, ok e1⟩⟩
  · rw [hM2.look hl]
    simp [upd]
  · have h0 := a3 id hi
    cases hq : Bas.look s.live id with
    | none => rw [hq] at h0; exact h0
    | some e =>
      rw [hq] at h0
      obtain ⟨a9, c9, k1, k2, k3⟩ := h0
      exact ⟨a9, c9, k1, k2.fm hF hMn, k3⟩
  · by_cases hll : l' = l
    · subst hll
      simp only [if_true]
      simp only [upd, if_true, Option.some.injEq] at hlv
      refine ⟨hlv.symm, .inr rfl, ⟨0, 0, hnew2, ⟨by decide, by decide⟩, ⟨by decide, by decide⟩⟩, ⟨World.ownsRow_nil _ _ _ _, fun q hq => by simp [Value.ownBlock] at hq⟩, ?_, List.Pairwise.nil, fun i hi => by cases hi⟩
      rw [b4 l' hgl]; rfl
    · simp only [if_neg hll]
      obtain ⟨p1, p2, ⟨go2, la2, p3, p4⟩, p5, p6, p7⟩ := b3 l' v' (hu _ _ hll hlv)
      exact ⟨p1, hM' _ p2, ⟨go2, la2, (hc _ _ _ p3).trans p3, p4⟩, ok p5, p6, p7⟩
  · by_cases hll : l' = l
    · subst hll; simp [upd] at hl'
    · exact b4 l' (by simpa [upd, hll] using hl')
  · by_cases hx : x = l
    · subst hx
      have hyx : ¬ y = x := fun e => hxy e.symm
      have hy := b3 y v2 (hu _ _ hyx h2)
      obtain ⟨_, _, ⟨_, _, p3, _⟩, _⟩ := hy
      simp only [if_true, if_neg hyx]
      exact ⟨by have := lt_of_blk p3; omega, fun q hq => by simp [Value.ownBlock] at hq⟩
    · have hx' := b3 x v1 (hu _ _ hx h1)
      obtain ⟨_, _, ⟨_, _, p3, _⟩, _⟩ := hx'
      by_cases hy : y = l
      · subst hy
        simp only [if_true, if_neg hx]
        exact ⟨by have := lt_of_blk p3; omega, fun q hq => by simp [Value.ownBlock]⟩
      · simp only [if_neg hx, if_neg hy]
        exact b5 x y v1 v2 (hu _ _ hx h1) (hu _ _ hy h2) hxy
end Go.Proofs.YthpebfojkpnojaaGreat

