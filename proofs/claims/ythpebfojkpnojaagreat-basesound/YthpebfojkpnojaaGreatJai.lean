/- A literal's row turned: its ids, and its marks. -/
import Derived.Test.YthpebfojkpnojaaGreatJah
/- A literal's row turned: its ids, and its marks. -/
namespace Go.Proofs.YthpebfojkpnojaaGreat
open Go.RowKit Go.Maps
set_option linter.unusedVariables false
set_option linter.unusedSimpArgs false
set_option maxRecDepth 100000
set_option maxHeartbeats 1000000 in
/-- One row turned, its ids in their old block or in a new one, and nothing else. -/
theorem Bs.rowed {M : Nat → Prop} {bb K : Nat} {s : Bas.S} {W : World} (h : Bs M bb K s W) (l : Int) : ∃ br k2 g, W.cell? ⟨bb, 4, none⟩ = some (.map (some br)) ∧ M br ∧ Mr W br k2 g ∧ (g l = none ∨ ∃ rb o c go la, ∃ ids : List Int, g l = some (.pointer (some ⟨rb, 0, none⟩)) ∧ M rb ∧ W.heap[rb]? = some (.cells #[.slice o ids.length c, .int .i64 go, .int .i64 la] 88 (0, 0)) ∧ Hid (I64 go ∧ I64 la) ∧ W.ownsRow 0 2 1 (.slice o ids.length c) ids.length (ids.map (Value.int .i64)) ∧ (∀ q, (Value.slice o ids.length c).ownBlock = some q → M q) ∧ ids.filter (fun i => (Bas.look s.live i).isSome) = Bas.occ s.live l ∧ (ids.Pairwise (· < ·) ∧ ∀ i ∈ ids, 0 < i ∧ i ≤ s.last) ∧
      ∀ (W' : World) (nv : Value) (ids' : List Int) (go' la' : Int), I64 go' → I64 la' → Fm M W W' → (∀ q, q < W.heap.size → q ≠ rb → (Value.slice o ids.length c).ownBlock ≠ some q → W'.heap[q]? = W.heap[q]?) → W'.heap[rb]? = some (.cells #[nv, .int .i64 go', .int .i64 la'] 88 (0, 0)) → W'.ownsRow 0 2 1 nv ids'.length (ids'.map (Value.int .i64)) → (∀ q, nv.ownBlock = some q → (Value.slice o ids.length c).ownBlock = some q ∨ W.heap.size ≤ q) → ids'.filter (fun i => (Bas.look s.live i).isSome) = Bas.occ s.live l → (ids'.Pairwise (· < ·) ∧ ∀ i ∈ ids', 0 < i ∧ i ≤ s.last) →
        ∃ M', Bs M' bb K s W' ∧ Mn W M M' ∧ ∀ q, M q → M' q) := by
  obtain ⟨hv, bm, br, k, k2, f, g, rv, sv, tv, R, Z, rw', ids, iv, hb, m1, m2, m3, hne, ⟨a1, a2, a3⟩, ⟨b1, b2, b3, b4, b5⟩, ⟨c1, c2, c3⟩, ⟨d1, d2, d3⟩, e1⟩ := h
  refine ⟨br, k2, g, row_cell hb 4, m3, b1, ?_⟩
  cases hg : g l with
  | none => exact .inl rfl
  | some v =>
    right
    obtain ⟨rfl, q2, ⟨go, la, q3, q4⟩, q5, q6, q7⟩ := b3 l v hg
    obtain ⟨o, c, hiv⟩ := own_slc q5.1
    refine ⟨rw' l, o, c, go, la, ids l, rfl, q2, by rw [← hiv]; exact q3, hid q4, by rw [← hiv]; exact q5.1, by rw [← hiv]; exact q5.2, q6, q7, fun W' nv ids' go' la' hgo hla hF hk hrb hown hnew hocc hsrt => ?_⟩
    rw [← hiv] at hk hnew
    have hs := hF.size
    have hMn : Mn W M (fun q => M q ∨ nv.ownBlock = some q) := fun q hq => by
      rcases hq with hq | hq
      · exact .inl hq
      · rcases hnew q hq with h9 | h9
        · exact .inl (q5.2 q h9)
        · exact .inr h9
    have hM' : ∀ q, M q → (fun q => M q ∨ nv.ownBlock = some q) q := fun q hq => .inl hq
    have hc : ∀ (q : Nat) (cs : Array Value) (t : TypeId), t ≠ 88 → t ≠ 2 → W.heap[q]? = some (.cells cs t (0, 0)) → W'.heap[q]? = W.heap[q]? := fun q cs t ht ht2 hq => hk q (lt_of_blk hq) (fun e => by
      rw [e, q3] at hq
      injection hq with hq; injection hq with _ hq _; exact ht hq.symm) (fun e => by
      obtain ⟨_, cur, h9⟩ := own_blk q5.1 e
      rw [h9] at hq
      injection hq with hq; injection hq with _ hq _; exact ht2 hq.symm)
    have hmap : ∀ (q : Nat) es cl, W.heap[q]? = some (.map es cl) → W'.heap[q]? = W.heap[q]? := fun q es cl hq => hk q (lt_of_blk hq) (fun e => by rw [e, q3] at hq; cases hq) (fun e => by
      obtain ⟨_, cur, h9⟩ := own_blk q5.1 e
      rw [h9] at hq; cases hq)
    have ok : ∀ {e size : Nat} {v : Value} {n : Nat} {xs : List Value}, e ≠ 88 → e ≠ 2 → OwnM M W e size v n xs → OwnM (fun q => M q ∨ nv.ownBlock = some q) W' e size v n xs := fun n1 n2 ho => OwnM.mono (M := M) ⟨own_keep ho.1 (fun q cs _ hq => hc q cs _ n1 n2 hq), ho.2⟩ hM'
    obtain ⟨es1, cl1, hm1⟩ := a1.obj
    obtain ⟨es2, cl2, hm2⟩ := b1.obj
    refine ⟨fun q => M q ∨ nv.ownBlock = some q, ⟨hv, bm, br, k, k2, f, g, rv, sv, tv, R, Z, rw', (fun x => if x = l then ids' else ids x), (fun x => if x = l then nv else iv x), (hc _ _ _ (by decide) (by decide) hb).trans hb, hM' _ m1, hM' _ m2, hM' _ m3, hne, ⟨a1.same (hmap _ _ _ hm1), a2, fun id hi => ?_⟩, ⟨b1.same (hmap _ _ _ hm2), b2, fun l' v' hlv => ?_, b4, fun x y v1 v2 h1 h2 hxy => ⟨(b5 x y v1 v2 h1 h2 hxy).1, fun q hq => ?_⟩⟩, ⟨ok (by decide) (by decide) c1, c2, fun q hq => ⟨(c3 q hq).1.fm hF hMn, (c3 q hq).2.fm hF hMn⟩⟩, ⟨ok (by decide) (by decide) d1, d2, fun q hq => ⟨(d3 q hq).1.fm hF hMn, (d3 q hq).2.fm hF hMn⟩⟩, ok (by decide) (by decide) e1⟩, hMn, hM'⟩
    · have h0 := a3 id hi
      cases hq : Bas.look s.live id with
      | none => rw [hq] at h0; exact h0
      | some e =>
        rw [hq] at h0
        obtain ⟨a9, c9, k1, k2, k3⟩ := h0
        exact ⟨a9, c9, k1, k2.fm hF hMn, k3⟩
    · obtain ⟨p1, p2, ⟨go2, la2, p3, p4⟩, p5, p6, p7⟩ := b3 l' v' hlv
      by_cases hll : l' = l
      · subst hll
        simp only [if_true]
        exact ⟨p1, hM' _ p2, ⟨go', la', hrb, hgo, hla⟩, ⟨hown, fun q hq => .inr hq⟩, hocc, hsrt⟩
      · simp only [if_neg hll]
        have hb5 := b5 l' l v' _ hlv hg hll
        refine ⟨p1, hM' _ p2, ⟨go2, la2, (hk _ (lt_of_blk p3) hb5.1 (fun e => ?_)).trans p3, p4⟩, OwnM.mono (M := M) ⟨?_, p5.2⟩ hM', p6, p7⟩
        · obtain ⟨_, cur, h9⟩ := own_blk q5.1 e
          rw [h9] at p3
          injection p3 with p3; injection p3 with _ p3 _; cases p3
        · refine own_keep p5.1 (fun q cs hq1 hq => hk q (lt_of_blk hq) (fun e => ?_) (hb5.2 q hq1))
          rw [e, q3] at hq
          injection hq with hq; injection hq with _ hq _; cases hq
    · by_cases hx : x = l
      · subst hx
        have hyx : ¬ y = x := fun e => hxy e.symm
        simp only [if_true, if_neg hyx] at hq ⊢
        rcases hnew q hq with h9 | h9
        · exact (b5 x y v1 v2 h1 h2 hxy).2 q h9
        · intro e
          obtain ⟨_, cur, h8⟩ := own_blk (b3 y v2 h2).own.1 e
          have := lt_of_blk h8
          omega
      · simp only [if_neg hx] at hq
        by_cases hy : y = l
        · subst hy
          simp only [if_true]
          intro e
          rcases hnew q e with h9 | h9
          · exact (b5 x y v1 v2 h1 h2 hxy).2 q hq h9
          · obtain ⟨_, cur, h8⟩ := own_blk (b3 x v1 h1).own.1 hq
            have := lt_of_blk h8
            omega
        · simp only [if_neg hy]
          exact (b5 x y v1 v2 h1 h2 hxy).2 q hq
end Go.Proofs.YthpebfojkpnojaaGreat

/- A literal's row put away. -/
namespace Go.Proofs.YthpebfojkpnojaaGreat
open Go.RowKit Go.Maps
set_option linter.unusedVariables false
set_option linter.unusedSimpArgs false
set_option maxRecDepth 100000
/-- The map of rows loses a row of a literal that occurs nowhere, and nothing else turns. -/
theorem Bs.unrow {M : Nat → Prop} {bb K : Nat} {s : Bas.S} {W : World} (h : Bs M bb K s W) (l : Int) (hl : Bas.occ s.live l = []) : ∃ br k2 g, W.cell? ⟨bb, 4, none⟩ = some (.map (some br)) ∧ M br ∧ Mr W br k2 g ∧
    ∀ (W' : World), W.heap.size ≤ W'.heap.size → (∀ q, q < W.heap.size → q ≠ br → W'.heap[q]? = W.heap[q]?) → Mr W' br k2 (upd g l none) → Bs M bb K s W' := by
  obtain ⟨hv, bm, br, k, k2, f, g, rv, sv, tv, R, Z, rw', ids, iv, hb, m1, m2, m3, hne, ⟨a1, a2, a3⟩, ⟨b1, b2, b3, b4, b5⟩, ⟨c1, c2, c3⟩, ⟨d1, d2, d3⟩, e1⟩ := h
  refine ⟨br, k2, g, row_cell hb 4, m3, b1, fun W' hs hk hm => ?_⟩
  obtain ⟨es, cl, hbr⟩ := b1.obj
  have hc : ∀ (q : Nat) (cs : Array Value) (t : TypeId), W.heap[q]? = some (.cells cs t (0, 0)) → W'.heap[q]? = W.heap[q]? := fun q cs t hq => hk q (lt_of_blk hq) (fun e => by rw [e, hbr] at hq; cases hq)
  have hn : ∀ q, q < W.heap.size → ¬ M q → W'.heap[q]? = W.heap[q]? := fun q hq hnm => hk q hq (fun e => hnm (e ▸ m3))
  have hu : ∀ x v, upd g l none x = some v → g x = some v := fun x v hx => by
    by_cases e : x = l
    · simp [upd, e] at hx
    · simpa [upd, e] using hx
  refine ⟨hv, bm, br, k, k2, f, upd g l none, rv, sv, tv, R, Z, rw', ids, iv, (hc _ _ _ hb).trans hb, m1, m2, m3, hne, ⟨a1.same (hk bm a1.lt hne), a2, fun id hi => (a3 id hi).keep hs hn⟩, ⟨hm, b2, fun l' v hlv => ?_, fun l' hl' => ?_, fun x y v1 v2 h1 h2 hxy => b5 x y v1 v2 (hu _ _ h1) (hu _ _ h2) hxy⟩, ⟨c1.keep hc, c2, fun q hq => ⟨(c3 q hq).1.keep hs hn, (c3 q hq).2.keep hs hn⟩⟩, ⟨d1.keep hc, d2, fun q hq => ⟨(d3 q hq).1.keep hs hn, (d3 q hq).2.keep hs hn⟩⟩, e1.keep hc⟩
  · obtain ⟨q1, q2, ⟨go, la, q3, q4⟩, q5, q6, q7⟩ := b3 l' v (hu _ _ hlv)
    exact ⟨q1, q2, ⟨go, la, (hc _ _ _ q3).trans q3, q4⟩, q5.keep hc, q6, q7⟩
  · by_cases e : l' = l
    · rw [e]; exact hl
    · exact b4 l' (by simpa [upd, e] using hl')
end Go.Proofs.YthpebfojkpnojaaGreat

/- What leaving does to a literal's row: the memory's half, step by step. -/
namespace Go.Proofs.YthpebfojkpnojaaGreat
open Go.RowKit Go.Maps
set_option linter.unusedVariables false
set_option linter.unusedSimpArgs false
set_option maxRecDepth 100000
theorem RI.cap {k : IntKind} {lo hi : Int} {M M0 : Nat → Prop} {W : World} {a : Option Addr} {xs : List Int} (h : RI k lo hi M W a xs) (hm : ∀ g, M0 g → M g) : RI k lo hi M0 W a xs := ⟨h.1, fun b off e hne h2 => h.2 b off e hne (hm b h2)⟩
/-- M may be taken for what there is of it. -/
theorem Bs.cap {M : Nat → Prop} {bb K : Nat} {s : Bas.S} {W : World} (h : Bs M bb K s W) : Bs (fun g => M g ∧ g < W.heap.size) bb K s W := by
  obtain ⟨hv, bm, br, k, k2, f, g, rv, sv, tv, R, Z, rw', ids, iv, hb, m1, m2, m3, hne, ⟨a1, a2, a3⟩, ⟨b1, b2, b3, b4, b5⟩, ⟨c1, c2, c3⟩, ⟨d1, d2, d3⟩, e1⟩ := h
  have ok : ∀ {e size : Nat} {v : Value} {n : Nat} {xs : List Value}, OwnM M W e size v n xs → OwnM (fun g => M g ∧ g < W.heap.size) W e size v n xs := fun ho => ⟨ho.1, fun q hq => ⟨ho.2 q hq, by obtain ⟨_, cur, h9⟩ := own_blk ho.1 hq; exact lt_of_blk h9⟩⟩
  have hm : ∀ g, (fun g => M g ∧ g < W.heap.size) g → M g := fun g h => h.1
  refine ⟨hv, bm, br, k, k2, f, g, rv, sv, tv, R, Z, rw', ids, iv, hb, ⟨m1, lt_of_blk hb⟩, ⟨m2, a1.lt⟩, ⟨m3, b1.lt⟩, hne, ⟨a1, a2, fun id hi => ?_⟩, ⟨b1, b2, fun l v hlv => ?_, b4, b5⟩, ⟨ok c1, c2, fun q hq => ⟨(c3 q hq).1.cap hm, (c3 q hq).2.cap hm⟩⟩, ⟨ok d1, d2, fun q hq => ⟨(d3 q hq).1.cap hm, (d3 q hq).2.cap hm⟩⟩, ok e1⟩
  · have h0 := a3 id hi
    cases hq : Bas.look s.live id with
    | none => rw [hq] at h0; exact h0
    | some e =>
      rw [hq] at h0
      obtain ⟨a9, c9, k1, k2, k3⟩ := h0
      exact ⟨a9, c9, k1, k2.cap hm, k3⟩
  · obtain ⟨p1, p2, ⟨go, la, p3, p4⟩, p5, p6, p7⟩ := b3 l v hlv
    exact ⟨p1, ⟨p2, lt_of_blk p3⟩, ⟨go, la, p3, p4⟩, ok p5, p6, p7⟩
/-- The ids of a row that are live ones, by the base. -/
theorem Bs.alive {M : Nat → Prop} {bb K : Nat} {s : Bas.S} {W : World} (h : Bs M bb K s W) (hL : s.last ≤ 100000000) (ids : List Int) (o : Option Addr) (c : Nat) (ho : W.ownsRow 0 2 1 (.slice o ids.length c) ids.length (ids.map (Value.int .i64))) (hs : ids.Pairwise (· < ·) ∧ ∀ i ∈ ids, 0 < i ∧ i ≤ s.last) :
    Calls Tryz.prog 94 #[.pointer (some ⟨bb, 0, none⟩), .slice o ids.length c] W fun e w' => IntsOut W.heap.size (ids.filter (fun i => (Bas.look s.live i).isSome)) e w' ∧ Below W.heap.size W w' := by
  obtain ⟨hv, bm, br, k, k2, f, g, rv, sv, tv, R, Z, rw', idz, iv, hb, m1, m2, m3, hne, ⟨a1, a2, a3⟩, _⟩ := h
  have x3 : W.cell? ⟨bb, 3, none⟩ = some (.map (some bm)) := row_cell hb 3
  have hlen : ids.length ≤ 100000000 := by
    by_cases h0 : 0 ≤ s.last
    · have := sorted_len ids 0 s.last hs.1 hs.2 h0
      omega
    · cases ids with
      | nil => simp
      | cons x t => have := hs.2 x (List.mem_cons_self ..); omega
  have hf : ids.filter (fun i => (f i).isSome) = ids.filter (fun i => (Bas.look s.live i).isSome) := by
    apply List.filter_congr
    intro i hi
    have hi2 := hs.2 i hi
    have := a3 i ⟨by omega, by omega⟩
    cases hq : Bas.look s.live i with
    | none => rw [hq] at this; simp only [EntAt] at this; rw [this]; rfl
    | some d => rw [hq] at this; obtain ⟨_, _, e1, _⟩ := this; rw [e1]; rfl
  rw [← hf]
  exact alive41 x3 a1 (fun i v hi hfv => by
    have := a3 i hi
    rw [hfv] at this
    cases hq : Bas.look s.live i with
    | none => rw [hq] at this; cases this
    | some d => rw [hq] at this; obtain ⟨a9, c9, e1, _⟩ := this; injection e1 with e1; exact ⟨_, _, _, _, _, e1⟩) o ids.length c ids rfl hlen (own_row ho (fun i hi => by have := hs.2 i hi; omega))
/-- The row thinned out: what stands behind the call of alive, in its two stores and the delete. -/
def Thin (M : Nat → Prop) (bb K : Nat) (s : Bas.S) (W2 : World) (rb br : Nat) (l : Int) (W3 : World) (nv : Value) (n' : Nat) : Prop :=
  W3.cell? ⟨rb, 0, none⟩ ≠ none ∧ W3.frozen? ⟨rb, 0, none⟩ = false ∧ ∀ W3', W3.setCell ⟨rb, 0, none⟩ nv = W3' → W3'.cell? ⟨rb, 1, none⟩ ≠ none ∧ W3'.frozen? ⟨rb, 1, none⟩ = false ∧
    ∀ W4, W3'.setCell ⟨rb, 1, none⟩ (.int .i64 0) = W4 → W4.cell? ⟨rb, 0, none⟩ = some nv ∧ W4.cell? ⟨bb, 4, none⟩ = some (.map (some br)) ∧
      ∃ M', Bs M' bb K s W4 ∧ Fm M W2 W4 ∧ Mn W2 M M' ∧ (n' = 0 → ∃ W5, (Builtin.delete_ #[72, 66] 0 #[.map (some br), .int .i32 l]).run Tryz.prog W4 = .ok (.tuple #[]) W5 ∧ Bs M' bb K s W5 ∧ Fm M' W4 W5)
/-- What alive leaves, for a row. -/
def AliveOut (M : Nat → Prop) (bb K : Nat) (s : Bas.S) (W2 : World) (rb br : Nat) (l : Int) (e : Ending) (W3 : World) : Prop := ∃ o' n' c', e = .returned (.slice o' n' c') ∧ Thin M bb K s W2 rb br l W3 (.slice o' n' c') n'
/-- The row marked. -/
def Markd (M : Nat → Prop) (bb K : Nat) (s : Bas.S) (W : World) (rb br : Nat) (l : Int) (o : Option Addr) (n c : Nat) (go' : Int) (W2 : World) : Prop :=
  ∃ M', Bs M' bb K s W2 ∧ Fm M W W2 ∧ Mn W M M' ∧ W2.cell? ⟨rb, 0, none⟩ = some (.slice o n c) ∧ W2.cell? ⟨rb, 1, none⟩ = some (.int .i64 go') ∧
    Calls Tryz.prog 94 #[.pointer (some ⟨bb, 0, none⟩), .slice o n c] W2 (fun e W3 => AliveOut M' bb K s W2 rb br l e W3)
/-- Two marks written, in whatever order. -/
structure MarkW (W : World) (rb : Nat) (sv : Value) (go' id : Int) (W2 : World) : Prop where
  os : W2.os = W.os
  tape : W2.tape = W.tape
  output : W2.output = W.output
  size : W2.heap.size = W.heap.size
  block : ∀ q, q ≠ rb → W2.heap[q]? = W.heap[q]?
  row : W2.heap[rb]? = some (.cells #[sv, .int .i64 go', .int .i64 id] 88 (0, 0))
set_option maxHeartbeats 1000000 in
theorem Bs.rowAt {M : Nat → Prop} {bb K : Nat} {s : Bas.S} {W : World} (h : Bs M bb K s W) (hL : s.last ≤ 100000000) (l : Int) (hl : I32 l) (id : Int) (hid1 : I64 id) : ∃ br v ok, W.cell? ⟨bb, 4, none⟩ = some (.map (some br)) ∧ (Instr.lookup 72 (.map (some br)) (.int .i32 l) true).run Tryz.prog W = .ok (.tuple #[v, .bool ok]) W ∧
    (ok = false ∨ ok = true ∧ ∃ rb o c n go la, v = .pointer (some ⟨rb, 0, none⟩) ∧ (W.cell? ⟨rb, 0, none⟩ = some (.slice o n c) ∧ W.cell? ⟨rb, 1, none⟩ = some (.int .i64 go) ∧ W.cell? ⟨rb, 2, none⟩ = some (.int .i64 la) ∧ W.frozen? ⟨rb, 1, none⟩ = false ∧ W.frozen? ⟨rb, 2, none⟩ = false) ∧ n ≤ 100000000 ∧
      W.heap[rb]? = some (.cells #[.slice o n c, .int .i64 go, .int .i64 la] 88 (0, 0)) ∧ (∀ go', I64 go' → ∀ W2, MarkW W rb (.slice o n c) go' id W2 → Markd M bb K s W rb br l o n c go' W2)) := by
  obtain ⟨br, k2, g, x4, mbr, hMr, hcase⟩ := h.rowed l
  have hlk := hMr.look hl
  rcases hcase with hg | ⟨rb, o, c, go, la, ids, hg, hmrb, hrb, hgl, hown, hownM, hocc, hsrt, hfin⟩
  · rw [hg] at hlk
    exact ⟨br, _, false, x4, hlk, .inl rfl⟩
  · rw [hg] at hlk
    have hlen : ids.length ≤ 100000000 := by
      by_cases h0 : 0 ≤ s.last
      · have := sorted_len ids 0 s.last hsrt.1 hsrt.2 h0
        omega
      · cases ids with
        | nil => simp
        | cons x t => have := hsrt.2 x (List.mem_cons_self ..); omega
    have hobl : ∀ q, (Value.slice o ids.length c).ownBlock = some q → q ≠ rb := fun q hq e => by
      obtain ⟨_, cur, h9⟩ := own_blk hown hq
      rw [e, hrb] at h9
      injection h9 with h9; injection h9 with _ h9 _; cases h9
    refine ⟨br, _, true, x4, hlk, .inr ⟨rfl, rb, o, c, ids.length, go, la, rfl, ⟨row_cell hrb 0, row_cell hrb 1, row_cell hrb 2, row_frozen hrb 1, row_frozen hrb 2⟩, hlen, hrb, fun go' hgo' W2 hMW => ?_⟩⟩
    have h2 := hMW.row
    have hk2 := hMW.block
    have hs2 := hMW.size
    have hF2 : Fm M W W2 := ⟨hMW.os, hMW.tape, hMW.output, Nat.le_of_eq hs2.symm, fun q _ hq => hk2 q (fun e => hq (e ▸ hmrb))⟩
    have hown2 : W2.ownsRow 0 2 1 (.slice o ids.length c) ids.length (ids.map (Value.int .i64)) := own_keep hown (fun q cs hq _ => hk2 q (hobl q hq))
    obtain ⟨M', hB2, hN2, hM2⟩ := hfin W2 (.slice o ids.length c) ids go' id hgo' hid1 hF2 (fun q hq hne _ => hk2 q hne) h2 hown2 (fun q hq => .inl hq) hocc hsrt
    refine ⟨M', hB2, hF2, hN2, row_cell h2 0, row_cell h2 1, ?_⟩
    have x4' : W2.cell? ⟨bb, 4, none⟩ = some (.map (some br)) := by
      have hne : bb ≠ rb := fun e => by
        have := row_cell hrb 4
        rw [← e, x4] at this
        cases this
      rw [← x4]
      exact World.cell?_of_block (hk2 bb hne)
    refine (hB2.alive hL ids o c hown2 hsrt).mono ?_
    rintro e W3 ⟨⟨v, rfl, ho3⟩, hb3⟩
    rw [hocc] at ho3
    obtain ⟨o', c', rfl⟩ := own_slc ho3
    refine ⟨o', _, c', rfl, ?_⟩
    have h3 : W3.heap[rb]? = some (.cells #[.slice o ids.length c, .int .i64 go', .int .i64 id] 88 (0, 0)) := (hb3.block rb (lt_of_blk h2)).trans h2
    refine ⟨by rw [row_cell h3 0]; simp, row_frozen h3 0, fun W3' hW3' => ?_⟩
    generalize hnv : (Value.slice o' (Bas.occ s.live l).length c') = nv at *
    have h3' : W3'.heap[rb]? = some (.cells #[nv, .int .i64 go', .int .i64 id] 88 (0, 0)) := by rw [← hW3']; exact heap_set_row h3 _
    refine ⟨by rw [row_cell h3' 1]; simp, row_frozen h3' 1, fun W4 hW4 => ?_⟩
    have h4 : W4.heap[rb]? = some (.cells #[nv, .int .i64 0, .int .i64 id] 88 (0, 0)) := by rw [← hW4]; exact heap_set_row h3' _
    have hk4 : ∀ q, q ≠ rb → W4.heap[q]? = W3.heap[q]? := fun q hq => by rw [← hW4, ← hW3']; exact (heap_other _ _ hq).trans (heap_other _ _ hq)
    have hs4 : W4.heap.size = W3.heap.size := by rw [← hW4, ← hW3']; simp [World.setCell]
    have hlt2 : rb < W2.heap.size := lt_of_blk h2
    have hF24 : Fm M W2 W4 := by
      rw [← hW4, ← hW3']
      exact ((Fm.of_below hb3).trans (Fm.set W3 hmrb _) (Mn.refl _ _)).trans (Fm.set _ hmrb _) (Mn.refl _ _)
    have hF4 : Fm M W W4 := hF2.trans hF24 (Mn.refl _ _)
    have hnvb : ∀ q, nv.ownBlock = some q → W2.heap.size ≤ q := fun q hq => (own_blk ho3 hq).1
    have ho4 : W4.ownsRow 0 2 1 nv (Bas.occ s.live l).length ((Bas.occ s.live l).map (Value.int .i64)) := own_keep (own_base ho3 (Nat.zero_le _)) (fun q cs hq _ => hk4 q (by have := hnvb q hq; omega))
    obtain ⟨M4, hB4, hN4, hM4⟩ := hfin W4 nv (Bas.occ s.live l) 0 id ⟨by decide, by decide⟩ hid1 hF4 (fun q hq hne _ => ((hk4 q hne).trans (hb3.block q (by omega))).trans (hk2 q hne)) h4 ho4 (fun q hq => .inr (by have := hnvb q hq; omega)) (by rw [← hocc, List.filter_filter]; simp) ⟨by rw [← hocc]; exact hsrt.1.filter _, fun i hi => hsrt.2 i (by rw [← hocc] at hi; exact (List.mem_filter.1 hi).1)⟩
    have x44 : W4.cell? ⟨bb, 4, none⟩ = some (.map (some br)) := by
      have hne : bb ≠ rb := fun e => by
        have := row_cell hrb 4
        rw [← e, x4] at this
        cases this
      rw [← x4']
      exact World.cell?_of_block ((hk4 bb hne).trans (hb3.block bb (cell_lt x4')))
    refine ⟨row_cell h4 0, x44, M4, hB4, ?_, ?_, fun hn0 => ?_⟩
    · refine ⟨hF24.os, hF24.tape, hF24.output, hF24.size, fun q hq hn => hF24.block q hq (fun hm => hn (hM2 q hm))⟩
    · intro q hq
      rcases hN4 q hq with h9 | h9
      · exact .inl (hM2 q h9)
      · exact .inr (by omega)
    · obtain ⟨br4, k4, g4, y4, m4, hMr4, hfin4⟩ := hB4.unrow l (List.eq_nil_of_length_eq_zero hn0)
      rw [x44] at y4
      injection y4 with y4; injection y4 with y4; injection y4 with y4
      subst y4
      obtain ⟨W5, hr, hM5, hmt⟩ := hMr4.del hl 0
      have hblk : ∀ q, q < W4.heap.size → q ≠ br → W5.heap[q]? = W4.heap[q]? := fun q hq hne => hmt.grown.block q hq (fun e1 => hne (by simpa using e1))
      exact ⟨W5, hr, hfin4 W5 hmt.grown.size hblk hM5, hmt.grown.os, hmt.grown.tape, hmt.grown.output, hmt.grown.size, fun q hq hn => hblk q hq (fun e => hn (e ▸ m4))⟩
end Go.Proofs.YthpebfojkpnojaaGreat

