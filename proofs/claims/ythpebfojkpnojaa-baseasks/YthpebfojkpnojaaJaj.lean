/- What leaving does to a literal's row: the memory's half, step by step. -/
import Derived.Test.YthpebfojkpnojaaJai
import Derived.Test.YthpebfojkpnojaaJag
/- What leaving does to a literal's row: the memory's half, step by step. -/
namespace Go.Proofs.Ythpebfojkpnojaa
open Go.RowKit Go.Maps
set_option linter.unusedVariables false
set_option linter.unusedSimpArgs false
set_option maxRecDepth 100000
theorem RI.cap {k : IntKind} {lo hi : Int} {M M0 : Nat → Prop} {W : World} {a : Option Addr} {xs : List Int} (h : RI k lo hi M W a xs) (hm : ∀ g, M0 g → M g) : RI k lo hi M0 W a xs := ⟨h.1, fun b off e hne h2 => h.2 b off e hne (hm b h2)⟩
/-- M may be taken for what there is of it. -/
theorem Bs.cap {M : Nat → Prop} {bb K : Nat} {s : Bas.S} {W : World} (h : Bs M bb K s W) : Bs (fun g => M g ∧ g < W.heap.size) bb K s W := by
  obtain ⟨hv, bm, br, k, k2, f, g, rv, sv, tv, R, Z, rw', ids, iv, hb, m1, m2, m3, hne, ⟨a1, a2, a3⟩, ⟨b1, b2, b3, b4, b5⟩, ⟨c1, c2, c3⟩, ⟨d1, d2, d3⟩, e1⟩ := h
  have ok : ∀ {e size : Nat} {v : Value} {n : Nat} {xs : List Value}, OwnM M W e size v n xs → OwnM (fun g => M g ∧ g < W.heap.size) W e size v n xs := fun ho => ⟨ho.1, fun q hq => ⟨ho.2 q hq, by obtain ⟨_, cur, h9⟩ := own_blk ho.1 hq; exact lt_of_blk h9⟩⟩
  have hm : ∀ g, (fun g => M g ∧ g < W.heap.size) g → M g := fun g h => h.1
  refine ⟨hv, bm, br, k, k2, f, g, rv, sv, tv, R, Z, rw', ids, iv, hb, ⟨m1, lt_of_blk hb⟩, ⟨m2, a1.lt⟩, ⟨m3, b1.lt⟩, hne, ⟨a1, a2, fun id hi => ?_⟩, ⟨b1, b2, fun l v hlv => ?_, b4, b5⟩, ⟨ok c1, c2, fun q hq => ⟨(c3 q hq).1.cap hm, (c3 q hq).2.cap hm⟩⟩, ⟨ok d1, d2, fun q hq => ⟨(d3 q hq).1.cap hm, (d3 q hq).2.cap hm⟩⟩, ok e1⟩
  · have h0 := a3 id hi
    cases hq : Bas.look s.live id with
    | none => rw [hq] at h0; exact h0
    | some e =>
      rw [hq] at h0
      obtain ⟨a9, c9, k1, k2, k3⟩ := h0
      exact ⟨a9, c9, k1, k2.cap hm, k3⟩
  · obtain ⟨p1, p2, ⟨go, la, p3, p4⟩, p5, p6, p7⟩ := b3 l v hlv
    exact ⟨p1, ⟨p2, lt_of_blk p3⟩, ⟨go, la, p3, p4⟩, ok p5, p6, p7⟩
/-- The ids of a row that are live ones, by the base. -/
theorem Bs.alive {M : Nat → Prop} {bb K : Nat} {s : Bas.S} {W : World} (h : Bs M bb K s W) (hL : s.last ≤ 100000000) (ids : List Int) (o : Option Addr) (c : Nat) (ho : W.ownsRow 0 2 1 (.slice o ids.length c) ids.length (ids.map (Value.int .i64))) (hs : ids.Pairwise (· < ·) ∧ ∀ i ∈ ids, 0 < i ∧ i ≤ s.last) :
    Calls Try.prog 41 #[.pointer (some ⟨bb, 0, none⟩), .slice o ids.length c] W fun e w' => IntsOut W.heap.size (ids.filter (fun i => (Bas.look s.live i).isSome)) e w' ∧ Below W.heap.size W w' := by
  obtain ⟨hv, bm, br, k, k2, f, g, rv, sv, tv, R, Z, rw', idz, iv, hb, m1, m2, m3, hne, ⟨a1, a2, a3⟩, _⟩ := h
  have x3 : W.cell? ⟨bb, 3, none⟩ = some (.map (some bm)) := row_cell hb 3
  have hlen : ids.length ≤ 100000000 := by
    by_cases h0 : 0 ≤ s.last
    · have := sorted_len ids 0 s.last hs.1 hs.2 h0
      omega
    · cases ids with
      | nil => simp
      | cons x t => have := hs.2 x (List.mem_cons_self ..); omega
  have hf : ids.filter (fun i => (f i).isSome) = ids.filter (fun i => (Bas.look s.live i).isSome) := by
    apply List.filter_congr
    intro i hi
    have hi2 := hs.2 i hi
    have := a3 i ⟨by omega, by omega⟩
    cases hq : Bas.look s.live i with
    | none => rw [hq] at this; simp only [EntAt] at this; rw [this]; rfl
    | some d => rw [hq] at this; obtain ⟨_, _, e1, _⟩ := this; rw [e1]; rfl
  rw [← hf]
  exact alive41 x3 a1 (fun i v hi hfv => by
    have := a3 i hi
    rw [hfv] at this
    cases hq : Bas.look s.live i with
    | none => rw [hq] at this; cases this
    | some d => rw [hq] at this; obtain ⟨a9, c9, e1, _⟩ := this; injection e1 with e1; exact ⟨_, _, _, _, _, e1⟩) o ids.length c ids rfl hlen (own_row ho (fun i hi => by have := hs.2 i hi; omega))
/-- The row thinned out: what stands behind the call of alive, in its two stores and the delete. -/
def Thin (M : Nat → Prop) (bb K : Nat) (s : Bas.S) (W2 : World) (rb br : Nat) (l : Int) (W3 : World) (nv : Value) (n' : Nat) : Prop :=
  W3.cell? ⟨rb, 0, none⟩ ≠ none ∧ W3.frozen? ⟨rb, 0, none⟩ = false ∧ ∀ W3', W3.setCell ⟨rb, 0, none⟩ nv = W3' → W3'.cell? ⟨rb, 1, none⟩ ≠ none ∧ W3'.frozen? ⟨rb, 1, none⟩ = false ∧
    ∀ W4, W3'.setCell ⟨rb, 1, none⟩ (.int .i64 0) = W4 → W4.cell? ⟨rb, 0, none⟩ = some nv ∧ W4.cell? ⟨bb, 4, none⟩ = some (.map (some br)) ∧
      ∃ M', Bs M' bb K s W4 ∧ Fm M W2 W4 ∧ Mn W2 M M' ∧ (n' = 0 → ∃ W5, (Builtin.delete_ #[76, 45] 0 #[.map (some br), .int .i32 l]).run Try.prog W4 = .ok (.tuple #[]) W5 ∧ Bs M' bb K s W5 ∧ Fm M' W4 W5)
/-- What alive leaves, for a row. -/
def AliveOut (M : Nat → Prop) (bb K : Nat) (s : Bas.S) (W2 : World) (rb br : Nat) (l : Int) (e : Ending) (W3 : World) : Prop := ∃ o' n' c', e = .returned (.slice o' n' c') ∧ Thin M bb K s W2 rb br l W3 (.slice o' n' c') n'
/-- The row marked. -/
def Markd (M : Nat → Prop) (bb K : Nat) (s : Bas.S) (W : World) (rb br : Nat) (l : Int) (o : Option Addr) (n c : Nat) (go' : Int) (W2 : World) : Prop :=
  ∃ M', Bs M' bb K s W2 ∧ Fm M W W2 ∧ Mn W M M' ∧ W2.cell? ⟨rb, 0, none⟩ = some (.slice o n c) ∧ W2.cell? ⟨rb, 1, none⟩ = some (.int .i64 go') ∧
    Calls Try.prog 41 #[.pointer (some ⟨bb, 0, none⟩), .slice o n c] W2 (fun e W3 => AliveOut M' bb K s W2 rb br l e W3)
/-- Two marks written, in whatever order. -/
structure MarkW (W : World) (rb : Nat) (sv : Value) (go' id : Int) (W2 : World) : Prop where
  os : W2.os = W.os
  tape : W2.tape = W.tape
  output : W2.output = W.output
  size : W2.heap.size = W.heap.size
  block : ∀ q, q ≠ rb → W2.heap[q]? = W.heap[q]?
  row : W2.heap[rb]? = some (.cells #[sv, .int .i64 go', .int .i64 id] 92 (0, 0))
set_option maxHeartbeats 1000000 in
theorem Bs.rowAt {M : Nat → Prop} {bb K : Nat} {s : Bas.S} {W : World} (h : Bs M bb K s W) (hL : s.last ≤ 100000000) (l : Int) (hl : I32 l) (id : Int) (hid1 : I64 id) : ∃ br v ok, W.cell? ⟨bb, 4, none⟩ = some (.map (some br)) ∧ (Instr.lookup 76 (.map (some br)) (.int .i32 l) true).run Try.prog W = .ok (.tuple #[v, .bool ok]) W ∧
    (ok = false ∨ ok = true ∧ ∃ rb o c n go la, v = .pointer (some ⟨rb, 0, none⟩) ∧ (W.cell? ⟨rb, 0, none⟩ = some (.slice o n c) ∧ W.cell? ⟨rb, 1, none⟩ = some (.int .i64 go) ∧ W.cell? ⟨rb, 2, none⟩ = some (.int .i64 la) ∧ W.frozen? ⟨rb, 1, none⟩ = false ∧ W.frozen? ⟨rb, 2, none⟩ = false) ∧ n ≤ 100000000 ∧
      W.heap[rb]? = some (.cells #[.slice o n c, .int .i64 go, .int .i64 la] 92 (0, 0)) ∧ (∀ go', I64 go' → ∀ W2, MarkW W rb (.slice o n c) go' id W2 → Markd M bb K s W rb br l o n c go' W2)) := by
  obtain ⟨br, k2, g, x4, mbr, hMr, hcase⟩ := h.rowed l
  have hlk := hMr.look hl
  rcases hcase with hg | ⟨rb, o, c, go, la, ids, hg, hmrb, hrb, hgl, hown, hownM, hocc, hsrt, hfin⟩
  · rw [hg] at hlk
    exact ⟨br, _, false, x4, hlk, .inl rfl⟩
  · rw [hg] at hlk
    have hlen : ids.length ≤ 100000000 := by
      by_cases h0 : 0 ≤ s.last
      · have := sorted_len ids 0 s.last hsrt.1 hsrt.2 h0
        omega
      · cases ids with
        | nil => simp
        | cons x t => have := hsrt.2 x (List.mem_cons_self ..); omega
    have hobl : ∀ q, (Value.slice o ids.length c).ownBlock = some q → q ≠ rb := fun q hq e => by
      obtain ⟨_, cur, h9⟩ := own_blk hown hq
      rw [e, hrb] at h9
      injection h9 with h9; injection h9 with _ h9 _; cases h9
    refine ⟨br, _, true, x4, hlk, .inr ⟨rfl, rb, o, c, ids.length, go, la, rfl, ⟨row_cell hrb 0, row_cell hrb 1, row_cell hrb 2, row_frozen hrb 1, row_frozen hrb 2⟩, hlen, hrb, fun go' hgo' W2 hMW => ?_⟩⟩
    have h2 := hMW.row
    have hk2 := hMW.block
    have hs2 := hMW.size
    have hF2 : Fm M W W2 := ⟨hMW.os, hMW.tape, hMW.output, Nat.le_of_eq hs2.symm, fun q _ hq => hk2 q (fun e => hq (e ▸ hmrb))⟩
    have hown2 : W2.ownsRow 0 2 1 (.slice o ids.length c) ids.length (ids.map (Value.int .i64)) := own_keep hown (fun q cs hq _ => hk2 q (hobl q hq))
    obtain ⟨M', hB2, hN2, hM2⟩ := hfin W2 (.slice o ids.length c) ids go' id hgo' hid1 hF2 (fun q hq hne _ => hk2 q hne) h2 hown2 (fun q hq => .inl hq) hocc hsrt
    refine ⟨M', hB2, hF2, hN2, row_cell h2 0, row_cell h2 1, ?_⟩
    have x4' : W2.cell? ⟨bb, 4, none⟩ = some (.map (some br)) := by
      have hne : bb ≠ rb := fun e => by
        have := row_cell hrb 4
        rw [← e, x4] at this
        cases this
      rw [← x4]
      exact World.cell?_of_block (hk2 bb hne)
    refine (hB2.alive hL ids o c hown2 hsrt).mono ?_
    rintro e W3 ⟨⟨v, rfl, ho3⟩, hb3⟩
    rw [hocc] at ho3
    obtain ⟨o', c', rfl⟩ := own_slc ho3
    refine ⟨o', _, c', rfl, ?_⟩
    have h3 : W3.heap[rb]? = some (.cells #[.slice o ids.length c, .int .i64 go', .int .i64 id] 92 (0, 0)) := (hb3.block rb (lt_of_blk h2)).trans h2
    refine ⟨by rw [row_cell h3 0]; simp, row_frozen h3 0, fun W3' hW3' => ?_⟩
    generalize hnv : (Value.slice o' (Bas.occ s.live l).length c') = nv at *
    have h3' : W3'.heap[rb]? = some (.cells #[nv, .int .i64 go', .int .i64 id] 92 (0, 0)) := by rw [← hW3']; exact heap_set_row h3 _
    refine ⟨by rw [row_cell h3' 1]; simp, row_frozen h3' 1, fun W4 hW4 => ?_⟩
    have h4 : W4.heap[rb]? = some (.cells #[nv, .int .i64 0, .int .i64 id] 92 (0, 0)) := by rw [← hW4]; exact heap_set_row h3' _
    have hk4 : ∀ q, q ≠ rb → W4.heap[q]? = W3.heap[q]? := fun q hq => by rw [← hW4, ← hW3']; exact (heap_other _ _ hq).trans (heap_other _ _ hq)
    have hs4 : W4.heap.size = W3.heap.size := by rw [← hW4, ← hW3']; simp [World.setCell]
    have hlt2 : rb < W2.heap.size := lt_of_blk h2
    have hF24 : Fm M W2 W4 := by
      rw [← hW4, ← hW3']
      exact ((Fm.of_below hb3).trans (Fm.set W3 hmrb _) (Mn.refl _ _)).trans (Fm.set _ hmrb _) (Mn.refl _ _)
    have hF4 : Fm M W W4 := hF2.trans hF24 (Mn.refl _ _)
    have hnvb : ∀ q, nv.ownBlock = some q → W2.heap.size ≤ q := fun q hq => (own_blk ho3 hq).1
    have ho4 : W4.ownsRow 0 2 1 nv (Bas.occ s.live l).length ((Bas.occ s.live l).map (Value.int .i64)) := own_keep (own_base ho3 (Nat.zero_le _)) (fun q cs hq _ => hk4 q (by have := hnvb q hq; omega))
    obtain ⟨M4, hB4, hN4, hM4⟩ := hfin W4 nv (Bas.occ s.live l) 0 id ⟨by decide, by decide⟩ hid1 hF4 (fun q hq hne _ => ((hk4 q hne).trans (hb3.block q (by omega))).trans (hk2 q hne)) h4 ho4 (fun q hq => .inr (by have := hnvb q hq; omega)) (by rw [← hocc, List.filter_filter]; simp) ⟨by rw [← hocc]; exact hsrt.1.filter _, fun i hi => hsrt.2 i (by rw [← hocc] at hi; exact (List.mem_filter.1 hi).1)⟩
    have x44 : W4.cell? ⟨bb, 4, none⟩ = some (.map (some br)) := by
      have hne : bb ≠ rb := fun e => by
        have := row_cell hrb 4
        rw [← e, x4] at this
        cases this
      rw [← x4']
      exact World.cell?_of_block ((hk4 bb hne).trans (hb3.block bb (cell_lt x4')))
    refine ⟨row_cell h4 0, x44, M4, hB4, ?_, ?_, fun hn0 => ?_⟩
    · refine ⟨hF24.os, hF24.tape, hF24.output, hF24.size, fun q hq hn => hF24.block q hq (fun hm => hn (hM2 q hm))⟩
    · intro q hq
      rcases hN4 q hq with h9 | h9
      · exact .inl (hM2 q h9)
      · exact .inr (by omega)
    · obtain ⟨br4, k4, g4, y4, m4, hMr4, hfin4⟩ := hB4.unrow l (List.eq_nil_of_length_eq_zero hn0)
      rw [x44] at y4
      injection y4 with y4; injection y4 with y4; injection y4 with y4
      subst y4
      obtain ⟨W5, hr, hM5, hmt⟩ := hMr4.del hl 0
      have hblk : ∀ q, q < W4.heap.size → q ≠ br → W5.heap[q]? = W4.heap[q]? := fun q hq hne => hmt.grown.block q hq (fun e1 => hne (by simpa using e1))
      exact ⟨W5, hr, hfin4 W5 hmt.grown.size hblk hM5, hmt.grown.os, hmt.grown.tape, hmt.grown.output, hmt.grown.size, fun q hq hn => hblk q hq (fun e => hn (e ▸ m4))⟩
end Go.Proofs.Ythpebfojkpnojaa

/- A check's beginning and end: the memory's half. -/
namespace Go.Proofs.Ythpebfojkpnojaa
open Go.RowKit Go.Maps
set_option linter.unusedVariables false
set_option linter.unusedSimpArgs false
set_option maxRecDepth 100000
/-- The truths' row, and what may be done to it alone. -/
theorem Bs.truths {M : Nat → Prop} {bb K : Nat} {s : Bas.S} {W : World} (h : Bs M bb K s W) : ∃ gt ct, M gt ∧ W.cell? ⟨bb, 8, none⟩ = some (.slice (some ⟨gt, 0, none⟩) (s.vars.toNat + 1) ct) ∧ bb ≠ gt ∧ gt < W.heap.size ∧ TrW gt (s.vars.toNat + 1) ct (List.replicate (s.vars.toNat + 1) 0) W W ∧
    ∀ W' : World, W'.os = W.os → W'.tape = W.tape → W'.output = W.output → W.heap.size ≤ W'.heap.size → (∀ q, q < W.heap.size → q ≠ gt → W'.heap[q]? = W.heap[q]?) → (∃ cur : Array Value, W'.heap[gt]? = some (.cells cur 45 (0, 0)) ∧ cur.size = ct ∧ s.vars.toNat + 1 ≤ ct ∧ (List.replicate (s.vars.toNat + 1) (0 : Int)).length = s.vars.toNat + 1 ∧ cur.toList.take (s.vars.toNat + 1) = (List.replicate (s.vars.toNat + 1) (0 : Int)).map (Value.int .i32)) →
      Bs M bb K s W' ∧ Fm M W W' := by
  obtain ⟨hv, bm, br, k, k2, f, g, rv, sv, tv, R, Z, rw', ids, iv, hb, m1, m2, m3, hne, ⟨a1, a2, a3⟩, ⟨b1, b2, b3, b4, b5⟩, ⟨c1, c2, c3⟩, ⟨d1, d2, d3⟩, e1⟩ := h
  obtain ⟨gt, ct, cur, rfl, _, h2, h3, h4, h5, h6⟩ := own_some e1.1 (by omega)
  have hMg : M gt := e1.2 gt rfl
  have hbg : bb ≠ gt := fun e => by
    rw [e, h2] at hb
    injection hb with hb; injection hb with _ hb _; cases hb
  refine ⟨gt, ct, hMg, row_cell hb 8, hbg, lt_of_blk h2, ⟨rfl, rfl, rfl, rfl, fun _ _ => rfl, cur, h2, h5, h3, by simp, by rw [h6, List.map_replicate]⟩, fun W' q1 q2 q3 hs hk ⟨cur', r1, r2, _, _, r5⟩ => ?_⟩
  have hcl : ∀ (q : Nat) (cs : Array Value) (t : TypeId), t ≠ 45 → W.heap[q]? = some (.cells cs t (0, 0)) → W'.heap[q]? = W.heap[q]? := fun q cs t ht hq => hk q (lt_of_blk hq) (fun e => by
    rw [e, h2] at hq
    injection hq with hq; injection hq with _ hq _; exact ht hq.symm)
  have hmap : ∀ (q : Nat) es cl, W.heap[q]? = some (.map es cl) → W'.heap[q]? = W.heap[q]? := fun q es cl hq => hk q (lt_of_blk hq) (fun e => by rw [e, h2] at hq; cases hq)
  have hn : ∀ q, q < W.heap.size → ¬ M q → W'.heap[q]? = W.heap[q]? := fun q hq hnm => hk q hq (fun e => hnm (e ▸ hMg))
  have ok : ∀ {e size : Nat} {v : Value} {n : Nat} {xs : List Value}, e ≠ 45 → OwnM M W e size v n xs → OwnM M W' e size v n xs := fun n1 ho => ⟨own_keep ho.1 (fun q cs _ hq => hcl q cs _ n1 hq), ho.2⟩
  obtain ⟨es1, cl1, hm1⟩ := a1.obj
  obtain ⟨es2, cl2, hm2⟩ := b1.obj
  refine ⟨⟨hv, bm, br, k, k2, f, g, rv, sv, _, R, Z, rw', ids, iv, (hcl _ _ _ (by decide) hb).trans hb, m1, m2, m3, hne, ⟨a1.same (hmap _ _ _ hm1), a2, fun id hi => (a3 id hi).keep hs hn⟩, ⟨b1.same (hmap _ _ _ hm2), b2, fun l v hlv => ?_, b4, b5⟩, ⟨ok (by decide) c1, c2, fun q hq => ⟨(c3 q hq).1.keep hs hn, (c3 q hq).2.keep hs hn⟩⟩, ⟨ok (by decide) d1, d2, fun q hq => ⟨(d3 q hq).1.keep hs hn, (d3 q hq).2.keep hs hn⟩⟩, ⟨own_mk (Nat.zero_le _) r1 h3 h4 r2 (by rw [r5, List.map_replicate]), e1.2⟩⟩, q1, q2, q3, hs, hn⟩
  obtain ⟨p1, p2, ⟨go, la, p3, p4⟩, p5, p6, p7⟩ := b3 l v hlv
  exact ⟨p1, p2, ⟨go, la, (hcl _ _ _ (by decide) p3).trans p3, p4⟩, ok (by decide) p5, p6, p7⟩
/-- A check begins. -/
theorem Chk.new {bb gt m cz : Nat} {W : World} (h : TrW gt m cz (List.replicate m 0) W W) (hg : gt < W.heap.size) :
    Chk bb W.heap.size (W.heap.size + 1) gt m cz (List.replicate m 0) [] W ((W.alloc (.cells #[.pointer (some ⟨bb, 0, none⟩)] 27)).alloc (.cells #[.slice none 0 0] 23)) := by
  have hb1 := below_box W (.cells #[.pointer (some ⟨bb, 0, none⟩)] 27)
  have hb2 := below_box (W.alloc (.cells #[.pointer (some ⟨bb, 0, none⟩)] 27)) (.cells #[.slice none 0 0] 23)
  have hs1 : (W.alloc (.cells #[.pointer (some ⟨bb, 0, none⟩)] 27)).heap.size = W.heap.size + 1 := by simp
  have hb : Below W.heap.size W ((W.alloc (.cells #[.pointer (some ⟨bb, 0, none⟩)] 27)).alloc (.cells #[.slice none 0 0] 23)) := box_below _ _ hb2
  have hn1 := heap_alloc_new W (.cells #[.pointer (some ⟨bb, 0, none⟩)] 27)
  have hn2 := heap_alloc_new (W.alloc (.cells #[.pointer (some ⟨bb, 0, none⟩)] 27)) (.cells #[.slice none 0 0] 23)
  rw [hs1] at hn2 hb2
  obtain ⟨cur, r1, r2⟩ := h.row
  exact ⟨hb.os, hb.tape, hb.output, hb.size, fun q hq _ => hb.block q hq, ⟨cur, (hb.block gt hg).trans r1, r2⟩, (hb2.block W.heap.size (by omega)).trans hn1, ⟨_, hn2, World.ownsRow_nil _ _ _ _⟩, by omega, by omega, hg⟩
/-- A check ends. -/
theorem Chk.leave {bb pb fb gt m cz ct : Nat} {ts T : List Int} {W0 W : World} (h : Chk bb pb fb gt m cz ts T W0 W) (h8 : W0.cell? ⟨bb, 8, none⟩ = some (.slice (some ⟨gt, 0, none⟩) m ct)) (hne : bb ≠ gt) (hmm : m ≤ 1048577) (hT : Bas.Tru T ts) (hTl : T.length ≤ 1000000000) (hTb : ∀ x ∈ T, I32 x ∧ 1 ≤ Bas.vr x ∧ Bas.vr x < m) (h00 : ts.getD 0 0 = 0) (u : FrameMode) :
    CallsD Try.prog 51 #[.pointer (some ⟨fb, 0, none⟩), .pointer (some ⟨pb, 0, none⟩)] u W fun e u' w' => u' = u ∧ e = .returned (.tuple #[]) ∧ TrW gt m cz (List.replicate m 0) W w' := by
  obtain ⟨sv, f1, f2⟩ := h.fnd
  obtain ⟨o, c, rfl⟩ := own_slc f2
  have h1 := h.at_
  have hlen : ts.length = m := by obtain ⟨cur, _, _, _, h9, _⟩ := h.row; exact h9
  have hU : Bas.untake ts T = List.replicate m 0 := by
    rw [← hlen]
    refine Bas.untake_all hT (fun v hv hz => ?_)
    rcases Nat.eq_zero_or_pos v with rfl | hp
    · exact absurd h00 hz
    · exact hp
  have := untake51D u (h.x8 h8 hne) (row_cell h.pbx 0) o T.length c (row_cell f1 0) h.trw hne (by omega) (by omega) T rfl (by omega) hmm (own_row f2 (fun x hx => (hTb x hx).1)) (fun b off e hn e2 => by
    rcases f2.2 with ⟨_, h0⟩ | ⟨g, c', cur, e1, h9, _⟩
    · exact hn (List.eq_nil_of_length_eq_zero h0)
    · injection e1 with e1 _ _
      rw [e] at e1
      injection e1 with e1; injection e1 with e1
      omega) (fun x hx => (hTb x hx).2)
  rw [hU] at this
  exact this
end Go.Proofs.Ythpebfojkpnojaa

/- A check's steps, plainly; a check where the world drew. -/
namespace Bas
theorem vr_neg (l : Int) : vr (-l) = vr l := by unfold vr; split <;> split <;> omega
/-- What the truths' row says of a literal: true, false, or neither. -/
theorem tru_cases {T ts : List Int} (h : Tru T.reverse ts) {l : Int} (h1 : 1 ≤ vr l) (h2 : vr l < ts.length) :
    (ts.getD (vr l).toNat 0 = l ∧ l ∈ T) ∨ (ts.getD (vr l).toNat 0 = -l ∧ -l ∈ T ∧ l ∉ T) ∨ (ts.getD (vr l).toNat 0 = 0 ∧ l ∉ T ∧ -l ∉ T) := by
  have a := h.at_ l h1 h2
  have b := h.at_ (-l) (by rw [vr_neg]; exact h1) (by rw [vr_neg]; exact h2)
  rw [vr_neg] at b
  rw [List.mem_reverse] at a b
  have hl0 : l ≠ 0 := fun e => by rw [e] at h1; unfold vr at h1; simp at h1
  rcases h.free (vr l).toNat (by omega) with h3 | h3
  · right; right
    rw [h3] at a b
    exact ⟨h3, fun e => hl0 (a.2 e).symm, fun e => hl0 (by have := b.2 e; omega)⟩
  · generalize ts.getD (vr l).toNat 0 = t at *
    have h4 : t = l ∨ t = -l := by unfold vr at h3 h1; split at h3 <;> split at h3 <;> omega
    by_cases h5 : t = l
    · exact .inl ⟨h5, a.1 h5⟩
    · rcases h4 with h4 | h4
      · exact absurd h4 h5
      · exact .inr (.inl ⟨h4, b.1 h4, fun e => h5 (a.2 e)⟩)
theorem denyP_true {T : List Int} {l : Int} (c : List Int) (h : l ∈ T) : denyP T (l :: c) = none := by rw [denyP, if_pos h]
theorem denyP_false {T : List Int} {l : Int} (c : List Int) (h : l ∉ T) (h2 : -l ∈ T) : denyP T (l :: c) = denyP T c := by rw [denyP, if_neg h, if_pos h2]
theorem denyP_free {T : List Int} {l : Int} (c : List Int) (h : l ∉ T) (h2 : -l ∉ T) : denyP T (l :: c) = denyP (-l :: T) c := by rw [denyP, if_neg h, if_neg h2]
end Bas
namespace Go.Proofs.Ythpebfojkpnojaa
open Go.RowKit Go.Maps
set_option linter.unusedVariables false
theorem Chk.below {bb pb fb gt m cz : Nat} {ts T : List Int} {W0 W W' : World} (h : Chk bb pb fb gt m cz ts T W0 W) (hb : Below W.heap.size W W') : Chk bb pb fb gt m cz ts T W0 W' := by
  obtain ⟨sv, f1, f2⟩ := h.fnd
  obtain ⟨cur, r1, r2⟩ := h.row
  exact ⟨hb.os.trans h.os, hb.tape.trans h.tape, hb.output.trans h.output, Nat.le_trans h.size hb.size, fun q hq hne => (hb.block q (Nat.lt_of_lt_of_le hq h.size)).trans (h.block q hq hne), ⟨cur, (hb.block gt (lt_of_blk r1)).trans r1, r2⟩, (hb.block pb (lt_of_blk h.pbx)).trans h.pbx, ⟨sv, (hb.block fb (lt_of_blk f1)).trans f1, own_below f2 hb⟩, h.at_⟩
end Go.Proofs.Ythpebfojkpnojaa

/- A check's hints: what stands under an id, and the rows that it reads. -/
namespace Go.Proofs.Ythpebfojkpnojaa
open Go.RowKit Go.Maps
set_option linter.unusedVariables false
set_option linter.unusedSimpArgs false
theorem Chk.row_ {k : IntKind} {lo hi : Int} {M : Nat → Prop} {bb pb fb gt m cz : Nat} {ts T : List Int} {W X : World} {a : Option Addr} {xs : List Int} (hc : Chk bb pb fb gt m cz ts T W X) (hMg : M gt) (h : RI k lo hi M W a xs) : Row k lo hi X a xs := by
  obtain ⟨⟨h1, h2⟩, h3⟩ := h
  refine ⟨h1, ?_⟩
  by_cases hx : xs = []
  · exact .inl hx
  · rcases h2 with h2 | ⟨b, off, e, hl, h4⟩
    · exact absurd h2 hx
    · exact .inr ⟨b, off, e, Nat.lt_of_lt_of_le hl hc.size, fun j hj => (World.cell?_of_block (w := W) (a := ⟨b, off + j, none⟩) (hc.block b hl (fun e2 => h3 b off e hx (e2 ▸ hMg)))).trans (h4 j hj)⟩
theorem Chk.ent {M : Nat → Prop} {bb K pb fb gt m cz : Nat} {s : Bas.S} {ts T : List Int} {W X : World} (h : Bs M bb K s W) (hMg : M gt) (hc : Chk bb pb fb gt m cz ts T W X) (hT0 : TrW gt m cz (List.replicate m 0) W W) (id : Int) (hi : I64 id) :
    ∃ bm v, X.cell? ⟨bb, 3, none⟩ = some (.map (some bm)) ∧ (Instr.lookup 75 (.map (some bm)) (.int .i64 id) true).run Try.prog X = .ok (.tuple #[v, .bool (Bas.look s.live id).isSome]) X ∧
      (Bas.look s.live id = none → v = .agg #[.int .i64 0, .slice none 0 0, .bool false]) ∧ (∀ e, Bas.look s.live id = some e → ∃ a c, v = .agg #[.int .i64 e.id, .slice a e.lits.length c, .bool e.red] ∧ Lits X a e.lits) := by
  obtain ⟨hv, bm, br, k, k2, f, g, rv, sv, tv, R, Z, rw', ids, iv, hb, m1, m2, m3, hne, ⟨a1, a2, a3⟩, _⟩ := h
  obtain ⟨cur, r1, _⟩ := hT0.row
  have hbg : bb ≠ gt := fun e => by
    rw [e, r1] at hb
    injection hb with hb; injection hb with _ hb _; cases hb
  have hbm : bm ≠ gt := fun e => by
    obtain ⟨es, cl, h9⟩ := a1.obj
    rw [e, r1] at h9; cases h9
  have hlk := (a1.same (hc.block bm a1.lt hbm)).look hi
  have hE := a3 id hi
  refine ⟨bm, (f id).getD (.agg #[.int .i64 0, .slice none 0 0, .bool false]), (World.cell?_of_block (a := ⟨bb, 3, none⟩) (hc.block bb (lt_of_blk hb) hbg)).trans (row_cell hb 3), ?_, ?_, ?_⟩
  · rw [hlk]
    cases he : Bas.look s.live id with
    | none => rw [he] at hE; simp only [EntAt] at hE; rw [hE]; rfl
    | some e => rw [he] at hE; obtain ⟨a9, c9, hf, _⟩ := hE; rw [hf]; rfl
  · intro he
    rw [he] at hE; simp only [EntAt] at hE; rw [hE]; rfl
  · intro e he
    rw [he] at hE
    obtain ⟨a9, c9, hf, hr, _⟩ := hE
    exact ⟨a9, c9, by rw [hf]; rfl, hc.row_ hMg hr⟩
end Go.Proofs.Ythpebfojkpnojaa

