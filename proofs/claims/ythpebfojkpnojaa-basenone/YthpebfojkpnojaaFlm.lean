/- A check's beginning and end: the memory's half. -/
import Derived.Test.YthpebfojkpnojaaUtd
import Derived.Test.YthpebfojkpnojaaLvm
namespace Go.Proofs.Ythpebfojkpnojaa
open Go.RowKit Go.Maps
set_option linter.unusedVariables false
set_option linter.unusedSimpArgs false
set_option maxRecDepth 100000
/-- The truths' row, and what may be done to it alone. -/
theorem Bs.truths {M : Nat → Prop} {bb K : Nat} {s : Bas.S} {W : World} (h : Bs M bb K s W) : ∃ gt ct, M gt ∧ W.cell? ⟨bb, 8, none⟩ = some (.slice (some ⟨gt, 0, none⟩) (s.vars.toNat + 1) ct) ∧ bb ≠ gt ∧ gt < W.heap.size ∧ TrW gt (s.vars.toNat + 1) ct (List.replicate (s.vars.toNat + 1) 0) W W ∧
    ∀ W' : World, W'.os = W.os → W'.tape = W.tape → W'.output = W.output → W.heap.size ≤ W'.heap.size → (∀ q, q < W.heap.size → q ≠ gt → W'.heap[q]? = W.heap[q]?) → (∃ cur : Array Value, W'.heap[gt]? = some (.cells cur 45 (0, 0)) ∧ cur.size = ct ∧ s.vars.toNat + 1 ≤ ct ∧ (List.replicate (s.vars.toNat + 1) (0 : Int)).length = s.vars.toNat + 1 ∧ cur.toList.take (s.vars.toNat + 1) = (List.replicate (s.vars.toNat + 1) (0 : Int)).map (Value.int .i32)) →
      Bs M bb K s W' ∧ Fm M W W' := by
  obtain ⟨hv, bm, br, k, k2, f, g, rv, sv, tv, R, Z, rw', ids, iv, hb, m1, m2, m3, hne, ⟨a1, a2, a3⟩, ⟨b1, b2, b3, b4, b5⟩, ⟨c1, c2, c3⟩, ⟨d1, d2, d3⟩, e1⟩ := h
  obtain ⟨gt, ct, cur, rfl, _, h2, h3, h4, h5, h6⟩ := own_some e1.1 (by omega)
  have hMg : M gt := e1.2 gt rfl
  have hbg : bb ≠ gt := fun e => by
    rw [e, h2] at hb
    injection hb with hb; injection hb with _ hb _; cases hb
  refine ⟨gt, ct, hMg, row_cell hb 8, hbg, lt_of_blk h2, ⟨rfl, rfl, rfl, rfl, fun _ _ => rfl, cur, h2, h5, h3, by simp, by rw [h6, List.map_replicate]⟩, fun W' q1 q2 q3 hs hk ⟨cur', r1, r2, _, _, r5⟩ => ?_⟩
  have hcl : ∀ (q : Nat) (cs : Array Value) (t : TypeId), t ≠ 45 → W.heap[q]? = some (.cells cs t (0, 0)) → W'.heap[q]? = W.heap[q]? := fun q cs t ht hq => hk q (lt_of_blk hq) (fun e => by
    rw [e, h2] at hq
    injection hq with hq; injection hq with _ hq _; exact ht hq.symm)
  have hmap : ∀ (q : Nat) es cl, W.heap[q]? = some (.map es cl) → W'.heap[q]? = W.heap[q]? := fun q es cl hq => hk q (lt_of_blk hq) (fun e => by rw [e, h2] at hq; cases hq)
  have hn : ∀ q, q < W.heap.size → ¬ M q → W'.heap[q]? = W.heap[q]? := fun q hq hnm => hk q hq (fun e => hnm (e ▸ hMg))
  have ok : ∀ {e size : Nat} {v : Value} {n : Nat} {xs : List Value}, e ≠ 45 → OwnM M W e size v n xs → OwnM M W' e size v n xs := fun n1 ho => ⟨own_keep ho.1 (fun q cs _ hq => hcl q cs _ n1 hq), ho.2⟩
  obtain ⟨es1, cl1, hm1⟩ := a1.obj
  obtain ⟨es2, cl2, hm2⟩ := b1.obj
  refine ⟨⟨hv, bm, br, k, k2, f, g, rv, sv, _, R, Z, rw', ids, iv, (hcl _ _ _ (by decide) hb).trans hb, m1, m2, m3, hne, ⟨a1.same (hmap _ _ _ hm1), a2, fun id hi => (a3 id hi).keep hs hn⟩, ⟨b1.same (hmap _ _ _ hm2), b2, fun l v hlv => ?_, b4, b5⟩, ⟨ok (by decide) c1, c2, fun q hq => ⟨(c3 q hq).1.keep hs hn, (c3 q hq).2.keep hs hn⟩⟩, ⟨ok (by decide) d1, d2, fun q hq => ⟨(d3 q hq).1.keep hs hn, (d3 q hq).2.keep hs hn⟩⟩, ⟨own_mk (Nat.zero_le _) r1 h3 h4 r2 (by rw [r5, List.map_replicate]), e1.2⟩⟩, q1, q2, q3, hs, hn⟩
  obtain ⟨p1, p2, ⟨go, la, p3, p4⟩, p5, p6, p7⟩ := b3 l v hlv
  exact ⟨p1, p2, ⟨go, la, (hcl _ _ _ (by decide) p3).trans p3, p4⟩, ok (by decide) p5, p6, p7⟩
/-- A check begins. -/
theorem Chk.new {bb gt m cz : Nat} {W : World} (h : TrW gt m cz (List.replicate m 0) W W) (hg : gt < W.heap.size) :
    Chk bb W.heap.size (W.heap.size + 1) gt m cz (List.replicate m 0) [] W ((W.alloc (.cells #[.pointer (some ⟨bb, 0, none⟩)] 27)).alloc (.cells #[.slice none 0 0] 23)) := by
  have hb1 := below_box W (.cells #[.pointer (some ⟨bb, 0, none⟩)] 27)
  have hb2 := below_box (W.alloc (.cells #[.pointer (some ⟨bb, 0, none⟩)] 27)) (.cells #[.slice none 0 0] 23)
  have hs1 : (W.alloc (.cells #[.pointer (some ⟨bb, 0, none⟩)] 27)).heap.size = W.heap.size + 1 := by simp
  have hb : Below W.heap.size W ((W.alloc (.cells #[.pointer (some ⟨bb, 0, none⟩)] 27)).alloc (.cells #[.slice none 0 0] 23)) := box_below _ _ hb2
  have hn1 := heap_alloc_new W (.cells #[.pointer (some ⟨bb, 0, none⟩)] 27)
  have hn2 := heap_alloc_new (W.alloc (.cells #[.pointer (some ⟨bb, 0, none⟩)] 27)) (.cells #[.slice none 0 0] 23)
  rw [hs1] at hn2 hb2
  obtain ⟨cur, r1, r2⟩ := h.row
  exact ⟨hb.os, hb.tape, hb.output, hb.size, fun q hq _ => hb.block q hq, ⟨cur, (hb.block gt hg).trans r1, r2⟩, (hb2.block W.heap.size (by omega)).trans hn1, ⟨_, hn2, World.ownsRow_nil _ _ _ _⟩, by omega, by omega, hg⟩
/-- A check ends. -/
theorem Chk.leave {bb pb fb gt m cz ct : Nat} {ts T : List Int} {W0 W : World} (h : Chk bb pb fb gt m cz ts T W0 W) (h8 : W0.cell? ⟨bb, 8, none⟩ = some (.slice (some ⟨gt, 0, none⟩) m ct)) (hne : bb ≠ gt) (hmm : m ≤ 1048577) (hT : Bas.Tru T ts) (hTl : T.length ≤ 1000000000) (hTb : ∀ x ∈ T, I32 x ∧ 1 ≤ Bas.vr x ∧ Bas.vr x < m) (h00 : ts.getD 0 0 = 0) (u : FrameMode) :
    CallsD Try.prog 51 #[.pointer (some ⟨fb, 0, none⟩), .pointer (some ⟨pb, 0, none⟩)] u W fun e u' w' => u' = u ∧ e = .returned (.tuple #[]) ∧ TrW gt m cz (List.replicate m 0) W w' := by
  obtain ⟨sv, f1, f2⟩ := h.fnd
  obtain ⟨o, c, rfl⟩ := own_slc f2
  have h1 := h.at_
  have hlen : ts.length = m := by obtain ⟨cur, _, _, _, h9, _⟩ := h.row; exact h9
  have hU : Bas.untake ts T = List.replicate m 0 := by
    rw [← hlen]
    refine Bas.untake_all hT (fun v hv hz => ?_)
    rcases Nat.eq_zero_or_pos v with rfl | hp
    · exact absurd h00 hz
    · exact hp
  have := untake51D u (h.x8 h8 hne) (row_cell h.pbx 0) o T.length c (row_cell f1 0) h.trw hne (by omega) (by omega) T rfl (by omega) hmm (own_row f2 (fun x hx => (hTb x hx).1)) (fun b off e hn e2 => by
    rcases f2.2 with ⟨_, h0⟩ | ⟨g, c', cur, e1, h9, _⟩
    · exact hn (List.eq_nil_of_length_eq_zero h0)
    · injection e1 with e1 _ _
      rw [e] at e1
      injection e1 with e1; injection e1 with e1
      omega) (fun x hx => (hTb x hx).2)
  rw [hU] at this
  exact this
end Go.Proofs.Ythpebfojkpnojaa
