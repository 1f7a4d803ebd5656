/- A check's beginning and end: the memory's half. -/
import Derived.Test.YthpebfojkpnojaaGreatJag
import Derived.Test.YthpebfojkpnojaaGreatJai
/- A check's beginning and end: the memory's half. -/
namespace Go.Proofs.YthpebfojkpnojaaGreat
open Go.RowKit Go.Maps
set_option linter.unusedVariables false
set_option linter.unusedSimpArgs false
set_option maxRecDepth 100000
/-- The truths' row, and what may be done to it alone. -/
theorem Bs.truths {M : Nat → Prop} {bb K : Nat} {s : Bas.S} {W : World} (h : Bs M bb K s W) : ∃ gt ct, M gt ∧ W.cell? ⟨bb, 8, none⟩ = some (.slice (some ⟨gt, 0, none⟩) (s.vars.toNat + 1) ct) ∧ bb ≠ gt ∧ gt < W.heap.size ∧ TrW gt (s.vars.toNat + 1) ct (List.replicate (s.vars.toNat + 1) 0) W W ∧
    ∀ W' : World, W'.os = W.os → W'.tape = W.tape → W'.output = W.output → W.heap.size ≤ W'.heap.size → (∀ q, q < W.heap.size → q ≠ gt → W'.heap[q]? = W.heap[q]?) → (∃ cur : Array Value, W'.heap[gt]? = some (.cells cur 66 (0, 0)) ∧ cur.size = ct ∧ s.vars.toNat + 1 ≤ ct ∧ (List.replicate (s.vars.toNat + 1) (0 : Int)).length = s.vars.toNat + 1 ∧ cur.toList.take (s.vars.toNat + 1) = (List.replicate (s.vars.toNat + 1) (0 : Int)).map (Value.int .i32)) →
      Bs M bb K s W' ∧ Fm M W W' := by
  obtain ⟨hv, bm, br, k, k2, f, g, rv, sv, tv, R, Z, rw', ids, iv, hb, m1, m2, m3, hne, ⟨a1, a2, a3⟩, ⟨b1, b2, b3, b4, b5⟩, ⟨c1, c2, c3⟩, ⟨d1, d2, d3⟩, e1⟩ := h
  obtain ⟨gt, ct, cur, rfl, _, h2, h3, h4, h5, h6⟩ := own_some e1.1 (by omega)
  have hMg : M gt := e1.2 gt rfl
  have hbg : bb ≠ gt := fun e => by
    rw [e, h2] at hb
    injection hb with hb; injection hb with _ hb _; cases hb
  refine ⟨gt, ct, hMg, row_cell hb 8, hbg, lt_of_blk h2, ⟨rfl, rfl, rfl, rfl, fun _ _ => rfl, cur, h2, h5, h3, by simp, by rw [h6, List.map_replicate]⟩, fun W' q1 q2 q3 hs hk ⟨cur', r1, r2, _, _, r5⟩ => ?_⟩
  have hcl : ∀ (q : Nat) (cs : Array Value) (t : TypeId), t ≠ 66 → W.heap[q]? = some (.cells cs t (0, 0)) → W'.heap[q]? = W.heap[q]? := fun q cs t ht hq => hk q (lt_of_blk hq) (fun e => by
    rw [e, h2] at hq
    injection hq with hq; injection hq with _ hq _; exact ht hq.symm)
  have hmap : ∀ (q : Nat) es cl, W.heap[q]? = some (.map es cl) → W'.heap[q]? = W.heap[q]? := fun q es cl hq => hk q (lt_of_blk hq) (fun e => by rw [e, h2] at hq; cases hq)
  have hn : ∀ q, q < W.heap.size → ¬ M q → W'.heap[q]? = W.heap[q]? := fun q hq hnm => hk q hq (fun e => hnm (e ▸ hMg))
  have ok : ∀ {e size : Nat} {v : Value} {n : Nat} {xs : List Value}, e ≠ 66 → OwnM M W e size v n xs → OwnM M W' e size v n xs := fun n1 ho => ⟨own_keep ho.1 (fun q cs _ hq => hcl q cs _ n1 hq), ho.2⟩
  obtain ⟨es1, cl1, hm1⟩ := a1.obj
  obtain ⟨es2, cl2, hm2⟩ := b1.obj
  refine ⟨⟨hv, bm, br, k, k2, f, g, rv, sv, _, R, Z, rw', ids, iv, (hcl _ _ _ (by decide) hb).trans hb, m1, m2, m3, hne, ⟨a1.same (hmap _ _ _ hm1), a2, fun id hi => (a3 id hi).keep hs hn⟩, ⟨b1.same (hmap _ _ _ hm2), b2, fun l v hlv => ?_, b4, b5⟩, ⟨ok (by decide) c1, c2, fun q hq => ⟨(c3 q hq).1.keep hs hn, (c3 q hq).2.keep hs hn⟩⟩, ⟨ok (by decide) d1, d2, fun q hq => ⟨(d3 q hq).1.keep hs hn, (d3 q hq).2.keep hs hn⟩⟩, ⟨own_mk (Nat.zero_le _) r1 h3 h4 r2 (by rw [r5, List.map_replicate]), e1.2⟩⟩, q1, q2, q3, hs, hn⟩
  obtain ⟨p1, p2, ⟨go, la, p3, p4⟩, p5, p6, p7⟩ := b3 l v hlv
  exact ⟨p1, p2, ⟨go, la, (hcl _ _ _ (by decide) p3).trans p3, p4⟩, ok (by decide) p5, p6, p7⟩
/-- A check begins. -/
theorem Chk.new {bb gt m cz : Nat} {W : World} (h : TrW gt m cz (List.replicate m 0) W W) (hg : gt < W.heap.size) :
    Chk bb W.heap.size (W.heap.size + 1) gt m cz (List.replicate m 0) [] W ((W.alloc (.cells #[.pointer (some ⟨bb, 0, none⟩)] 28)).alloc (.cells #[.slice none 0 0] 38)) := by
  have hb1 := below_box W (.cells #[.pointer (some ⟨bb, 0, none⟩)] 28)
  have hb2 := below_box (W.alloc (.cells #[.pointer (some ⟨bb, 0, none⟩)] 28)) (.cells #[.slice none 0 0] 38)
  have hs1 : (W.alloc (.cells #[.pointer (some ⟨bb, 0, none⟩)] 28)).heap.size = W.heap.size + 1 := by simp
  have hb : Below W.heap.size W ((W.alloc (.cells #[.pointer (some ⟨bb, 0, none⟩)] 28)).alloc (.cells #[.slice none 0 0] 38)) := box_below _ _ hb2
  have hn1 := heap_alloc_new W (.cells #[.pointer (some ⟨bb, 0, none⟩)] 28)
  have hn2 := heap_alloc_new (W.alloc (.cells #[.pointer (some ⟨bb, 0, none⟩)] 28)) (.cells #[.slice none 0 0] 38)
  rw [hs1] at hn2 hb2
  obtain ⟨cur, r1, r2⟩ := h.row
  exact ⟨hb.os, hb.tape, hb.output, hb.size, fun q hq _ => hb.block q hq, ⟨cur, (hb.block gt hg).trans r1, r2⟩, (hb2.block W.heap.size (by omega)).trans hn1, ⟨_, hn2, World.ownsRow_nil _ _ _ _⟩, by omega, by omega, hg⟩
/-- A check ends. -/
theorem Chk.leave {bb pb fb gt m cz ct : Nat} {ts T : List Int} {W0 W : World} (h : Chk bb pb fb gt m cz ts T W0 W) (h8 : W0.cell? ⟨bb, 8, none⟩ = some (.slice (some ⟨gt, 0, none⟩) m ct)) (hne : bb ≠ gt) (hmm : m ≤ 1048577) (hT : Bas.Tru T ts) (hTl : T.length ≤ 1000000000) (hTb : ∀ x ∈ T, I32 x ∧ 1 ≤ Bas.vr x ∧ Bas.vr x < m) (h00 : ts.getD 0 0 = 0) (u : FrameMode) :
    CallsD Tryz.prog 99 #[.pointer (some ⟨fb, 0, none⟩), .pointer (some ⟨pb, 0, none⟩)] u W fun e u' w' => u' = u ∧ e = .returned (.tuple #[]) ∧ TrW gt m cz (List.replicate m 0) W w' := by
  obtain ⟨sv, f1, f2⟩ := h.fnd
  obtain ⟨o, c, rfl⟩ := own_slc f2
  have h1 := h.at_
  have hlen : ts.length = m := by obtain ⟨cur, _, _, _, h9, _⟩ := h.row; exact h9
  have hU : Bas.untake ts T = List.replicate m 0 := by
    rw [← hlen]
    refine Bas.untake_all hT (fun v hv hz => ?_)
    rcases Nat.eq_zero_or_pos v with rfl | hp
    · exact absurd h00 hz
    · exact hp
  have := untake51D u (h.x8 h8 hne) (row_cell h.pbx 0) o T.length c (row_cell f1 0) h.trw hne (by omega) (by omega) T rfl (by omega) hmm (own_row f2 (fun x hx => (hTb x hx).1)) (fun b off e hn e2 => by
    rcases f2.2 with ⟨_, h0⟩ | ⟨g, c', cur, e1, h9, _⟩
    · exact hn (List.eq_nil_of_length_eq_zero h0)
    · injection e1 with e1 _ _
      rw [e] at e1
      injection e1 with e1; injection e1 with e1
      omega) (fun x hx => (hTb x hx).2)
  rw [hU] at this
  exact this
end Go.Proofs.YthpebfojkpnojaaGreat

/- A check's steps, plainly; a check where the world drew. -/
namespace Bas
theorem vr_neg (l : Int) : vr (-l) = vr l := by unfold vr; split <;> split <;> omega
/-- What the truths' row says of a literal: true, false, or neither. -/
theorem tru_cases {T ts : List Int} (h : Tru T.reverse ts) {l : Int} (h1 : 1 ≤ vr l) (h2 : vr l < ts.length) :
    (ts.getD (vr l).toNat 0 = l ∧ l ∈ T) ∨ (ts.getD (vr l).toNat 0 = -l ∧ -l ∈ T ∧ l ∉ T) ∨ (ts.getD (vr l).toNat 0 = 0 ∧ l ∉ T ∧ -l ∉ T) := by
  have a := h.at_ l h1 h2
  have b := h.at_ (-l) (by rw [vr_neg]; exact h1) (by rw [vr_neg]; exact h2)
  rw [vr_neg] at b
  rw [List.mem_reverse] at a b
  have hl0 : l ≠ 0 := fun e => by rw [e] at h1; unfold vr at h1; simp at h1
  rcases h.free (vr l).toNat (by omega) with h3 | h3
  · right; right
    rw [h3] at a b
    exact ⟨h3, fun e => hl0 (a.2 e).symm, fun e => hl0 (by have := b.2 e; omega)⟩
  · generalize ts.getD (vr l).toNat 0 = t at *
    have h4 : t = l ∨ t = -l := by unfold vr at h3 h1; split at h3 <;> split at h3 <;> omega
    by_cases h5 : t = l
    · exact .inl ⟨h5, a.1 h5⟩
    · rcases h4 with h4 | h4
      · exact absurd h4 h5
      · exact .inr (.inl ⟨h4, b.1 h4, fun e => h5 (a.2 e)⟩)
theorem denyP_true {T : List Int} {l : Int} (c : List Int) (h : l ∈ T) : denyP T (l :: c) = none := by rw [denyP, if_pos h]
theorem denyP_false {T : List Int} {l : Int} (c : List Int) (h : l ∉ T) (h2 : -l ∈ T) : denyP T (l :: c) = denyP T c := by rw [denyP, if_neg h, if_pos h2]
theorem denyP_free {T : List Int} {l : Int} (c : List Int) (h : l ∉ T) (h2 : -l ∉ T) : denyP T (l :: c) = denyP (-l :: T) c := by rw [denyP, if_neg h, if_neg h2]
end Bas
namespace Go.Proofs.YthpebfojkpnojaaGreat
open Go.RowKit Go.Maps
set_option linter.unusedVariables false
theorem Chk.below {bb pb fb gt m cz : Nat} {ts T : List Int} {W0 W W' : World} (h : Chk bb pb fb gt m cz ts T W0 W) (hb : Below W.heap.size W W') : Chk bb pb fb gt m cz ts T W0 W' := by
  obtain ⟨sv, f1, f2⟩ := h.fnd
  obtain ⟨cur, r1, r2⟩ := h.row
  exact ⟨hb.os.trans h.os, hb.tape.trans h.tape, hb.output.trans h.output, Nat.le_trans h.size hb.size, fun q hq hne => (hb.block q (Nat.lt_of_lt_of_le hq h.size)).trans (h.block q hq hne), ⟨cur, (hb.block gt (lt_of_blk r1)).trans r1, r2⟩, (hb.block pb (lt_of_blk h.pbx)).trans h.pbx, ⟨sv, (hb.block fb (lt_of_blk f1)).trans f1, own_below f2 hb⟩, h.at_⟩
end Go.Proofs.YthpebfojkpnojaaGreat

/- A check's hints: what stands under an id, and the rows that it reads. -/
namespace Go.Proofs.YthpebfojkpnojaaGreat
open Go.RowKit Go.Maps
set_option linter.unusedVariables false
set_option linter.unusedSimpArgs false
theorem Chk.row_ {k : IntKind} {lo hi : Int} {M : Nat → Prop} {bb pb fb gt m cz : Nat} {ts T : List Int} {W X : World} {a : Option Addr} {xs : List Int} (hc : Chk bb pb fb gt m cz ts T W X) (hMg : M gt) (h : RI k lo hi M W a xs) : Row k lo hi X a xs := by
  obtain ⟨⟨h1, h2⟩, h3⟩ := h
  refine ⟨h1, ?_⟩
  by_cases hx : xs = []
  · exact .inl hx
  · rcases h2 with h2 | ⟨b, off, e, hl, h4⟩
    · exact absurd h2 hx
    · exact .inr ⟨b, off, e, Nat.lt_of_lt_of_le hl hc.size, fun j hj => (World.cell?_of_block (w := W) (a := ⟨b, off + j, none⟩) (hc.block b hl (fun e2 => h3 b off e hx (e2 ▸ hMg)))).trans (h4 j hj)⟩
theorem Chk.ent {M : Nat → Prop} {bb K pb fb gt m cz : Nat} {s : Bas.S} {ts T : List Int} {W X : World} (h : Bs M bb K s W) (hMg : M gt) (hc : Chk bb pb fb gt m cz ts T W X) (hT0 : TrW gt m cz (List.replicate m 0) W W) (id : Int) (hi : I64 id) :
    ∃ bm v, X.cell? ⟨bb, 3, none⟩ = some (.map (some bm)) ∧ (Instr.lookup 71 (.map (some bm)) (.int .i64 id) true).run Tryz.prog X = .ok (.tuple #[v, .bool (Bas.look s.live id).isSome]) X ∧
      (Bas.look s.live id = none → v = .agg #[.int .i64 0, .slice none 0 0, .bool false]) ∧ (∀ e, Bas.look s.live id = some e → ∃ a c, v = .agg #[.int .i64 e.id, .slice a e.lits.length c, .bool e.red] ∧ Lits X a e.lits) := by
  obtain ⟨hv, bm, br, k, k2, f, g, rv, sv, tv, R, Z, rw', ids, iv, hb, m1, m2, m3, hne, ⟨a1, a2, a3⟩, _⟩ := h
  obtain ⟨cur, r1, _⟩ := hT0.row
  have hbg : bb ≠ gt := fun e => by
    rw [e, r1] at hb
    injection hb with hb; injection hb with _ hb _; cases hb
  have hbm : bm ≠ gt := fun e => by
    obtain ⟨es, cl, h9⟩ := a1.obj
    rw [e, r1] at h9; cases h9
  have hlk := (a1.same (hc.block bm a1.lt hbm)).look hi
  have hE := a3 id hi
  refine ⟨bm, (f id).getD (.agg #[.int .i64 0, .slice none 0 0, .bool false]), (World.cell?_of_block (a := ⟨bb, 3, none⟩) (hc.block bb (lt_of_blk hb) hbg)).trans (row_cell hb 3), ?_, ?_, ?_⟩
  · rw [hlk]
    cases he : Bas.look s.live id with
    | none => rw [he] at hE; simp only [EntAt] at hE; rw [hE]; rfl
    | some e => rw [he] at hE; obtain ⟨a9, c9, hf, _⟩ := hE; rw [hf]; rfl
  · intro he
    rw [he] at hE; simp only [EntAt] at hE; rw [hE]; rfl
  · intro e he
    rw [he] at hE
    obtain ⟨a9, c9, hf, hr, _⟩ := hE
    exact ⟨a9, c9, by rw [hf]; rfl, hc.row_ hMg hr⟩
end Go.Proofs.YthpebfojkpnojaaGreat

/- What is left of a clause, plainly. -/
namespace Bas
theorem leftP_fst (T : List Int) : ∀ (d : List Int) (f : Int), (leftP T d f).1 = 0 ∨ (leftP T d f).1 = 1 ∨ (leftP T d f).1 = 2 := by
  intro d
  induction d with
  | nil => intro f; unfold leftP; by_cases h : f = 0 <;> simp [h]
  | cons l d ih =>
    intro f
    rw [leftP_step]
    split
    · exact ih f
    · split
      · exact .inr (.inr rfl)
      · exact ih l
theorem leftP_one (T : List Int) : ∀ (d : List Int) (f : Int), (leftP T d f).1 = 1 → (leftP T d f).2 ≠ 0 ∧ ((leftP T d f).2 = f ∨ (leftP T d f).2 ∈ d ∧ -(leftP T d f).2 ∉ T) := by
  intro d
  induction d with
  | nil => intro f; unfold leftP; by_cases h : f = 0 <;> simp [h]
  | cons l d ih =>
    intro f h
    rw [leftP_step] at h ⊢
    split at h
    · rename_i h1
      rw [if_pos h1]
      obtain ⟨a, b⟩ := ih f h
      exact ⟨a, b.imp id (fun b => ⟨List.mem_cons_of_mem _ b.1, b.2⟩)⟩
    · rename_i h1
      rw [if_neg h1]
      split at h
      · simp at h
      · rename_i h2
        rw [if_neg h2]
        obtain ⟨a, b⟩ := ih l h
        refine ⟨a, .inr ?_⟩
        rcases b with b | b
        · rw [b]; exact ⟨List.mem_cons_self .., fun e => h1 (.inr e)⟩
        · exact ⟨List.mem_cons_of_mem _ b.1, b.2⟩
theorem goP_none {F : Int → Option (List Int)} {T : List Int} {h : Int} (hs : List Int) (e : F h = none) : goP F T (h :: hs) = 60 := by rw [goP, e]
theorem goP_some {F : Int → Option (List Int)} {T d : List Int} {h : Int} (hs : List Int) (e : F h = some d) : goP F T (h :: hs) = if (leftP T d 0).1 = 0 then 0 else if (leftP T d 0).1 > 1 ∨ (leftP T d 0).2 ∈ T then 60 else goP F ((leftP T d 0).2 :: T) hs := by rw [goP, e]
end Bas

