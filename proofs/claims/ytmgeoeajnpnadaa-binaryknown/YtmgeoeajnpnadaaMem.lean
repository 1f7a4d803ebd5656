/- Rows of steps that are one's own, each with its rows. -/
import Derived.Test.YtmgeoeajnpnadaaCopy
import Derived.Test.YtmgeoeajnpnadaaSteps
namespace Go.Proofs.Ytmgeoeajnpnadaa
open Go.RowKit
set_option linter.unusedVariables false
set_option linter.unusedSimpArgs false

/-- A step, and the values of its rows. -/
abbrev Q := Lra.Stp × Value × Value
def qvals (q : Q) : List Value := [.int .u8 q.1.kind, .int .i64 q.1.id, q.2.1, q.2.2]
structure QV (n : Nat) (W : World) (q : Q) : Prop where
  l : W.ownsRow n 44 1 q.2.1 q.1.lits.length (q.1.lits.map (Value.int .i32))
  h : W.ownsRow n 2 1 q.2.2 q.1.hints.length (q.1.hints.map (Value.int .i64))
structure Mem (n : Nat) (W : World) (v : Value) (qs : List Q) : Prop where
  row : W.ownsRow n 43 4 v qs.length (qs.flatMap qvals)
  each : ∀ q ∈ qs, QV n W q

theorem own_keep {W W' : World} {base n size : Nat} {e : TypeId} {v : Value} {xs : List Value} (h : W.ownsRow base e size v n xs) (hk : ∀ g cs, v.ownBlock = some g → W.heap[g]? = some (.cells cs e (0, 0)) → W'.heap[g]? = W.heap[g]?) : W'.ownsRow base e size v n xs := by
  refine ⟨h.1, ?_⟩
  rcases h.2 with h' | ⟨g, cap, cur, rfl, h1, h2, h3⟩
  · exact .inl h'
  · exact .inr ⟨g, cap, cur, rfl, h1, (hk g cur rfl h2).trans h2, h3⟩
theorem own_ne {W : World} {b base n size : Nat} {cs : Array Value} {t e : TypeId} {fr : Nat × Nat} {v : Value} {xs : List Value} (h : W.heap[b]? = some (.cells cs t fr)) (hr : W.ownsRow base e size v n xs) (hne : t ≠ e) : v.ownBlock ≠ some b := by
  rcases hr.2 with ⟨rfl, _⟩ | ⟨g, cap, cur, rfl, _, hgb, _⟩
  · simp [Value.ownBlock]
  · intro e'
    obtain rfl : g = b := by simpa [Value.ownBlock] using e'
    rw [h] at hgb
    cases hgb
    exact hne rfl
theorem own_blk {W : World} {base n size : Nat} {e : TypeId} {v : Value} {xs : List Value} {g : Nat} (h : W.ownsRow base e size v n xs) (hg : v.ownBlock = some g) : base ≤ g ∧ ∃ cur, W.heap[g]? = some (.cells cur e (0, 0)) := by
  rcases h.2 with ⟨rfl, _⟩ | ⟨g', cap, cur, rfl, hb, hgb, _⟩
  · cases hg
  · cases hg; exact ⟨hb, cur, hgb⟩
theorem QV.keep {n : Nat} {W W' : World} {q : Q} (h : QV n W q) (hk : ∀ g, q.2.1.ownBlock = some g ∨ q.2.2.ownBlock = some g → W'.heap[g]? = W.heap[g]?) : QV n W' q :=
  ⟨own_keep h.l (fun g cs e _ => hk g (.inl e)), own_keep h.h (fun g cs e _ => hk g (.inr e))⟩
theorem QV.below {n : Nat} {W W' : World} {q : Q} (h : QV n W q) (hb : Below W.heap.size W W') : QV n W' q := ⟨own_below h.l hb, own_below h.h hb⟩
theorem QV.base {n n' : Nat} {W : World} {q : Q} (h : QV n W q) (hn : n' ≤ n) : QV n' W q := ⟨own_base h.l hn, own_base h.h hn⟩
theorem QV.lt {n : Nat} {W : World} {q : Q} (h : QV n W q) {g : Nat} (hg : q.2.1.ownBlock = some g ∨ q.2.2.ownBlock = some g) : n ≤ g ∧ g < W.heap.size := by
  rcases hg with hg | hg
  · exact h.l.lt g hg
  · exact h.h.lt g hg
theorem Mem.keep {n : Nat} {W W' : World} {v : Value} {qs : List Q} (h : Mem n W v qs) (hv : ∀ g, v.ownBlock = some g → W'.heap[g]? = W.heap[g]?) (hk : ∀ q ∈ qs, ∀ g, q.2.1.ownBlock = some g ∨ q.2.2.ownBlock = some g → W'.heap[g]? = W.heap[g]?) : Mem n W' v qs :=
  ⟨own_keep h.row (fun g cs e _ => hv g e), fun q hq => (h.each q hq).keep (hk q hq)⟩
theorem Mem.below {n : Nat} {W W' : World} {v : Value} {qs : List Q} (h : Mem n W v qs) (hb : Below W.heap.size W W') : Mem n W' v qs := ⟨own_below h.row hb, fun q hq => (h.each q hq).below hb⟩
theorem Mem.base {n n' : Nat} {W : World} {v : Value} {qs : List Q} (h : Mem n W v qs) (hn : n' ≤ n) : Mem n' W v qs := ⟨own_base h.row hn, fun q hq => (h.each q hq).base hn⟩
theorem Mem.set {n b k : Nat} {W : World} {v : Value} {qs : List Q} (h : Mem n W v qs) (hb : b < n) (u : Value) : Mem n (W.setCell ⟨b, k, none⟩ u) v qs :=
  ⟨own_set h.row hb u, fun q hq => ⟨own_set (h.each q hq).l hb u, own_set (h.each q hq).h hb u⟩⟩
/-- A block that is neither the row of steps nor one of their rows may turn. -/
theorem Mem.set_other {n b k : Nat} {W : World} {v : Value} {qs : List Q} {cs : Array Value} {t : TypeId} {fr : Nat × Nat} (h : Mem n W v qs) (hb : W.heap[b]? = some (.cells cs t fr)) (h1 : t ≠ 43) (h2 : t ≠ 44) (h3 : t ≠ 2) (u : Value) : Mem n (W.setCell ⟨b, k, none⟩ u) v qs := by
  refine h.keep (fun g hg => heap_other _ _ (fun e => own_ne hb h.row h1 (e ▸ hg))) (fun q hq g hg => heap_other _ _ ?_)
  rintro rfl
  rcases hg with hg | hg
  · exact own_ne hb (h.each q hq).l h2 hg
  · exact own_ne hb (h.each q hq).h h3 hg
theorem Mem.nil (n : Nat) (W : World) : Mem n W (.slice none 0 0) [] := ⟨World.ownsRow_nil _ _ _ _, fun q hq => by cases hq⟩
theorem info43 : (Try.prog.info? 43).map (fun i => (i.zero, i.size, i.bytes)) = some (some (.agg #[.int .u8 0, .int .i64 0, .slice none 0 0, .slice none 0 0]), 4, 64) := by kernel_rfl
theorem own_one {W : World} {base n size : Nat} {e : TypeId} {v : Value} {xs : List Value} (h : W.ownsRow base e size v n xs) : v.oneCell' = true := by
  obtain ⟨o, c, rfl⟩ := own_slc h
  rfl
/-- A step more. -/
theorem Mem.push {n : Nat} {W : World} {v : Value} {qs : List Q} (h : Mem n W v qs) (q : Q) (hq : QV n W q) (hl : qs.length ≤ 4194304) (hb : n ≤ W.heap.size) :
    ∃ o c B, (Builtin.append_ #[22, 22] 22 #[v, .slice (some ⟨W.heap.size, 0, none⟩) 1 1]).run Try.prog (W.alloc (.cells #[.int .u8 q.1.kind, .int .i64 q.1.id, q.2.1, q.2.2] 43)) = .ok (.slice o (qs.length + 1) c) B ∧
      Mem n B (.slice o (qs.length + 1) c) (qs ++ [q]) ∧ (∀ k, k < W.heap.size → v.ownBlock ≠ some k → B.heap[k]? = W.heap[k]?) ∧ W.heap.size ≤ B.heap.size ∧ B.os = W.os ∧ B.tape = W.tape ∧ B.output = W.output ∧ (∀ k, k < W.heap.size → Value.ownBlock (.slice o (qs.length + 1) c) = some k → v.ownBlock = some k) := by
  obtain ⟨i0, hi, hz⟩ := Option.map_eq_some_iff.1 info43
  simp only [Prod.mk.injEq] at hz
  obtain ⟨hz0, hz1, hz2⟩ := hz
  obtain ⟨W1, hW1⟩ : ∃ W1, W.alloc (.cells #[.int .u8 q.1.kind, .int .i64 q.1.id, q.2.1, q.2.2] 43) = W1 := ⟨_, rfl⟩
  have hM : W1.heap[W.heap.size]? = some (.cells #[.int .u8 q.1.kind, .int .i64 q.1.id, q.2.1, q.2.2] 43 (0, 0)) := by rw [← hW1]; exact heap_alloc_new _ _
  have h01 : Below W.heap.size W W1 := by rw [← hW1]; exact below_box _ _
  have hs1 : W1.heap.size = W.heap.size + 1 := by rw [← hW1]; simp
  have hop := own_below h.row h01
  rw [hW1]
  obtain ⟨v2, B, hr, ho2, hg, _, hat⟩ := run_append_own_at (P := Try.prog) W1 n 22 22 43 i0 _ 4 64 Try.underlying22 hi hz0 hz1 hz2 rfl (by decide) v qs.length _ hop ⟨W.heap.size, 0, none⟩ 1 1 (qvals q) rfl (fun j u hu => by
    match j, hu with
    | 0, hu => rw [show (⟨W.heap.size, 0, none⟩ : Addr).add 0 = ⟨W.heap.size, 0, none⟩ from rfl, row_cell hM 0]; exact hu
    | 1, hu => rw [show (⟨W.heap.size, 0, none⟩ : Addr).add 1 = ⟨W.heap.size, 1, none⟩ from rfl, row_cell hM 1]; exact hu
    | 2, hu => rw [show (⟨W.heap.size, 0, none⟩ : Addr).add 2 = ⟨W.heap.size, 2, none⟩ from rfl, row_cell hM 2]; exact hu
    | 3, hu => rw [show (⟨W.heap.size, 0, none⟩ : Addr).add 3 = ⟨W.heap.size, 3, none⟩ from rfl, row_cell hM 3]; exact hu
    | j + 4, hu => simp [qvals] at hu) (by
      intro u hu
      simp [qvals] at hu
      rcases hu with rfl | rfl | rfl | rfl
      · rfl
      · rfl
      · exact own_one hq.l
      · exact own_one hq.h) (by simp [maxLen]; omega) (by omega) (by omega)
  obtain ⟨o', cp', rfl⟩ := own_slc ho2
  have keep : ∀ k, k < W.heap.size → v.ownBlock ≠ some k → B.heap[k]? = W.heap[k]? := fun k hk hne =>
    (hg.block _ (by omega) (fun e => hne e.symm)).trans (h01.block _ hk)
  have kq : ∀ p : Q, QV n W p → QV n B p := fun p hp => ⟨own_keep hp.l (fun g cs e hgc => keep g (Array.getElem?_eq_some_iff.1 hgc).1 (own_ne hgc h.row (by decide))), own_keep hp.h (fun g cs e hgc => keep g (Array.getElem?_eq_some_iff.1 hgc).1 (own_ne hgc h.row (by decide)))⟩
  refine ⟨o', cp', B, hr, ⟨?_, ?_⟩, keep, ?_, hg.os.trans h01.os, hg.tape.trans h01.tape, hg.output.trans h01.output, fun k hk e => ?_⟩
  · rw [show (qs ++ [q]).length = qs.length + 1 by simp, List.flatMap_append]
    simpa using ho2
  · intro p hp
    rcases List.mem_append.1 hp with hp | hp
    · exact kq p (h.each p hp)
    · simp at hp; subst hp; exact kq p hq
  · have := hg.size; omega
  · rcases hat with hat | hat
    · rw [← hat]; exact e
    · rw [hat] at e; cases e; omega
/-- A step's numbers lie within their types. -/
structure Fits (s : Lra.Stp) : Prop where
  k : 0 ≤ s.kind ∧ s.kind < 256
  i : -9223372036854775808 ≤ s.id ∧ s.id ≤ 9223372036854775807
  l : ∀ x ∈ s.lits, -2147483648 ≤ x ∧ x ≤ 2147483647
  h : ∀ x ∈ s.hints, -9223372036854775808 ≤ x ∧ x ≤ 9223372036854775807
  n : s.lits.length ≤ 35184372088832 ∧ s.hints.length ≤ 35184372088832
theorem own_row {W : World} {n : Nat} {e : TypeId} {k : IntKind} {lo hi : Int} {a : Option Addr} {c : Nat} {xs : List Int} (h : W.ownsRow n e 1 (.slice a xs.length c) xs.length (xs.map (Value.int k))) (hx : ∀ x ∈ xs, lo ≤ x ∧ x ≤ hi) : Row k lo hi W a xs := by
  refine ⟨hx, ?_⟩
  rcases h.2 with ⟨_, h0⟩ | ⟨g, cap, cur, e1, hb, hg, hnc, hcm, hcs, htk⟩
  · exact .inl (List.eq_nil_of_length_eq_zero h0)
  · cases e1
    refine .inr ⟨g, 0, rfl, (Array.getElem?_eq_some_iff.1 hg).1, fun j hj => ?_⟩
    rw [Nat.zero_add, row_cell hg j]
    have e2 : (cur.toList.take (xs.length * 1))[j]? = cur.toList[j]? := List.getElem?_take_of_lt (by omega)
    rw [htk] at e2
    rw [← Array.getElem?_toList, ← e2]
    simp [List.getD, List.getElem?_eq_getElem hj]
theorem flat_at (qs : List Q) : ∀ (j r : Nat) (hj : j < qs.length), r < 4 → (qs.flatMap qvals)[j * 4 + r]? = (qvals qs[j])[r]? := by
  induction qs with
  | nil => intro j r hj; simp at hj
  | cons q qs ih =>
    intro j r hj hr
    rw [List.flatMap_cons]
    cases j with
    | zero =>
      rw [List.getElem?_append_left (by simp [qvals]; omega)]
      simp
    | succ j =>
      rw [List.getElem?_append_right (by simp [qvals]; omega)]
      have := ih j r (by simpa using hj) hr
      rw [show (j + 1) * 4 + r - (qvals q).length = j * 4 + r by simp [qvals]; omega]
      simpa using this
/-- Steps of one's own are steps. -/
theorem Mem.steps {n : Nat} {W : World} {v : Value} {qs : List Q} (h : Mem n W v qs) (hf : ∀ q ∈ qs, Fits q.1) : ∃ a c, v = .slice a qs.length c ∧ Steps W a (qs.map (·.1)) := by
  obtain ⟨a, c, rfl⟩ := own_slc h.row
  refine ⟨a, c, rfl, ?_⟩
  rcases h.row.2 with ⟨_, h0⟩ | ⟨g, cap, cur, e1, hb, hg, hnc, hcm, hcs, htk⟩
  · left
    rw [List.eq_nil_of_length_eq_zero h0]; rfl
  · cases e1
    right
    refine ⟨g, 0, rfl, fun j hj => ?_⟩
    have hj' : j < qs.length := by simpa using hj
    have hm := List.getElem_mem hj'
    have hq := h.each _ hm
    have hF := hf _ hm
    have cell : ∀ r, r < 4 → W.cell? ⟨g, 0 + j * 4 + r, none⟩ = (qvals qs[j])[r]? := fun r hr => by
      rw [Nat.zero_add, row_cell hg]
      have e2 : (cur.toList.take (qs.length * 4))[j * 4 + r]? = cur.toList[j * 4 + r]? := List.getElem?_take_of_lt (by omega)
      rw [htk] at e2
      rw [← Array.getElem?_toList, ← e2, flat_at qs j r hj' hr]
    have c0 := cell 0 (by decide)
    have c1 := cell 1 (by decide)
    have c2 := cell 2 (by decide)
    have c3 := cell 3 (by decide)
    rw [List.getElem_map]
    obtain ⟨o1, k1, hv1⟩ := own_slc hq.l
    obtain ⟨o2, k2, hv2⟩ := own_slc hq.h
    refine ⟨o1, k1, o2, k2, ⟨c0, c1, ?_, ?_, ?_⟩⟩
    · rw [← hv1]; exact c2
    · rw [← hv2]; exact c3
    · exact ⟨own_row (hv1 ▸ hq.l) hF.l, own_row (hv2 ▸ hq.h) hF.h, hF.k, hF.i, hF.n⟩
end Go.Proofs.Ytmgeoeajnpnadaa
