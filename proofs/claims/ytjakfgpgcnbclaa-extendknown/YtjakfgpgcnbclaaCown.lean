/- Rows of clauses and of witnesses of one's own; a clause taken out of a row. -/
import Derived.Test.YtjakfgpgcnbclaaGood
namespace Go.Proofs.Ytjakfgpgcnbclaa
open Go.RowKit
set_option linter.unusedVariables false
set_option linter.unusedSimpArgs false

theorem info40 : (Try.prog.info? 40).map (fun i => (i.zero, i.size, i.bytes)) = some (some (.slice none 0 0), 1, 24) := by kernel_rfl
theorem info42 : (Try.prog.info? 42).map (fun i => (i.zero, i.size, i.bytes)) = some (some (.agg #[.slice none 0 0, .slice none 0 0]), 2, 48) := by kernel_rfl
theorem own_below {W W' : World} {base e size : Nat} {v : Value} {n : Nat} {xs : List Value} (h : W.ownsRow base e size v n xs) (hb : Below W.heap.size W W') : W'.ownsRow base e size v n xs := by
  refine ⟨h.1, h.2.imp id ?_⟩
  rintro ⟨g, c, cur, e1, h1, h2, h3⟩
  exact ⟨g, c, cur, e1, h1, (hb.block g (Array.getElem?_eq_some_iff.1 h2).1).trans h2, h3⟩
theorem own_base {W : World} {base base' e size : Nat} {v : Value} {n : Nat} {xs : List Value} (h : W.ownsRow base e size v n xs) (hb : base' ≤ base) : W.ownsRow base' e size v n xs := by
  refine ⟨h.1, h.2.imp id ?_⟩
  rintro ⟨g, c, cur, e1, h1, h2⟩
  exact ⟨g, c, cur, e1, by omega, h2⟩
/-- A clause as it lies. -/
abbrev Cq := List Int × Option Addr × Nat
def cqv (q : Cq) : Value := .slice q.2.1 q.1.length q.2.2
def CqOk (w : World) (q : Cq) : Prop := Lits w q.2.1 q.1 ∧ q.1.length ≤ 35184372088832
theorem cq_ex {w : World} {a : Option Addr} {cs : List (List Int)} (h : Cls w a cs) :
    ∃ qs : List Cq, qs.map (·.1) = cs ∧ (∀ q ∈ qs, CqOk w q) ∧ (qs = [] ∨ ∃ b off, a = some ⟨b, off, none⟩ ∧ ∀ j u, (qs.map cqv)[j]? = some u → w.cell? ((⟨b, off, none⟩ : Addr).add j) = some u) := by
  rcases h.2 with rfl | ⟨b, off, e, hl, hc⟩
  · exact ⟨[], rfl, (fun q h => by cases h), .inl rfl⟩
  · have each : ∀ j, ∃ q : Cq, j < cs.length → q.1 = cs.getD j [] ∧ Lits w q.2.1 q.1 ∧ w.cell? ⟨b, off + j, none⟩ = some (cqv q) := by
      intro j
      by_cases hj : j < cs.length
      · obtain ⟨a', cap', h1, h2⟩ := hc j hj
        exact ⟨(cs.getD j [], a', cap'), fun _ => ⟨rfl, h2, h1⟩⟩
      · exact ⟨([], none, 0), fun h => absurd h hj⟩
    refine ⟨(List.range cs.length).map (fun j => (each j).choose), ?_, ?_, .inr ⟨b, off, e, ?_⟩⟩
    · apply List.ext_getElem
      · simp
      · intro i h1 h2
        have hi : i < cs.length := by simpa using h1
        have := ((each i).choose_spec hi).1
        simp only [List.map_map, List.getElem_map, List.getElem_range, Function.comp_apply]
        rw [this]
        simp [List.getD, hi]
    · intro q hq
      obtain ⟨j, hj, rfl⟩ := List.mem_map.1 hq
      have hj' := List.mem_range.1 hj
      have := (each j).choose_spec hj'
      exact ⟨this.2.1, by rw [this.1]; exact h.1 _ (Cnf.getD_cls cs j hj')⟩
    · intro j u hu
      have hj : j < cs.length := by
        rcases Nat.lt_or_ge j cs.length with h' | h'
        · exact h'
        · rw [List.getElem?_eq_none (by simpa using h')] at hu; cases hu
      rw [show (⟨b, off, none⟩ : Addr).add j = ⟨b, off + j, none⟩ from Go.WideShapes.add_plain _ _ _, ((each j).choose_spec hj).2.2]
      simp [hj] at hu ⊢
      exact hu
theorem one_cq (qs : List Cq) : ∀ u ∈ qs.map cqv, u.oneCell' = true := by
  intro u hu
  obtain ⟨x, _, rfl⟩ := List.mem_map.1 hu
  rfl
/-- A row of clauses of one's own. -/
structure COwn (w0 : World) (B : Nat) (W : World) (v : Value) (qs : List Cq) : Prop where
  row : W.ownsRow B 40 1 v qs.length (qs.map cqv)
  each : ∀ q ∈ qs, CqOk w0 q
theorem COwn.below {w0 : World} {B : Nat} {W W' : World} {v : Value} {qs : List Cq} (h : COwn w0 B W v qs) (hb : Below W.heap.size W W') : COwn w0 B W' v qs := ⟨own_below h.row hb, h.each⟩
theorem COwn.cells {w0 : World} {B : Nat} {W : World} {g n cap : Nat} {qs : List Cq} (h : COwn w0 B W (.slice (some ⟨g, 0, none⟩) n cap) qs) : ∀ j, (hj : j < qs.length) → W.cell? ⟨g, j, none⟩ = some (cqv qs[j]) := by
  intro j hj
  have := h.row.cells rfl j (cqv qs[j]) (by simp [hj])
  rwa [show (⟨g, 0, none⟩ : Addr).add j = ⟨g, 0 + j, none⟩ from Go.WideShapes.add_plain _ _ _, Nat.zero_add] at this
theorem COwn.cls {w0 : World} {B : Nat} {W : World} {a : Option Addr} {n cap : Nat} {qs : List Cq} (h : COwn w0 B W (.slice a n cap) qs) (hb : Below w0.heap.size w0 W) : Cls W a (qs.map (·.1)) := by
  refine ⟨fun c hc => ?_, ?_⟩
  · obtain ⟨q, hq, rfl⟩ := List.mem_map.1 hc
    exact (h.each q hq).2
  · rcases h.row.2 with ⟨e, h0⟩ | ⟨g, cap', cur, e, h1, h2, h3⟩
    · left
      rw [List.eq_nil_of_length_eq_zero h0]
      rfl
    · right
      injection e with e1 e2 e3
      subst e1 e3
      refine ⟨g, 0, rfl, (Array.getElem?_eq_some_iff.1 h2).1, fun j hj => ?_⟩
      have hj' : j < qs.length := by simpa using hj
      have := h.cells j hj'
      have e : (qs.map (·.1)).getD j [] = qs[j].1 := by simp [List.getD, hj']
      rw [e, Nat.zero_add]
      exact ⟨qs[j].2.1, qs[j].2.2, this, (h.each _ (List.getElem_mem hj')).1.below hb⟩
theorem copy_cls (w0 W : World) (a : Option Addr) (n cap : Nat) (qs : List Cq) (hn : qs.length = n) (hb : n ≤ 1000) (hq : ∀ q ∈ qs, CqOk w0 q)
    (hx : qs = [] ∨ ∃ b off, a = some ⟨b, off, none⟩ ∧ ∀ j u, (qs.map cqv)[j]? = some u → W.cell? ((⟨b, off, none⟩ : Addr).add j) = some u) :
    ∃ o c B, (Builtin.append_ #[32, 32] 32 #[.slice none 0 0, .slice a n cap]).run Try.prog W = .ok (.slice o n c) B ∧ COwn w0 W.heap.size B (.slice o n c) qs ∧ Below W.heap.size W B := by
  obtain ⟨i0, hi, hz⟩ := Option.map_eq_some_iff.1 info40
  simp only [Prod.mk.injEq] at hz
  cases a with
  | none =>
    have hz0 : qs = [] := by
      rcases hx with h | ⟨b, off, e, _⟩
      · exact h
      · cases e
    subst hz0
    simp at hn
    subst hn
    refine ⟨none, 0, W, ?_, ⟨World.ownsRow_nil _ _ _ _, hq⟩, Below.refl _ _⟩
    simp [Builtin.append_, run_underlying Try.underlying32, sizeOf, typeInfo, zeroValue, hi, hz.1, Builtin.lenOf, Question.forced, run_firstCells_none]
  | some x =>
    obtain ⟨v2, B, hr, ho2, hgb, _, _⟩ := run_append_own_at (P := Try.prog) W W.heap.size 32 32 40 i0 (.slice none 0 0) 1 24 Try.underlying32 hi hz.1 hz.2.1 hz.2.2 rfl (by decide) (.slice none 0 0) 0 [] (World.ownsRow_nil _ _ _ _) x n cap (qs.map cqv) (by simpa using hn) (fun j u hu => by
      rcases hx with h | ⟨b, off, e, hc⟩
      · rw [h] at hu; simp at hu
      · cases e; exact hc j u hu) (one_cq qs) (by simp [maxLen]; omega) (by omega) (Nat.le_refl _)
    obtain ⟨o, c, rfl⟩ := own_slc ho2
    rw [Nat.zero_add] at hr ho2
    rw [List.nil_append] at ho2
    exact ⟨o, c, B, hr, ⟨by rw [hn]; exact ho2, hq⟩, grown_below hgb⟩
/-- A clause is taken out of a row: what is ahead of it and what is behind it, in a row of their own. -/
theorem erase_cls (w0 W : World) (B g L cap t : Nat) (qs : List Cq) (hL : qs.length = L) (hL2 : L ≤ 1000) (ht : t < L) (h : COwn w0 B W (.slice (some ⟨g, 0, none⟩) L cap) qs) :
    ∃ o1 c1 V1, (Builtin.append_ #[32, 32] 32 #[.slice none 0 0, .slice (some ⟨g, 0, none⟩) t cap]).run Try.prog W = .ok (.slice o1 t c1) V1 ∧ Below W.heap.size W V1 ∧
      ∀ (x : Addr) (capx : Nat), (0 < L - (t + 1) → x = ⟨g, t + 1, none⟩) → ∃ o2 c2 V2, (Builtin.append_ #[32, 32] 32 #[.slice o1 t c1, .slice (some x) (L - (t + 1)) capx]).run Try.prog V1 = .ok (.slice o2 (L - 1) c2) V2 ∧ COwn w0 W.heap.size V2 (.slice o2 (L - 1) c2) (qs.take t ++ qs.drop (t + 1)) ∧ Below W.heap.size W V2 := by
  have hmem : ∀ q ∈ qs.take t ++ qs.drop (t + 1), CqOk w0 q := by
    intro q hq
    rcases List.mem_append.1 hq with hq | hq
    · exact h.each q (List.mem_of_mem_take hq)
    · exact h.each q (List.mem_of_mem_drop hq)
  have hgl : g < W.heap.size := (h.row.lt g rfl).2
  obtain ⟨o1, c1, V1, hr1, ho1, hb1⟩ := copy_cls w0 W (some ⟨g, 0, none⟩) t cap (qs.take t) (by simp; omega) (by omega) (fun q hq => h.each q (List.mem_of_mem_take hq)) (.inr ⟨g, 0, rfl, fun j u hu => by
    have hj : j < t := by
      rcases Nat.lt_or_ge j t with h' | h'
      · exact h'
      · rw [List.getElem?_eq_none (by simp; omega)] at hu; cases hu
    rw [show (⟨g, 0, none⟩ : Addr).add j = ⟨g, 0 + j, none⟩ from Go.WideShapes.add_plain _ _ _, Nat.zero_add, h.cells j (by omega)]
    rw [List.map_take, List.getElem?_take_of_lt hj] at hu
    simpa [show j < qs.length by omega] using hu⟩)
  refine ⟨o1, c1, V1, hr1, hb1, fun x capx hx => ?_⟩
  obtain ⟨i0, hi, hz⟩ := Option.map_eq_some_iff.1 info40
  simp only [Prod.mk.injEq] at hz
  have hlen : (qs.take t).length = t := by simp; omega
  have hrow := ho1.row
  rw [hlen] at hrow
  obtain ⟨v2, V2, hr, ho2, hgb, _, hat⟩ := run_append_own_at (P := Try.prog) V1 W.heap.size 32 32 40 i0 (.slice none 0 0) 1 24 Try.underlying32 hi hz.1 hz.2.1 hz.2.2 rfl (by decide) (.slice o1 t c1) t _ hrow x (L - (t + 1)) capx ((qs.drop (t + 1)).map cqv) (by simp; omega) (fun j u hu => by
    have hj : j < L - (t + 1) := by
      rcases Nat.lt_or_ge j (L - (t + 1)) with h' | h'
      · exact h'
      · rw [List.getElem?_eq_none (by simp; omega)] at hu; cases hu
    rw [hx (by omega), show (⟨g, t + 1, none⟩ : Addr).add j = ⟨g, t + 1 + j, none⟩ from Go.WideShapes.add_plain _ _ _]
    refine (hb1.cell (p := ⟨g, t + 1 + j, none⟩) hgl).trans ?_
    rw [h.cells (t + 1 + j) (by omega)]
    rw [List.map_drop, List.getElem?_drop] at hu
    simpa [show t + 1 + j < qs.length by omega] using hu) (one_cq _) (by simp [maxLen]; omega) (by omega) hb1.size
  obtain ⟨o, c, rfl⟩ := own_slc ho2
  rw [show t + (L - (t + 1)) = L - 1 by omega] at hr ho2
  refine ⟨o, c, V2, hr, ⟨?_, hmem⟩, hb1.grown hgb hb1.size (fun k e => (hrow.lt k e).1)⟩
  rw [List.map_append, show (qs.take t ++ qs.drop (t + 1)).length = L - 1 by simp; omega]
  exact ho2
/-- A witness as it lies. -/
abbrev Wq := Ext.Wt × (Option Addr × Nat) × (Option Addr × Nat)
def wqv (r : Wq) : List Value := [Value.slice r.2.1.1 r.1.1.length r.2.1.2, Value.slice r.2.2.1 r.1.2.length r.2.2.2]
def WqOk (w : World) (r : Wq) : Prop := (Lits w r.2.1.1 r.1.1 ∧ r.1.1.length ≤ 35184372088832) ∧ Lits w r.2.2.1 r.1.2 ∧ r.1.2.length ≤ 35184372088832
/-- A row of witnesses of one's own. -/
structure SOwn (w0 : World) (B : Nat) (W : World) (v : Value) (rs : List Wq) : Prop where
  row : W.ownsRow B 42 2 v rs.length (rs.flatMap wqv)
  each : ∀ r ∈ rs, WqOk w0 r
theorem SOwn.below {w0 : World} {B : Nat} {W W' : World} {v : Value} {rs : List Wq} (h : SOwn w0 B W v rs) (hb : Below W.heap.size W W') : SOwn w0 B W' v rs := ⟨own_below h.row hb, h.each⟩
theorem SOwn.wits {w0 : World} {B : Nat} {W : World} {a : Option Addr} {n cap : Nat} {rs : List Wq} (h : SOwn w0 B W (.slice a n cap) rs) (hb : Below w0.heap.size w0 W) : Wits W a (rs.map (·.1)) := by
  rcases h.row.2 with ⟨e, h0⟩ | ⟨g, cap', cur, e, h1, h2, h3⟩
  · left
    rw [List.eq_nil_of_length_eq_zero h0]
    rfl
  · right
    have hcell := h.row.cells (g := g) (by rw [e]; rfl)
    injection e with e1 e2 e3
    subst e1
    refine ⟨g, 0, rfl, fun j hj => ?_⟩
    have hj' : j < rs.length := by simpa using hj
    have e : (rs.map fun r => r.1).getD j ([], []) = rs[j].1 := by simp [List.getD, hj']
    obtain ⟨t0, t1⟩ := Ext.two_at (fun r : Wq => Value.slice r.2.1.1 r.1.1.length r.2.1.2) (fun r => Value.slice r.2.2.1 r.1.2.length r.2.2.2) rs j hj'
    have hr := h.each _ (List.getElem_mem hj')
    have k0 := hcell _ _ t0
    have k1 := hcell _ _ t1
    rw [show (⟨g, 0, none⟩ : Addr).add (j * 2) = ⟨g, 0 + j * 2, none⟩ from Go.WideShapes.add_plain _ _ _] at k0
    rw [show (⟨g, 0, none⟩ : Addr).add (j * 2 + 1) = ⟨g, 0 + (j * 2 + 1), none⟩ from Go.WideShapes.add_plain _ _ _] at k1
    rw [e]
    exact ⟨_, _, _, _, k0, by rw [Nat.add_assoc]; exact k1, hr.1.1.below hb, hr.2.1.below hb, hr.1.2, hr.2.2⟩
/-- A witness more on a stack of one's own. -/
theorem push_wit (w0 W : World) (B : Nat) (v : Value) (rs : List Wq) (r : Wq) (x : Nat) (hl : rs.length ≤ 1000) (h : SOwn w0 B W v rs) (hr : WqOk w0 r) (hB : B ≤ W.heap.size) (hx : W.heap[x]? = some (.cells (wqv r).toArray 42 (0, 0))) :
    ∃ o c V, (Builtin.append_ #[24, 24] 24 #[v, .slice (some ⟨x, 0, none⟩) 1 1]).run Try.prog W = .ok (.slice o (rs.length + 1) c) V ∧ SOwn w0 B V (.slice o (rs.length + 1) c) (rs ++ [r]) ∧ W.grownBy V v.ownBlock := by
  obtain ⟨i0, hi, hz⟩ := Option.map_eq_some_iff.1 info42
  simp only [Prod.mk.injEq] at hz
  obtain ⟨v2, V, hr', ho2, hgb, _, _⟩ := run_append_own_at (P := Try.prog) W B 24 24 42 i0 (.agg #[.slice none 0 0, .slice none 0 0]) 2 48 Try.underlying24 hi hz.1 hz.2.1 hz.2.2 rfl (by decide) v rs.length _ h.row ⟨x, 0, none⟩ 1 1 (wqv r) (by simp [wqv]) (fun j u hu => by
    rw [show (⟨x, 0, none⟩ : Addr).add j = ⟨x, 0 + j, none⟩ from Go.WideShapes.add_plain _ _ _, Nat.zero_add, row_cell hx j]
    simpa using hu) (by intro u hu; simp [wqv] at hu; rcases hu with rfl | rfl <;> rfl) (by simp [maxLen]; omega) (by omega) hB
  obtain ⟨o, c, rfl⟩ := own_slc ho2
  refine ⟨o, c, V, hr', ⟨?_, ?_⟩, hgb⟩
  · simpa [List.flatMap_append] using ho2
  · intro q hq
    rcases List.mem_append.1 hq with hq | hq
    · exact h.each q hq
    · simp at hq; subst hq; exact hr
end Go.Proofs.Ytjakfgpgcnbclaa
