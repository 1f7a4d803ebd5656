/- All, Irredundant: the formulas of the live clauses. -/
import Derived.Test.YthpebfojkpnojaaGreatJbs
import Derived.Test.YthpebfojkpnojaaGreatJbk
import Derived.Deep.RegionLaw
/- All, Irredundant: the formulas of the live clauses. -/
namespace Go.Proofs.YthpebfojkpnojaaGreat
open Go.RowKit Go.Maps
set_option linter.unusedVariables false
set_option linter.unusedSimpArgs false
set_option maxRecDepth 100000
theorem info38 : (Tryz.prog.info? 38).map (fun i => (i.zero, i.size, i.bytes)) = some (some (.slice none 0 0), 1, 24) := by kernel_rfl
/-- A clause more, behind a row of one's own. -/
theorem push38 {W : World} {base : Nat} {v : Value} {k : Nat} {xs : List Value} (ho : W.ownsRow base 38 1 v k xs) (o : Option Addr) (n c : Nat) (hb : base ≤ W.heap.size) (hk : k ≤ 1000000000) :
    ∃ g c1 B, (Builtin.append_ #[22, 22] 22 #[v, .slice (some ⟨W.heap.size, 0, none⟩) 1 1]).run Tryz.prog (W.alloc (.cells #[.slice o n c] 38)) = .ok (.slice (some ⟨g, 0, none⟩) (k + 1) c1) B ∧ B.ownsRow base 38 1 (.slice (some ⟨g, 0, none⟩) (k + 1) c1) (k + 1) (xs ++ [.slice o n c]) ∧
      (W.alloc (.cells #[.slice o n c] 38)).grownBy B v.ownBlock ∧ (v.ownBlock = some g ∨ g = W.heap.size + 1) := by
  obtain ⟨i0, hi0, hz⟩ := Option.map_eq_some_iff.1 info38
  simp only [Prod.mk.injEq] at hz
  obtain ⟨g, c1, B, hr, h2, h3, h5, _⟩ := run_append_lies (P := Tryz.prog) (W.alloc (.cells #[.slice o n c] 38)) 22 22 base 38 i0 _ 1 24 Tryz.underlying22 hi0 hz.1 hz.2.1 hz.2.2 rfl (by decide) v k _ (ho.alloc _) ⟨W.heap.size, 0, none⟩ 1 1 [.slice o n c] rfl (World.news_of_block (heap_alloc_new W (.cells #[.slice o n c] 38))) (by intro u hu; simp at hu; subst hu; rfl) (by decide) (by unfold maxLen; omega) (by omega) (by simp; omega) _ rfl
  exact ⟨g, c1, B, hr, h2, h3, by simpa using h5⟩
/-- Entries that were told, each clause in a block of P0. -/
def EntsN (P0 : Nat → Prop) (L : List Bas.E) (lb : Nat) (X : World) : Prop := ∀ j (hj : j < L.length), ∃ a c, X.cell? ⟨lb, j * 3, none⟩ = some (.int .i64 L[j].id) ∧ X.cell? ⟨lb, j * 3 + 1, none⟩ = some (.slice a L[j].lits.length c) ∧ X.cell? ⟨lb, j * 3 + 2, none⟩ = some (.bool L[j].red) ∧ Lits X a L[j].lits ∧ ∀ b off, a = some ⟨b, off, none⟩ → L[j].lits ≠ [] → P0 b
theorem EntsN.below {P0 : Nat → Prop} {L : List Bas.E} {lb : Nat} {X X' : World} (h : EntsN P0 L lb X) (hb : Below X.heap.size X X') : EntsN P0 L lb X' := fun j hj => by
  obtain ⟨a, c, h1, h2, h3, h4, h5⟩ := h j hj
  exact ⟨a, c, (hb.cell (p := ⟨lb, j * 3, none⟩) (cell_lt h1)).trans h1, (hb.cell (p := ⟨lb, j * 3 + 1, none⟩) (cell_lt h2)).trans h2, (hb.cell (p := ⟨lb, j * 3 + 2, none⟩) (cell_lt h3)).trans h3, h4.below hb, h5⟩
theorem EntC.entsN {L : List Bas.E} {W : World} {en : Ending} {w' : World} (h : EntC L W en w') : ∃ lb c, en = .returned (.slice (some ⟨lb, 0, none⟩) L.length c) ∧ EntsN (fun b => W.heap.size ≤ b ∧ b < w'.heap.size) L lb w' ∧ Below W.heap.size W w' := by
  obtain ⟨lb, c, Q, h1, h2, h3⟩ := h
  refine ⟨lb, c, h1, fun j hj => ?_, h3⟩
  have hQ : Q.length = L.length := by rw [← h2.ent, List.length_map]
  have hk : j < Q.length := by omega
  have hq : (Q[j]'hk).1 = L[j] := by
    have : (Q.map (·.1))[j]? = some L[j] := by rw [h2.ent]; simp
    rw [List.getElem?_map, List.getElem?_eq_getElem hk] at this
    simpa using this
  obtain ⟨g, e, _, _, hc⟩ := own_cell h2.own (by omega)
  cases e
  have c0 := hc (j * 3 + 0) (by omega)
  have c1 := hc (j * 3 + 1) (by omega)
  have c2 := hc (j * 3 + 2) (by omega)
  rw [flat3_at hk (by decide)] at c0 c1 c2
  obtain ⟨hr1, hr2⟩ := h2.rows _ (List.getElem_mem hk)
  have hr := hr1.1
  rw [hq] at hr
  refine ⟨(Q[j]'hk).2.1, (Q[j]'hk).2.2, ?_, ?_, ?_, hr, fun b off e hne => ⟨hr2 b off e, ?_⟩⟩
  · rw [Nat.add_zero] at c0
    rw [c0, ← hq]; rfl
  · rw [c1, ← hq]; rfl
  · rw [c2, ← hq]; rfl
  · rcases hr.2 with h | ⟨b', off', e', hl, _⟩
    · exact absurd h hne
    · rw [e] at e'; cases e'; exact hl
theorem EntsN.mono0 {P0 P1 : Nat → Prop} {L : List Bas.E} {lb : Nat} {X : World} (h : EntsN P1 L lb X) (hn : ∀ b, P1 b → P0 b) : EntsN P0 L lb X := fun j hj => by
  obtain ⟨a, c, h1, h2, h3, h4, h5⟩ := h j hj
  exact ⟨a, c, h1, h2, h3, h4, fun b off e hne => hn b (h5 b off e hne)⟩
/-- Clauses in blocks of P0. -/
def ClsN (P0 : Nat → Prop) (w : World) (a : Option Addr) (cs : List (List Int)) : Prop :=
  (∀ c ∈ cs, c.length ≤ 35184372088832) ∧ (cs = [] ∨ ∃ b off, a = some ⟨b, off, none⟩ ∧ P0 b ∧ b < w.heap.size ∧ ∀ j, j < cs.length → ∃ a' cap', w.cell? ⟨b, off + j, none⟩ = some (.slice a' (cs.getD j []).length cap') ∧ Lits w a' (cs.getD j []) ∧ ∀ b' off', a' = some ⟨b', off', none⟩ → cs.getD j [] ≠ [] → P0 b')
theorem ClsN.cls {P0 : Nat → Prop} {w : World} {a : Option Addr} {cs : List (List Int)} (h : ClsN P0 w a cs) : Cls w a cs := by
  refine ⟨h.1, h.2.imp id ?_⟩
  rintro ⟨b, off, e, _, hl, hc⟩
  exact ⟨b, off, e, hl, fun j hj => by obtain ⟨a', cap', h1, h2, _⟩ := hc j hj; exact ⟨a', cap', h1, h2⟩⟩
theorem ClsN.keep {P0 : Nat → Prop} {w w' : World} {a : Option Addr} {cs : List (List Int)} (h : ClsN P0 w a cs) (hs : w.heap.size ≤ w'.heap.size) (hk : ∀ g, P0 g → g < w.heap.size → w'.heap[g]? = w.heap[g]?) : ClsN P0 w' a cs := by
  refine ⟨h.1, h.2.imp id ?_⟩
  rintro ⟨b, off, e, h0, hl, hc⟩
  refine ⟨b, off, e, h0, Nat.lt_of_lt_of_le hl hs, fun j hj => ?_⟩
  obtain ⟨a', cap', h1, h2, h3⟩ := hc j hj
  refine ⟨a', cap', (World.cell?_of_block (w := w) (a := ⟨b, off + j, none⟩) (hk b h0 hl)).trans h1, ⟨h2.1, ?_⟩, h3⟩
  rcases h2.2 with h | ⟨b', off', e', hl', hc'⟩
  · exact .inl h
  · by_cases hne : cs.getD j [] = []
    · exact .inl hne
    · exact .inr ⟨b', off', e', Nat.lt_of_lt_of_le hl' hs, fun i hi => (World.cell?_of_block (w := w) (a := ⟨b', off' + i, none⟩) (hk b' (h3 b' off' e' hne) hl')).trans (hc' i hi)⟩
theorem ClsN.mono0 {P0 P1 : Nat → Prop} {w : World} {a : Option Addr} {cs : List (List Int)} (h : ClsN P1 w a cs) (hn : ∀ b, P1 b → P0 b) : ClsN P0 w a cs := by
  refine ⟨h.1, h.2.imp id ?_⟩
  rintro ⟨b, off, e, h0, hl, hc⟩
  exact ⟨b, off, e, hn b h0, hl, fun j hj => by obtain ⟨a', cap', h1, h2, h3⟩ := hc j hj; exact ⟨a', cap', h1, h2, fun b' off' e' hne => hn b' (h3 b' off' e' hne)⟩⟩
theorem ClsN.below {P0 : Nat → Prop} {w w' : World} {a : Option Addr} {cs : List (List Int)} (h : ClsN P0 w a cs) (hb : Below w.heap.size w w') : ClsN P0 w' a cs := h.keep hb.size (fun g _ hg => hb.block g hg)
abbrev ClM := List Int × Option Addr × Nat
def clv (q : ClM) : Value := .slice q.2.1 q.1.length q.2.2
/-- A formula while its clauses come: its block, the result's block, its row. -/
structure AllIn (P0 : Nat → Prop) (W : World) (vars : Int) (S : List (List Int)) (v : Value) (wr : World) : Prop where
  blk : wr.heap[W.heap.size + 1]? = some (.cells #[.int .i64 vars, v] 24 (0, 0))
  res : wr.heap[W.heap.size]? = some (.cells #[.int .i64 0, .slice none 0 0] 24 (0, 0))
  row : ∃ Q : List ClM, Q.map (·.1) = S ∧ wr.ownsRow (W.heap.size + 2) 38 1 v S.length (Q.map clv) ∧ ∀ q ∈ Q, Lits W q.2.1 q.1 ∧ ∀ b off, q.2.1 = some ⟨b, off, none⟩ → q.1 ≠ [] → P0 b
  bel : Below W.heap.size W wr
theorem AllIn.two {P0 : Nat → Prop} {W : World} {vars : Int} {S : List (List Int)} {v : Value} {wr : World} (h : AllIn P0 W vars S v wr) : W.heap.size + 2 ≤ wr.heap.size := by
  have := lt_of_blk h.blk
  omega
theorem AllIn.step {P0 : Nat → Prop} {W : World} {vars : Int} {S : List (List Int)} {v : Value} {wr : World} (h : AllIn P0 W vars S v wr) (hS : S.length ≤ 1000000) (a : Option Addr) (c : List Int) (cap : Nat) (hl : Lits W a c) (hn0 : ∀ b off, a = some ⟨b, off, none⟩ → c ≠ [] → P0 b) :
    ∃ g c1 B, (Builtin.append_ #[22, 22] 22 #[v, .slice (some ⟨wr.heap.size, 0, none⟩) 1 1]).run Tryz.prog (wr.drew.alloc (.cells #[.slice a c.length cap] 38)) = .ok (.slice (some ⟨g, 0, none⟩) (S.length + 1) c1) B ∧ B.cell? ⟨W.heap.size + 1, 1, none⟩ = some v ∧ B.frozen? ⟨W.heap.size + 1, 1, none⟩ = false ∧
      AllIn P0 W vars (S ++ [c]) (.slice (some ⟨g, 0, none⟩) (S.length + 1) c1) (B.setCell ⟨W.heap.size + 1, 1, none⟩ (.slice (some ⟨g, 0, none⟩) (S.length + 1) c1)) := by
  obtain ⟨Q, hQ, ho, hq⟩ := h.row
  have h2 := h.two
  obtain ⟨g, c1, B, r1, r2, r3, r4⟩ := push38 (W := wr.drew) (own_below ho ((Below.refl wr.heap.size wr).drew)) a c.length cap (by simpa using h2) (by omega)
  have hal : Below wr.heap.size wr (wr.drew.alloc (.cells #[.slice a c.length cap] 38)) := ((Below.refl wr.heap.size wr).drew).trans (below_box wr.drew _)
  have hkeep : ∀ k o, k < W.heap.size + 2 → wr.heap[k]? = some o → B.heap[k]? = some o := fun k o hk ho' => by
    rw [r3.block k (Nat.lt_of_lt_of_le (lt_of_blk ho') hal.size) (fun e => by have := (own_blk ho e.symm).1; omega), hal.block k (lt_of_blk ho')]
    exact ho'
  have hb1 := hkeep _ _ (by omega) h.blk
  have hb0 := hkeep _ _ (by omega) h.res
  have hgb : W.heap.size + 2 ≤ g := by
    rcases r4 with r4 | r4
    · exact (own_blk ho r4).1
    · rw [r4]; show W.heap.size + 2 ≤ wr.heap.size + 1; omega
  refine ⟨g, c1, B, r1, row_cell hb1 1, row_frozen hb1 1, heap_set_row hb1 _, (heap_other B _ (by omega)).trans hb0, ⟨Q ++ [(c, a, cap)], by rw [List.map_append, hQ]; rfl, ?_, fun q hq' => ?_⟩, ?_⟩
  · rw [List.length_append, List.map_append]
    exact own_set r2 (by omega) _
  · rcases List.mem_append.1 hq' with hq' | hq'
    · exact hq q hq'
    · obtain rfl := List.mem_singleton.1 hq'
      exact ⟨hl, hn0⟩
  · have hb : Below W.heap.size W B := below_grown (h.bel.trans (hal.mono h.bel.size)) r3 (fun k e => by have := (own_blk ho e).1; omega) (Nat.le_trans h.bel.size hal.size)
    exact hb.setCell (show W.heap.size ≤ W.heap.size + 1 by omega) _
theorem AllIn.start (P0 : Nat → Prop) (W : World) (vars : Int) : AllIn P0 W vars [] (.slice none 0 0) ((W.alloc (.cells #[.int .i64 0, .slice none 0 0] 24)).alloc (.cells #[.int .i64 vars, .slice none 0 0] 24)) := by
  have h1 := heap_alloc_new (W.alloc (.cells #[.int .i64 0, .slice none 0 0] 24)) (.cells #[.int .i64 vars, .slice none 0 0] 24)
  rw [alloc_size] at h1
  refine ⟨h1, ?_, ⟨[], rfl, World.ownsRow_nil _ _ _ _, fun q hq => by cases hq⟩, (below_box W _).trans ((below_box _ _).mono (by simp))⟩
  rw [(below_box (W.alloc (.cells #[.int .i64 0, .slice none 0 0] 24)) (.cells #[.int .i64 vars, .slice none 0 0] 24)).block W.heap.size (by simp)]
  exact heap_alloc_new W _
/-- What All and Irredundant tell. -/
def AllOut (P0 : Nat → Prop) (vars : Int) (S : List (List Int)) (W : World) (e : Ending) (w' : World) : Prop := ∃ o c, e = .returned (.agg #[.int .i64 vars, .slice o S.length c]) ∧ ClsN P0 w' o S ∧ Below W.heap.size W w'
theorem AllIn.out {P0 : Nat → Prop} {W : World} {vars : Int} {S : List (List Int)} {o : Option Addr} {n c : Nat} {wr : World} (h : AllIn P0 W vars S (.slice o n c) wr) (hS : ∀ x ∈ S, x.length ≤ 1000000) (hnw : ∀ g, W.heap.size + 2 ≤ g → P0 g) :
    ((wr.setCell ⟨W.heap.size, 0, none⟩ (.int .i64 vars)).setCell ⟨W.heap.size, 1, none⟩ (.slice o n c)).heap[W.heap.size]? = some (.cells #[.int .i64 vars, .slice o n c] 24 (0, 0)) ∧ AllOut P0 vars S W (.returned (.agg #[.int .i64 vars, .slice o n c])) ((wr.setCell ⟨W.heap.size, 0, none⟩ (.int .i64 vars)).setCell ⟨W.heap.size, 1, none⟩ (.slice o n c)) := by
  obtain ⟨Q, hQ, ho, hq⟩ := h.row
  have hn : S.length = n := by
    obtain ⟨o', c', e⟩ := own_slc ho
    injection e with _ e _
    exact e.symm
  have hb2 : Below W.heap.size W ((wr.setCell ⟨W.heap.size, 0, none⟩ (.int .i64 vars)).setCell ⟨W.heap.size, 1, none⟩ (.slice o n c)) := (h.bel.setCell (Nat.le_refl _) _).setCell (Nat.le_refl _) _
  have ho2 := own_set (own_set ho (show W.heap.size < W.heap.size + 2 by omega) (.int .i64 vars) (k := 0)) (show W.heap.size < W.heap.size + 2 by omega) (.slice o n c) (k := 1)
  refine ⟨heap_set_row (heap_set_row h.res _) _, o, c, by rw [hn], ⟨fun x hx => by have := hS x hx; omega, ?_⟩, hb2⟩
  rcases Nat.eq_zero_or_pos S.length with h0 | hp
  · exact .inl (List.eq_nil_of_length_eq_zero h0)
  · right
    rw [hn] at ho2 hp
    obtain ⟨g, e, hge, hg, hc⟩ := own_cell ho2 hp
    refine ⟨g, 0, e, hnw g hge, hg, fun j hj => ?_⟩
    have hjQ : j < Q.length := by rw [← hQ, List.length_map] at hj; exact hj
    have hj2 : S.getD j [] = (Q[j]'hjQ).1 := by
      rw [← hQ]
      simp [List.getD, hjQ]
    refine ⟨(Q[j]'hjQ).2.1, (Q[j]'hjQ).2.2, ?_, ?_, fun b off e hne => (hq _ (List.getElem_mem hjQ)).2 b off e (by rw [← hj2]; exact hne)⟩
    · rw [Nat.zero_add, hc j (by omega), List.getElem?_map, List.getElem?_eq_getElem hjQ, hj2]
      rfl
    · rw [hj2]
      exact (hq _ (List.getElem_mem hjQ)).1.below hb2
theorem own_nil_of {W : World} {base e size n : Nat} {v : Value} {xs : List Value} (h : W.ownsRow base e size v n xs) : ∃ o c, v = .slice o n c := own_slc h
set_option maxHeartbeats 8000000 in
theorem all17 (P0 : Nat → Prop) (vars : Int) (lb n lc : Nat) (L : List Bas.E) (W : World) (hn : L.length = n) (hN : n ≤ 1000000) (hL : ∀ e ∈ L, e.lits.length ≤ 1000000) (hE : EntsN P0 L lb W) (hnw : ∀ g, W.heap.size + 2 ≤ g → P0 g) :
    Calls Tryz.prog 17 #[.int .i64 vars, .slice (some ⟨lb, 0, none⟩) n lc] W fun e w' => AllOut P0 vars (L.map (·.lits)) W e w' := by
  have HE := hid hE
  have HN := hid hn
  have HL := hid hL
  have H0 := hid (AllIn.start P0 W vars)
  clear hE hn hL
  go_enter Tryz.func17, Tryz.ntmps17
  go_wp2_with fail
  go_loopw [6] (fun i wr => ∃ (k : Nat) (v : Value), k ≤ n ∧ i = .int .i64 k ∧ Hid (AllIn P0 W vars ((L.take k).map (·.lits)) v wr)) (fun i _ => n - (intOf i).toNat)
  case atStart => exact ⟨0, _, Nat.zero_le _, rfl, by simpa using H0⟩
  case round =>
    clear H0
    obtain ⟨k, v, hk, rfl, HI⟩ := hrel
    by_cases hlt : k < n
    · have hlt' : (k : Int) < n := by omega
      have hkz : (0 : Int) ≤ (k : Int) := by omega
      have hkl : k < L.length := by rw [HN.out]; exact hlt
      obtain ⟨a, cp, z0, z1, z2, hzl, hzn⟩ := HE.out k hkl
      have hS : ((L.take k).map (·.lits)).length = k := by rw [List.length_map, List.length_take]; omega
      obtain ⟨g, c1, B, r1, y1, y1f, hnx⟩ := HI.out.step (by rw [hS]; omega) a L[k].lits cp hzl hzn
      rw [hS] at r1 hnx
      have hnx' : AllIn P0 W vars ((L.take (k + 1)).map (·.lits)) (.slice (some ⟨g, 0, none⟩) (k + 1) c1) (B.setCell ⟨W.heap.size + 1, 1, none⟩ (.slice (some ⟨g, 0, none⟩) (k + 1) c1)) := by
        rw [List.take_succ_eq_append_getElem hkl, List.map_append]
        exact hnx
      have HNX := hid hnx'
      have hb := HI.out.bel
      have w1 : wr.cell? ⟨lb, k * 3 + 1, none⟩ = some (.slice a L[k].lits.length cp) := (hb.cell (p := ⟨lb, k * 3 + 1, none⟩) (cell_lt z1)).trans z1
      have w0 : wr.cell? ⟨W.heap.size + 1, 1, none⟩ = some v := row_cell HI.out.blk 1
      have hal : Below wr.heap.size wr (wr.drew.alloc (.cells #[.slice a L[k].lits.length cp] 38)) := ((Below.refl wr.heap.size wr).drew).trans (below_box wr.drew _)
      have d1 : wr.drew.cell? ⟨lb, k * 3 + 1, none⟩ = some (.slice a L[k].lits.length cp) := w1
      have d0 : wr.drew.cell? ⟨W.heap.size + 1, 1, none⟩ = some v := w0
      have e1 : (wr.drew.alloc (.cells #[.slice a L[k].lits.length cp] 38)).cell? ⟨lb, k * 3 + 1, none⟩ = some (.slice a L[k].lits.length cp) := (hal.cell (p := ⟨lb, k * 3 + 1, none⟩) (cell_lt w1)).trans w1
      have e0 : (wr.drew.alloc (.cells #[.slice a L[k].lits.length cp] 38)).cell? ⟨W.heap.size + 1, 1, none⟩ = some v := (hal.cell (p := ⟨W.heap.size + 1, 1, none⟩) (cell_lt w0)).trans w0
      have e1' : (wr.alloc (.cells #[.slice a L[k].lits.length cp] 38)).drew.cell? ⟨lb, k * 3 + 1, none⟩ = some (.slice a L[k].lits.length cp) := e1
      have e0' : (wr.alloc (.cells #[.slice a L[k].lits.length cp] 38)).drew.cell? ⟨W.heap.size + 1, 1, none⟩ = some v := e0
      have HR := hid r1
      have HRb := hid (show (Builtin.append_ #[22, 22] 22 #[v, .slice (some ⟨wr.heap.size, 0, none⟩) 1 1]).run Tryz.prog (wr.alloc (.cells #[.slice a L[k].lits.length cp] 38)).drew = .ok (.slice (some ⟨g, 0, none⟩) (k + 1) c1) B from r1)
      clear z0 z1 z2 hzn hzl hnx hnx' hb hal r1 hS
      generalize L[k].lits.length = ln at *
      clear hkl
      go_wp2_with fail
      go_region_law (first | refine step_append_run rfl (.tmp 16) (.tmp 22) 22 22 (by rfl) (by rfl) (by rfl) HR.out ?_ | refine step_append_run rfl (.tmp 16) (.tmp 22) 22 22 (by rfl) (by rfl) (by rfl) HRb.out ?_)
      all_goals
        go_wp2
        go_roundw
        case rel => exact ⟨k + 1, _, by omega, by go_num, HNX⟩
        case measure => simp [intOf]; omega
    · have hge : ¬ (k : Int) < n := by omega
      obtain rfl : k = n := by omega
      have h1 := HI.out
      rw [List.take_of_length_le (by rw [HN.out]; exact Nat.le_refl _)] at h1
      obtain ⟨Q, hQ, ho, _⟩ := h1.row
      obtain ⟨o, c, rfl⟩ := own_slc ho
      have hl2 : ∀ x ∈ L.map (·.lits), x.length ≤ 1000000 := fun x hx => by
        obtain ⟨e, he, rfl⟩ := List.mem_map.1 hx
        exact HL.out e he
      obtain ⟨g0, hout⟩ := h1.out hl2 hnw
      have b0 : wr.cell? ⟨W.heap.size + 1, 0, none⟩ = some (.int .i64 vars) := row_cell h1.blk 0
      have b1 : wr.cell? ⟨W.heap.size + 1, 1, none⟩ = some (.slice o (L.map (·.lits)).length c) := row_cell h1.blk 1
      have c0 : wr.cell? ⟨W.heap.size, 0, none⟩ = some (.int .i64 0) := row_cell h1.res 0
      have c0f := row_frozen h1.res 0
      have c1 : wr.cell? ⟨W.heap.size, 1, none⟩ = some (.slice none 0 0) := row_cell h1.res 1
      have c1f := row_frozen h1.res 1
      have HO := hid hout
      have HG := hid g0
      clear h1 hQ ho hl2 hout g0
      generalize (L.map (·.lits)).length = m at *
      go_wp2_with fail

      refine bodyPost_ret (results_row1 rfl _ _ W.heap.size 24 _ (0, 0) _ rfl HG.out Tryz.underlying24 rfl (by kernel_rfl)) rfl ?_
      exact HO.out
set_option maxHeartbeats 8000000 in
theorem irr25 (P0 : Nat → Prop) (vars : Int) (lb n lc : Nat) (L : List Bas.E) (W : World) (hn : L.length = n) (hN : n ≤ 1000000) (hL : ∀ e ∈ L, e.lits.length ≤ 1000000) (hE : EntsN P0 L lb W) (hnw : ∀ g, W.heap.size + 2 ≤ g → P0 g) :
    Calls Tryz.prog 25 #[.int .i64 vars, .slice (some ⟨lb, 0, none⟩) n lc] W fun e w' => AllOut P0 vars ((L.filter (fun e => !e.red)).map (·.lits)) W e w' := by
  have HE := hid hE
  have HN := hid hn
  have HL := hid hL
  have H0 := hid (AllIn.start P0 W vars)
  clear hE hn hL
  go_enter Tryz.func25, Tryz.ntmps25
  go_wp2_with fail
  go_loopw [6] (fun i wr => ∃ (k : Nat) (v : Value), k ≤ n ∧ i = .int .i64 k ∧ Hid (AllIn P0 W vars (((L.take k).filter (fun e => !e.red)).map (·.lits)) v wr)) (fun i _ => n - (intOf i).toNat)
  case atStart => exact ⟨0, _, Nat.zero_le _, rfl, by simpa using H0⟩
  case round =>
    clear H0
    obtain ⟨k, v, hk, rfl, HI⟩ := hrel
    by_cases hlt : k < n
    · have hlt' : (k : Int) < n := by omega
      have hkz : (0 : Int) ≤ (k : Int) := by omega
      have hkl : k < L.length := by rw [HN.out]; exact hlt
      obtain ⟨a, cp, z0, z1, z2, hzl, hzn⟩ := HE.out k hkl
      have wz : wr.cell? ⟨lb, k * 3 + 2, none⟩ = some (.bool L[k].red) := (HI.out.bel.cell (p := ⟨lb, k * 3 + 2, none⟩) (cell_lt z2)).trans z2
      by_cases hred : L[k].red = false
      · rw [hred] at wz
        obtain ⟨m, hS⟩ : ∃ m, (((L.take k).filter (fun e => !e.red)).map (·.lits)).length = m := ⟨_, rfl⟩
        have hmk : m ≤ k := by rw [← hS, List.length_map]; exact Nat.le_trans (List.length_filter_le _ _) (by rw [List.length_take]; omega)
        obtain ⟨g, c1, B, r1, y1, y1f, hnx⟩ := HI.out.step (by rw [hS]; omega) a L[k].lits cp hzl hzn
        rw [hS] at r1 hnx
        have hnx' : AllIn P0 W vars (((L.take (k + 1)).filter (fun e => !e.red)).map (·.lits)) (.slice (some ⟨g, 0, none⟩) (m + 1) c1) (B.setCell ⟨W.heap.size + 1, 1, none⟩ (.slice (some ⟨g, 0, none⟩) (m + 1) c1)) := by
          rw [List.take_succ_eq_append_getElem hkl, List.filter_append, List.map_append]
          simp only [List.filter_cons, hred, Bool.not_false, if_true, List.filter_nil]
          exact hnx
        have HNX := hid hnx'
        have hb := HI.out.bel
        have w1 : wr.cell? ⟨lb, k * 3 + 1, none⟩ = some (.slice a L[k].lits.length cp) := (hb.cell (p := ⟨lb, k * 3 + 1, none⟩) (cell_lt z1)).trans z1
        have w0 : wr.cell? ⟨W.heap.size + 1, 1, none⟩ = some v := row_cell HI.out.blk 1
        have hal : Below wr.heap.size wr (wr.drew.alloc (.cells #[.slice a L[k].lits.length cp] 38)) := ((Below.refl wr.heap.size wr).drew).trans (below_box wr.drew _)
        have d1 : wr.drew.cell? ⟨lb, k * 3 + 1, none⟩ = some (.slice a L[k].lits.length cp) := w1
        have d0 : wr.drew.cell? ⟨W.heap.size + 1, 1, none⟩ = some v := w0
        have e1 : (wr.drew.alloc (.cells #[.slice a L[k].lits.length cp] 38)).cell? ⟨lb, k * 3 + 1, none⟩ = some (.slice a L[k].lits.length cp) := (hal.cell (p := ⟨lb, k * 3 + 1, none⟩) (cell_lt w1)).trans w1
        have e0 : (wr.drew.alloc (.cells #[.slice a L[k].lits.length cp] 38)).cell? ⟨W.heap.size + 1, 1, none⟩ = some v := (hal.cell (p := ⟨W.heap.size + 1, 1, none⟩) (cell_lt w0)).trans w0
        have e1' : (wr.alloc (.cells #[.slice a L[k].lits.length cp] 38)).drew.cell? ⟨lb, k * 3 + 1, none⟩ = some (.slice a L[k].lits.length cp) := e1
        have e0' : (wr.alloc (.cells #[.slice a L[k].lits.length cp] 38)).drew.cell? ⟨W.heap.size + 1, 1, none⟩ = some v := e0
        have HR := hid r1
        have HRb := hid (show (Builtin.append_ #[22, 22] 22 #[v, .slice (some ⟨wr.heap.size, 0, none⟩) 1 1]).run Tryz.prog (wr.alloc (.cells #[.slice a L[k].lits.length cp] 38)).drew = .ok (.slice (some ⟨g, 0, none⟩) (m + 1) c1) B from r1)
        clear z0 z1 z2 hzn hzl hnx hnx' hb hal r1 hS
        generalize L[k].lits.length = ln at *
        clear hred
        clear hkl
        go_wp2_with fail
        go_region_law (first | refine step_append_run rfl (.tmp 22) (.tmp 28) 22 22 (by rfl) (by rfl) (by rfl) HR.out ?_ | refine step_append_run rfl (.tmp 22) (.tmp 28) 22 22 (by rfl) (by rfl) (by rfl) HRb.out ?_)
        all_goals
          go_wp2
          go_roundw
          case rel => exact ⟨k + 1, _, by omega, by go_num, HNX⟩
          case measure => simp [intOf]; omega
      · have hred' : L[k].red = true := by cases h : L[k].red; exact absurd h hred; rfl
        rw [hred'] at wz
        have HNX := hid (show AllIn P0 W vars (((L.take (k + 1)).filter (fun e => !e.red)).map (·.lits)) v wr from by
          rw [List.take_succ_eq_append_getElem hkl, List.filter_append, List.map_append]
          simp only [List.filter_cons, hred', Bool.not_true, Bool.false_eq_true, if_false, List.filter_nil, List.map_nil, List.append_nil]
          exact HI.out)
        clear z0 z1 z2 hzn hzl hred hred'
        clear hkl
        go_wp2_with fail
        go_roundw
        case rel => exact ⟨k + 1, _, by omega, by go_num, HNX⟩
        case measure => simp [intOf]; omega
    · have hge : ¬ (k : Int) < n := by omega
      obtain rfl : k = n := by omega
      have h1 := HI.out
      rw [List.take_of_length_le (by rw [HN.out]; exact Nat.le_refl _)] at h1
      obtain ⟨Q, hQ, ho, _⟩ := h1.row
      obtain ⟨o, c, rfl⟩ := own_slc ho
      have hl2 : ∀ x ∈ (L.filter (fun e => !e.red)).map (·.lits), x.length ≤ 1000000 := fun x hx => by
        obtain ⟨e, he, rfl⟩ := List.mem_map.1 hx
        exact HL.out e (List.mem_filter.1 he).1
      obtain ⟨g0, hout⟩ := h1.out hl2 hnw
      have b0 : wr.cell? ⟨W.heap.size + 1, 0, none⟩ = some (.int .i64 vars) := row_cell h1.blk 0
      have b1 : wr.cell? ⟨W.heap.size + 1, 1, none⟩ = some (.slice o ((L.filter (fun e => !e.red)).map (·.lits)).length c) := row_cell h1.blk 1
      have c0 : wr.cell? ⟨W.heap.size, 0, none⟩ = some (.int .i64 0) := row_cell h1.res 0
      have c0f := row_frozen h1.res 0
      have c1 : wr.cell? ⟨W.heap.size, 1, none⟩ = some (.slice none 0 0) := row_cell h1.res 1
      have c1f := row_frozen h1.res 1
      have HO := hid hout
      have HG := hid g0
      clear h1 hQ ho hl2 hout g0
      generalize ((L.filter (fun e => !e.red)).map (·.lits)).length = m at *
      go_wp2_with fail

      refine bodyPost_ret (results_row1 rfl _ _ W.heap.size 24 _ (0, 0) _ rfl HG.out Tryz.underlying24 rfl (by kernel_rfl)) rfl ?_
      exact HO.out
end Go.Proofs.YthpebfojkpnojaaGreat

