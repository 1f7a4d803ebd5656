/- slices.Clone at both rows; a row's copy. -/
import Derived.Test.YtkodfojccodoaaaDos
namespace Go.Proofs.Ytkodfojccodoaaa
open Go.RowKit Go.Maps
set_option linter.unusedVariables false
set_option linter.unusedSimpArgs false
set_option maxRecDepth 100000

/-- A row cloned: what is told is new; where it holds nothing nothing is known of it. -/
def ClO (el : TypeId) (w : World) (xs : List Value) (n : Nat) (e : Ending) (w' : World) : Prop :=
  ∃ g k, e = .returned (sls g n k) ∧ w.heap.size ≤ g ∧ (0 < n → w'.ownsRow 0 el 1 (sls g n k) n xs) ∧ Below w.heap.size w w'

set_option maxHeartbeats 2000000 in
theorem clone26p (g0 : Nat) (n c : Nat) (xs : List Value) (w : World) (hb : n ≤ 1048576) (hx : 0 < n → w.ownsRow 0 4 1 (sls g0 n c) n xs) (hn : xs.length = n) (h1 : ∀ u ∈ xs, u.oneCell' = true) :
    Calls Try.prog 26 #[sls g0 n c] w fun e w' => ClO 4 w xs n e w' := by
  by_cases h0 : n = 0
  · subst h0
    have hb1 := below_box w (.cells #[] 4)
    have HF : Hid (ClO 4 w xs 0 (.returned (sls w.heap.size 0 0)) (w.alloc (.cells #[] 4))) := ⟨w.heap.size, 0, rfl, Nat.le_refl _, fun h => by omega, hb1⟩
    clear hx hn h1 hb1
    have hnil : ∀ W, (binOp .eql 45 (.slice (some ⟨g0, 0, none⟩) 0 c) (.slice none 0 0)).run Try.prog W = .ok (.bool false) W := fun W => by kernel_rfl
    have hrun : ∀ g W, (Builtin.append_ #[45, 45] 45 #[.slice (some ⟨g, 0, none⟩) 0 0, .slice (some ⟨g0, 0, none⟩) 0 c]).run Try.prog W = .ok (.slice (some ⟨g, 0, none⟩) 0 0) W := fun g W => by kernel_rfl
    go_enter Try.func26, Try.ntmps26
    go_wp2_with (at_builtin; refine wpList_append_run rfl (.tmp 5) (.tmp 6) 45 45 rfl rfl rfl (hrun _ _) ?_)
    go_ret
    exact HF.out
  · have hpos : 0 < n := by omega
    have hxo := hx hpos
    obtain ⟨i0, hi, hz⟩ := Option.map_eq_some_iff.1 info4
    simp only [Prod.mk.injEq] at hz
    have hB1 := below_box w (.cells #[] 4)
    have hx1 : (w.alloc (.cells #[] 4)).heap[w.heap.size]? = some (.cells #[] 4 (0, 0)) := heap_alloc_new _ _
    have hl1 := own_below hxo hB1
    have hs1 : w.heap.size ≤ (w.alloc (.cells #[] 4)).heap.size := by simp
    generalize hW1 : w.alloc (.cells #[] 4) = W1 at hB1 hx1 hl1 hs1
    have ho1 : W1.ownsRow w.heap.size 4 1 (.slice (some ⟨w.heap.size, 0, none⟩) 0 0) 0 [] := ⟨rfl, .inr ⟨w.heap.size, 0, #[], rfl, Nat.le_refl _, hx1, Nat.le_refl _, Nat.zero_le _, rfl, rfl⟩⟩
    obtain ⟨v2, B, hr, ho2, hgb, _, _⟩ := run_append_own_at (P := Try.prog) W1 w.heap.size 45 45 4 i0 _ 1 1 Try.underlying45 hi hz.1 hz.2.1 hz.2.2 rfl (by decide) (.slice (some ⟨w.heap.size, 0, none⟩) 0 0) 0 [] ho1 ⟨g0, 0, none⟩ n c xs (by omega) (fun j u hu => by
      have hj : j < n := by
        rcases Nat.lt_or_ge j xs.length with h' | h'
        · omega
        · rw [List.getElem?_eq_none h'] at hu; cases hu
      rw [show (⟨g0, 0, none⟩ : Addr).add j = ⟨g0, j, none⟩ by simp [Addr.add]; omega]
      exact (own_cell hl1 hj).1.trans hu) h1 (by simp [maxLen]; omega) (by omega) (by omega)
    obtain ⟨o, k, rfl⟩ := own_slc ho2
    rw [Nat.zero_add] at hr ho2
    rw [List.nil_append] at ho2
    obtain ⟨g1, k1, cur, e1, hg1, _⟩ := own_some ho2 hpos
    cases e1
    have HR := hid hr
    have HF : Hid (ClO 4 w xs n (.returned (sls g1 n k)) B) := ⟨g1, k, rfl, hg1, fun _ => own_base ho2 (Nat.zero_le _), by
      refine hB1.trans ?_
      exact ⟨hgb.os, hgb.tape, hgb.output, hgb.size, fun q hq => hgb.block q (by omega) (by show some q ≠ some w.heap.size; intro e; injection e with e; omega)⟩⟩
    clear hi hz hB1 hx1 hl1 hs1 ho1 hr ho2 hgb hx hn hxo
    have hnil : ∀ W, (binOp .eql 45 (.slice (some ⟨g0, 0, none⟩) n c) (.slice none 0 0)).run Try.prog W = .ok (.bool false) W := fun W => by kernel_rfl
    go_enter Try.func26, Try.ntmps26
    go_wp2_with (at_builtin; refine wpList_append_run rfl (.tmp 5) (.tmp 6) 45 45 rfl rfl rfl HR.out ?_)
    go_ret
    exact HF.out

set_option maxHeartbeats 2000000 in
theorem clone40p (g0 : Nat) (n c : Nat) (xs : List Value) (w : World) (hb : n ≤ 1048576) (hx : 0 < n → w.ownsRow 0 2 1 (sls g0 n c) n xs) (hn : xs.length = n) (h1 : ∀ u ∈ xs, u.oneCell' = true) :
    Calls Try.prog 40 #[sls g0 n c] w fun e w' => ClO 2 w xs n e w' := by
  by_cases h0 : n = 0
  · subst h0
    have hb1 := below_box w (.cells #[] 2)
    have HF : Hid (ClO 2 w xs 0 (.returned (sls w.heap.size 0 0)) (w.alloc (.cells #[] 2))) := ⟨w.heap.size, 0, rfl, Nat.le_refl _, fun h => by omega, hb1⟩
    clear hx hn h1 hb1
    have hnil : ∀ W, (binOp .eql 57 (.slice (some ⟨g0, 0, none⟩) 0 c) (.slice none 0 0)).run Try.prog W = .ok (.bool false) W := fun W => by kernel_rfl
    have hrun : ∀ g W, (Builtin.append_ #[57, 57] 57 #[.slice (some ⟨g, 0, none⟩) 0 0, .slice (some ⟨g0, 0, none⟩) 0 c]).run Try.prog W = .ok (.slice (some ⟨g, 0, none⟩) 0 0) W := fun g W => by kernel_rfl
    go_enter Try.func40, Try.ntmps40
    go_wp2_with (at_builtin; refine wpList_append_run rfl (.tmp 5) (.tmp 6) 57 57 rfl rfl rfl (hrun _ _) ?_)
    go_ret
    exact HF.out
  · have hpos : 0 < n := by omega
    have hxo := hx hpos
    obtain ⟨i0, hi, hz⟩ := Option.map_eq_some_iff.1 info2
    simp only [Prod.mk.injEq] at hz
    have hB1 := below_box w (.cells #[] 2)
    have hx1 : (w.alloc (.cells #[] 2)).heap[w.heap.size]? = some (.cells #[] 2 (0, 0)) := heap_alloc_new _ _
    have hl1 := own_below hxo hB1
    have hs1 : w.heap.size ≤ (w.alloc (.cells #[] 2)).heap.size := by simp
    generalize hW1 : w.alloc (.cells #[] 2) = W1 at hB1 hx1 hl1 hs1
    have ho1 : W1.ownsRow w.heap.size 2 1 (.slice (some ⟨w.heap.size, 0, none⟩) 0 0) 0 [] := ⟨rfl, .inr ⟨w.heap.size, 0, #[], rfl, Nat.le_refl _, hx1, Nat.le_refl _, Nat.zero_le _, rfl, rfl⟩⟩
    obtain ⟨v2, B, hr, ho2, hgb, _, _⟩ := run_append_own_at (P := Try.prog) W1 w.heap.size 57 57 2 i0 _ 1 8 Try.underlying57 hi hz.1 hz.2.1 hz.2.2 rfl (by decide) (.slice (some ⟨w.heap.size, 0, none⟩) 0 0) 0 [] ho1 ⟨g0, 0, none⟩ n c xs (by omega) (fun j u hu => by
      have hj : j < n := by
        rcases Nat.lt_or_ge j xs.length with h' | h'
        · omega
        · rw [List.getElem?_eq_none h'] at hu; cases hu
      rw [show (⟨g0, 0, none⟩ : Addr).add j = ⟨g0, j, none⟩ by simp [Addr.add]; omega]
      exact (own_cell hl1 hj).1.trans hu) h1 (by simp [maxLen]; omega) (by omega) (by omega)
    obtain ⟨o, k, rfl⟩ := own_slc ho2
    rw [Nat.zero_add] at hr ho2
    rw [List.nil_append] at ho2
    obtain ⟨g1, k1, cur, e1, hg1, _⟩ := own_some ho2 hpos
    cases e1
    have HR := hid hr
    have HF : Hid (ClO 2 w xs n (.returned (sls g1 n k)) B) := ⟨g1, k, rfl, hg1, fun _ => own_base ho2 (Nat.zero_le _), by
      refine hB1.trans ?_
      exact ⟨hgb.os, hgb.tape, hgb.output, hgb.size, fun q hq => hgb.block q (by omega) (by show some q ≠ some w.heap.size; intro e; injection e with e; omega)⟩⟩
    clear hi hz hB1 hx1 hl1 hs1 ho1 hr ho2 hgb hx hn hxo
    have hnil : ∀ W, (binOp .eql 57 (.slice (some ⟨g0, 0, none⟩) n c) (.slice none 0 0)).run Try.prog W = .ok (.bool false) W := fun W => by kernel_rfl
    go_enter Try.func40, Try.ntmps40
    go_wp2_with (at_builtin; refine wpList_append_run rfl (.tmp 5) (.tmp 6) 57 57 rfl rfl rfl HR.out ?_)
    go_ret
    exact HF.out

theorem bel_set {W X : World} {b k : Nat} (h : Below W.heap.size W X) (hb : W.heap.size ≤ b) (v : Value) : Below W.heap.size W (X.setCell ⟨b, k, none⟩ v) :=
  ⟨h.os, h.tape, h.output, by have := h.size; simpa [World.setCell] using this, fun g hg => (heap_other X v (by omega)).trans (h.block g hg)⟩
/-- A row's copy. -/
def RcO (w : World) (ln : Nat) (nm : Int) (mk : List Int) (n : Nat) (e : Ending) (w' : World) : Prop :=
  ∃ g k, e = .returned (.agg #[.int .i64 (ln : Int), .int .i64 nm, sls g n k]) ∧ w.heap.size ≤ g ∧ (0 < n → w'.ownsRow 0 2 1 (sls g n k) n (iss mk)) ∧ Below w.heap.size w w'
theorem iss_one (L : List Int) : ∀ u ∈ iss L, u.oneCell' = true := by
  intro u hu
  obtain ⟨v, _, rfl⟩ := List.mem_map.1 hu
  rfl
theorem bls_one (L : List Bool) : ∀ u ∈ bls L, u.oneCell' = true := by
  intro u hu
  obtain ⟨v, _, rfl⟩ := List.mem_map.1 hu
  rfl
section
variable {A : Adr} {st : Bool} {sv : List Bool} {lt : Nat} {nt : Int} {mt : List Int} {lb : Nat} {nb : Int} {mb : List Int} {s : Int} {k : Nat} {W : World}
set_option maxHeartbeats 4000000 in
theorem copy27T (H : Pr A st sv lt nt mt lb nb mb s k W) : Calls Try.prog 27 #[.pointer (some ⟨A.pb, 2, none⟩)] W fun e w' => RcO W lt nt mt A.n e w' := by
  have hb0 := below_box W (.cells #[.int .i64 0, .int .i64 0, .slice none 0 0] 59)
  have hg0 := heap_alloc_new W (.cells #[.int .i64 0, .int .i64 0, .slice none 0 0] 59)
  have hlt0 : W.heap.size < (W.alloc (.cells #[.int .i64 0, .int .i64 0, .slice none 0 0] 59)).drew.heap.size := by show W.heap.size < (W.alloc _).heap.size; simp
  have C40 := hid (fun (X : World) (hX : Below W.heap.size W X) => clone40p A.gt A.n A.ct (iss mt) X H.mx (fun h => own_below (H.rt h) hX) (by simp [iss, H.lt']) (iss_one mt))
  have HS := hid (fun (X : World) (hX : Below W.heap.size W X) => show X.cell? ⟨A.pb, 2, none⟩ = some (.int .i64 (lt : Int)) ∧ X.cell? ⟨A.pb, 3, none⟩ = some (.int .i64 nt) ∧ X.cell? ⟨A.pb, 4, none⟩ = some (sls A.gt A.n A.ct) from ⟨row_cell (H.below hX).blk 2, row_cell (H.below hX).blk 3, row_cell (H.below hX).blk 4⟩)
  generalize A.n = n at *
  clear H
  go_enter Try.func27, Try.ntmps27
  go_wp2_with (fail)
  go_region_held3 (fun X => X.cell? ⟨A.pb, 2, none⟩ = some (.int .i64 (lt : Int)) ∧ X.cell? ⟨A.pb, 3, none⟩ = some (.int .i64 nt) ∧ X.cell? ⟨A.pb, 4, none⟩ = some (sls A.gt n A.ct)) (first | exact HS.out _ hb0.drew | exact HS.out _ B1 | exact HS.out _ (bel_set (bel_set (bel_set B1 (Nat.le_refl _) _) (Nat.le_refl _) _) (Nat.le_refl _) _))
    ((go_at_call 40; refine (C40.out _ hb0.drew).mono ?_; rintro e w1 ⟨g, k1, rfl, l1, o1, b1⟩; have B1 := hb0.drew.trans (b1.mono hb0.drew.size); have G1 := (b1.block W.heap.size hlt0).trans hg0; have z0 := row_cell G1 0; have z1 := row_cell G1 1; have z2 := row_cell G1 2; have f0 := row_frozen G1 0; have f1 := row_frozen G1 1; have f2 := row_frozen G1 2))
  all_goals
    have hg1 : W.heap.size < g := by have := l1; have := hlt0; omega
    have HO := hid (show RcO W lt nt mt n (.returned (.agg #[.int .i64 (lt : Int), .int .i64 nt, sls g n k1])) (((w1.setCell ⟨W.heap.size, 0, none⟩ (.int .i64 (lt : Int))).setCell ⟨W.heap.size, 1, none⟩ (.int .i64 nt)).setCell ⟨W.heap.size, 2, none⟩ (.slice (some ⟨g, 0, none⟩) n k1)) from
      ⟨g, k1, rfl, by omega, fun h => own_keep (own_keep (own_keep (o1 h) (fun e => by injection e with e; have e2 : g = W.heap.size := e; omega) _) (fun e => by injection e with e; have e2 : g = W.heap.size := e; omega) _) (fun e => by injection e with e; have e2 : g = W.heap.size := e; omega) _, bel_set (bel_set (bel_set B1 (Nat.le_refl _) _) (Nat.le_refl _) _) (Nat.le_refl _) _⟩)
    have HG := hid (heap_set_row (heap_set_row (heap_set_row G1 (k := 0) (.int .i64 (lt : Int))) (k := 1) (.int .i64 nt)) (k := 2) (.slice (some ⟨g, 0, none⟩) n k1))
    clear hg0 hb0 hlt0 l1 o1 b1 B1 G1 z0 z1 z2 f0 f1 f2 hg1
    go_wp2_with (fail)
    refine bodyPost_ret (results_cell_row rfl _ _ W.heap.size 59 _ (0, 0) _ rfl HG.out Try.underlying59 rfl (by kernel_rfl)) rfl ?_
    exact HO.out
set_option maxHeartbeats 4000000 in
theorem copy27B (H : Pr A st sv lt nt mt lb nb mb s k W) : Calls Try.prog 27 #[.pointer (some ⟨A.pb, 5, none⟩)] W fun e w' => RcO W lb nb mb A.n e w' := by
  have hb0 := below_box W (.cells #[.int .i64 0, .int .i64 0, .slice none 0 0] 59)
  have hg0 := heap_alloc_new W (.cells #[.int .i64 0, .int .i64 0, .slice none 0 0] 59)
  have hlt0 : W.heap.size < (W.alloc (.cells #[.int .i64 0, .int .i64 0, .slice none 0 0] 59)).drew.heap.size := by show W.heap.size < (W.alloc _).heap.size; simp
  have C40 := hid (fun (X : World) (hX : Below W.heap.size W X) => clone40p A.gb A.n A.cb (iss mb) X H.mx (fun h => own_below (H.rb h) hX) (by simp [iss, H.lb']) (iss_one mb))
  have HS := hid (fun (X : World) (hX : Below W.heap.size W X) => show X.cell? ⟨A.pb, 5, none⟩ = some (.int .i64 (lb : Int)) ∧ X.cell? ⟨A.pb, 6, none⟩ = some (.int .i64 nb) ∧ X.cell? ⟨A.pb, 7, none⟩ = some (sls A.gb A.n A.cb) from ⟨row_cell (H.below hX).blk 5, row_cell (H.below hX).blk 6, row_cell (H.below hX).blk 7⟩)
  generalize A.n = n at *
  clear H
  go_enter Try.func27, Try.ntmps27
  go_wp2_with (fail)
  go_region_held3 (fun X => X.cell? ⟨A.pb, 5, none⟩ = some (.int .i64 (lb : Int)) ∧ X.cell? ⟨A.pb, 6, none⟩ = some (.int .i64 nb) ∧ X.cell? ⟨A.pb, 7, none⟩ = some (sls A.gb n A.cb)) (first | exact HS.out _ hb0.drew | exact HS.out _ B1 | exact HS.out _ (bel_set (bel_set (bel_set B1 (Nat.le_refl _) _) (Nat.le_refl _) _) (Nat.le_refl _) _))
    ((go_at_call 40; refine (C40.out _ hb0.drew).mono ?_; rintro e w1 ⟨g, k1, rfl, l1, o1, b1⟩; have B1 := hb0.drew.trans (b1.mono hb0.drew.size); have G1 := (b1.block W.heap.size hlt0).trans hg0; have z0 := row_cell G1 0; have z1 := row_cell G1 1; have z2 := row_cell G1 2; have f0 := row_frozen G1 0; have f1 := row_frozen G1 1; have f2 := row_frozen G1 2))
  all_goals
    have hg1 : W.heap.size < g := by have := l1; have := hlt0; omega
    have HO := hid (show RcO W lb nb mb n (.returned (.agg #[.int .i64 (lb : Int), .int .i64 nb, sls g n k1])) (((w1.setCell ⟨W.heap.size, 0, none⟩ (.int .i64 (lb : Int))).setCell ⟨W.heap.size, 1, none⟩ (.int .i64 nb)).setCell ⟨W.heap.size, 2, none⟩ (.slice (some ⟨g, 0, none⟩) n k1)) from
      ⟨g, k1, rfl, by omega, fun h => own_keep (own_keep (own_keep (o1 h) (fun e => by injection e with e; have e2 : g = W.heap.size := e; omega) _) (fun e => by injection e with e; have e2 : g = W.heap.size := e; omega) _) (fun e => by injection e with e; have e2 : g = W.heap.size := e; omega) _, bel_set (bel_set (bel_set B1 (Nat.le_refl _) _) (Nat.le_refl _) _) (Nat.le_refl _) _⟩)
    have HG := hid (heap_set_row (heap_set_row (heap_set_row G1 (k := 0) (.int .i64 (lb : Int))) (k := 1) (.int .i64 nb)) (k := 2) (.slice (some ⟨g, 0, none⟩) n k1))
    clear hg0 hb0 hlt0 l1 o1 b1 B1 G1 z0 z1 z2 f0 f1 f2 hg1
    go_wp2_with (fail)
    refine bodyPost_ret (results_cell_row rfl _ _ W.heap.size 59 _ (0, 0) _ rfl HG.out Try.underlying59 rfl (by kernel_rfl)) rfl ?_
    exact HO.out
end
end Go.Proofs.Ytkodfojccodoaaa
