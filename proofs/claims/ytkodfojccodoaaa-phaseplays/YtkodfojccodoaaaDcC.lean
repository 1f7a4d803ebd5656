/- The document's Copy, Kind. -/
import Derived.Test.YtkodfojccodoaaaDcG
namespace Go.Proofs.Ytkodfojccodoaaa
open Go.RowKit Go.Maps
set_option linter.unusedVariables false
set_option linter.unusedSimpArgs false
set_option maxRecDepth 100000
theorem blsone (L : List Bool) : ∀ u ∈ bls L, u.oneCell' = true := by
  intro u hu
  obtain ⟨v, _, rfl⟩ := List.mem_map.1 hu
  rfl
theorem appB {W : World} {o0 : Option Addr} {n c : Nat} {sv : List Bool} (h : W.ownsRow 0 4 1 (.slice o0 n c) n (bls sv)) (hl : n ≤ 16777216) :
    ∃ o k B, (Builtin.append_ #[45, 45] 45 #[.slice none 0 0, .slice o0 n c]).run Try.prog W = .ok (.slice o n k) B ∧ B.ownsRow W.heap.size 4 1 (.slice o n k) n (bls sv) ∧ Below W.heap.size W B := by
  rcases Nat.eq_zero_or_pos n with h0 | h0
  · subst h0
    have e : bls sv = [] := List.eq_nil_of_length_eq_zero h.1
    refine ⟨none, 0, W, ?_, by rw [e]; exact World.ownsRow_nil _ _ _ _, Below.refl _ _⟩
    cases o0 <;> kernel_rfl
  · obtain ⟨g, c', cur, e, _⟩ := own_some h h0
    cases e
    obtain ⟨i0, hi, hz⟩ := Option.map_eq_some_iff.1 info4
    simp only [Prod.mk.injEq] at hz
    obtain ⟨v2, B, hr, ho2, hgb, _, _⟩ := run_append_own_at (P := Try.prog) W W.heap.size 45 45 4 i0 _ 1 1 Try.underlying45 hi hz.1 hz.2.1 hz.2.2 rfl (by decide) (.slice none 0 0) 0 [] (World.ownsRow_nil _ _ _ _) ⟨g, 0, none⟩ n c (bls sv) (by have := h.1; omega) (fun j u hu => by
      have hj : j < n := by
        rcases Nat.lt_or_ge j n with h' | h'
        · exact h'
        · rw [List.getElem?_eq_none (by rw [h.1]; omega)] at hu; cases hu
      rw [show (⟨g, 0, none⟩ : Addr).add j = ⟨g, j, none⟩ by simp [Addr.add]; omega]
      exact (own_cell h hj).1.trans hu) (blsone sv) (by simp [maxLen]; omega) (by omega) (by omega)
    obtain ⟨o, k, rfl⟩ := own_slc ho2
    rw [Nat.zero_add] at hr ho2
    rw [List.nil_append] at ho2
    exact ⟨o, k, B, hr, ho2, ⟨hgb.os, hgb.tape, hgb.output, hgb.size, fun q hq => hgb.block q (by omega) (by intro e; cases e)⟩⟩
def CpD (D : Da) (P : Ph.St) (W : World) (e : Ending) (w' : World) : Prop :=
  ∃ (q : Nat) (v : Value), e = .returned (.pointer (some ⟨q, 0, none⟩)) ∧ Dm { D with qb := q, v := v } P w' ∧ W.heap.size ≤ q ∧ (∀ g, v.ownBlock = some g → W.heap.size ≤ g) ∧ Below W.heap.size W w'
set_option maxHeartbeats 4000000 in
theorem copy13 {D : Da} {P : Ph.St} {W : World} (H : Dm D P W) :
    Calls Try.prog 13 #[.pointer (some ⟨D.qb, 0, none⟩)] W fun e w' => CpD D P W e w' := by
  obtain ⟨o0, c0, hv⟩ := H.val
  have hb := H.blk
  rw [hv] at hb
  have d0 := row_cell hb 0
  have d1 := row_cell hb 1
  have d2 := row_cell hb 2
  have d3 := row_cell hb 3
  have d4 := row_cell hb 4
  have d5 := row_cell hb 5
  have d6 := row_cell hb 6
  have d7 := row_cell hb 7
  have c0' : W.cell? ⟨D.qb, 0, none⟩ = some (.slice o0 D.n c0) := d0
  have c1 : W.cell? ⟨D.qb, 1, none⟩ = some (.bool P.st) := d1
  have c2 : W.cell? ⟨D.qb, 2, none⟩ = some (.int .i64 (P.T.length : Int)) := d2
  have c3 : W.cell? ⟨D.qb, 3, none⟩ = some (.slice D.aT P.T.length D.cT) := d3
  have c4 : W.cell? ⟨D.qb, 4, none⟩ = some (.int .i64 (P.B.length : Int)) := d4
  have c5 : W.cell? ⟨D.qb, 5, none⟩ = some (.slice D.aB P.B.length D.cB) := d5
  have c6 : W.cell? ⟨D.qb, 6, none⟩ = some (.int .u64 P.s) := d6
  have c7 : W.cell? ⟨D.qb, 7, none⟩ = some (.int .i64 (P.k : Int)) := d7
  have O := Obj.cells #[.slice o0 D.n c0, .bool P.st, .int .i64 (P.T.length : Int), .slice D.aT P.T.length D.cT, .int .i64 (P.B.length : Int), .slice D.aB P.B.length D.cB, .int .u64 P.s, .int .i64 (P.k : Int)] 68
  have bx := below_box W (.cells #[.slice o0 D.n c0, .bool P.st, .int .i64 (P.T.length : Int), .slice D.aT P.T.length D.cT, .int .i64 (P.B.length : Int), .slice D.aB P.B.length D.cB, .int .u64 P.s, .int .i64 (P.k : Int)] 68)
  have gx := heap_alloc_new W (.cells #[.slice o0 D.n c0, .bool P.st, .int .i64 (P.T.length : Int), .slice D.aT P.T.length D.cT, .int .i64 (P.B.length : Int), .slice D.aB P.B.length D.cB, .int .u64 P.s, .int .i64 (P.k : Int)] 68)
  obtain ⟨W1, hW1⟩ : ∃ W1, W.alloc (.cells #[.slice o0 D.n c0, .bool P.st, .int .i64 (P.T.length : Int), .slice D.aT P.T.length D.cT, .int .i64 (P.B.length : Int), .slice D.aB P.B.length D.cB, .int .u64 P.s, .int .i64 (P.k : Int)] 68) = W1 := ⟨_, rfl⟩
  rw [hW1] at bx gx
  have H1 := H.below bx
  have hvs := H1.vs
  rw [hv] at hvs
  have hz1 : W1.heap.size = W.heap.size + 1 := by rw [← hW1]; simp
  have e0 : W1.cell? ⟨D.qb, 0, none⟩ = some (.slice o0 D.n c0) := by
    have hb1 := H1.blk
    rw [hv] at hb1
    exact row_cell hb1 0
  obtain ⟨o, k, B, hr, ow, b2⟩ := appB hvs (by have := H.mx; omega)
  have HR := hid hr
  have G2 := (b2.block W.heap.size (lt_of_blk gx)).trans gx
  have f2 := row_frozen G2 0
  have y2 : B.cell? ⟨W.heap.size, 0, none⟩ = some (.slice o0 D.n c0) := row_cell G2 0
  have H2 := H1.below b2
  have hne : ∀ g, (Value.slice o D.n k).ownBlock = some g → W.heap.size < g := fun g hg => by have := (own_blk ow hg).1; omega
  have HO := hid (show CpD D P W (.returned (.pointer (some ⟨W.heap.size, 0, none⟩))) (B.setCell ⟨W.heap.size, 0, none⟩ (.slice o D.n k)) from by
    have hbw : Below W.heap.size W B := bx.trans (b2.mono bx.size)
    refine ⟨W.heap.size, .slice o D.n k, rfl, ⟨?_, ?_, ?_, ?_, H.rT, H.rB, H.mx, H.lt, H.lb⟩, Nat.le_refl _, fun g hg => Nat.le_of_lt (hne g hg), ?_⟩
    · rw [heap_set_row G2]; rfl
    · exact own_base (own_keep ow (fun e => by have := hne _ e; omega) _) (Nat.zero_le _)
    · exact own_keep H2.ts (fun e => by
        obtain ⟨_, cu, hcu⟩ := own_blk H.ts e
        have := lt_of_blk hcu
        omega) _
    · exact own_keep H2.bs (fun e => by
        obtain ⟨_, cu, hcu⟩ := own_blk H.bs e
        have := lt_of_blk hcu
        omega) _
    · exact ⟨hbw.os, hbw.tape, hbw.output, by have := hbw.size; simpa [World.setCell] using this, fun g hg => (heap_other B _ (by omega)).trans (hbw.block g hg)⟩)
  generalize P.T.length = lt at *
  generalize P.B.length = lb at *
  clear H hb d0 d1 d2 d3 d4 d5 d6 d7 O bx gx H1 hvs hz1 hr ow b2 G2 H2 hne hv
  go_enter Try.func13, Try.ntmps13
  go_wp2_with (at_builtin; refine wpList_append_run rfl (.tmp 8) (.tmp 12) 45 45 rfl rfl rfl HR.out ?_)
  go_ret
  exact HO.out
end Go.Proofs.Ytkodfojccodoaaa
