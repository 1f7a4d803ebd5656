/- Collect where nothing lives; Collect. -/
import Derived.Test.YtblogmelmpkfhaaCol3
namespace Go.Proofs.Ytblogmelmpkfhaa
open Go.RowKit Go.Maps
set_option linter.unusedVariables false

theorem refs_none {M : List Arn.It} (h : (Arn.refs M 0).length = 0) : Arn.refs M 0 = [] ∧ Arn.collect M = [] :=
  ⟨List.eq_nil_of_length_eq_zero h, List.eq_nil_of_length_eq_zero (by rw [← refs_count M 0]; exact h)⟩
theorem none_done {n ab lim bm nm N c : Nat} {o : Option Addr} {W0 W : World} {M : List Arn.It} (h : Ar n ab lim (.slice o N c) bm M W) (hN : N = Arn.size M) (hcol : Arn.collect M = []) (hf : Fr pA n W0 W) (hm : Mp W nm 0 (fun _ => none)) (hn : n ≤ nm) (W' : World)
    (hW' : ((W.setCell ⟨ab, 1, none⟩ (.slice o 0 c)).setCell ⟨ab, 2, none⟩ (.map (some nm))).setCell ⟨ab, 3, none⟩ (.int .i64 0) = W') : Did n ab lim W0 (Arn.collect M) W' ∧ W.grownBy W' (some ab) := by
  have hq : W'.heap[ab]? = some (.cells #[.int .i64 lim, .slice o 0 c, .map (some nm), .int .i64 0] 69 (0, 0)) := by
    rw [← hW', heap_set_row (heap_set_row (heap_set_row h.blk _) _)]
    rfl
  have ho : ∀ q, q ≠ ab → W'.heap[q]? = W.heap[q]? := fun q hq => by
    rw [← hW']
    exact (heap_other _ _ hq).trans ((heap_other _ _ hq).trans (heap_other _ _ hq))
  have hgr : W.grownBy W' (some ab) := by
    rw [← hW']
    exact ⟨rfl, rfl, rfl, by simp [World.setCell], fun q _ hne => by rw [hW']; exact ho q (fun e => hne (by rw [e]))⟩
  have hnm : nm ≠ ab := by
    obtain ⟨es, cl, hq2⟩ := hm.obj
    rintro rfl
    rw [h.blk] at hq2
    injection hq2 with e; cases e
  rw [hcol]
  refine ⟨⟨⟨.slice o 0 c, nm, h.nab, hn, hq, ?_, ?_, (fun x hx => by cases hx), Nat.zero_le _, h.lim⟩, hf.trans ?_⟩, hgr⟩
  · rcases h.own.2 with ⟨e', h0⟩ | ⟨g', c', cur', e', q1, q2, q3, q4, q5, q6⟩
    · cases e'; exact World.ownsRow_nil _ _ _ _
    · cases e'
      refine own_mk q1 ((ho g' ?_).trans q2) (Nat.zero_le _) q4 (by omega) rfl
      rintro rfl
      rw [h.blk] at q2
      injection q2 with e; injection e with _ e; cases e
  · exact hm.kept hgr (by simpa using hnm)
  · exact Fr.grown hgr (fun q hq2 => by
      cases hq2
      refine ⟨h.nab, fun o ho2 => ?_⟩
      rw [h.blk] at ho2
      cases ho2
      exact .inl rfl)

set_option maxRecDepth 100000 in
set_option maxHeartbeats 4000000 in
theorem collect26_none {n ab lim bm : Nat} {v : Value} {M : List Arn.It} {W : World} (h : Ar n ab lim v bm M W) (hpos0 : (Arn.refs M 0).length = 0) :
    Calls Try.prog 26 #[.pointer (some ⟨ab, 0, none⟩)] W fun e w' => MovesOut W.heap.size (Arn.refs M 0) (Arn.refs (Arn.collect M) 0) e w' ∧ Did n ab lim W (Arn.collect M) w' := by
  have HR := hid (refs25 h)
  obtain ⟨hr0, hcol⟩ := refs_none hpos0
  obtain ⟨o, c, rfl⟩ := own_slc h.own
  obtain ⟨i0, hi, hz⟩ := Option.map_eq_some_iff.1 info63
  simp only [Prod.mk.injEq] at hz
  have HM := hid (fun (w' : World) (hw : W.heap.size ≤ w'.heap.size) => run_make_full (P := Try.prog) w' W.heap.size 54 63 i0 _ 2 Try.underlying54 hi hz.1 hz.2.1 .i64 .i64 0 (by omega) (by unfold maxLen; omega) hw)
  have hmk : ∀ W, (Instr.makeMap 66 (some (.int .i64 0))).run Try.prog W = .ok (.map (some W.heap.size)) (W.alloc (.map #[] 0)) := fun W => by simp [Instr.makeMap, run_underlying Try.underlying66, asInt, asIntOf, Result.andThen]
  have hn : n ≤ W.heap.size := by have := h.nab; have := lt_of_blk h.blk; omega
  have hN : Arn.size M ≤ 268435456 := Nat.le_trans h.fit h.lim
  have hcc : Arn.size M ≤ c ∧ c ≤ 9223372036854775807 := by
    rcases h.own.2 with ⟨e', h0⟩ | ⟨g', c', cur', e', q1, q2, q3, q4, q5, q6⟩
    · injection e' with e1 e2 e3; omega
    · injection e' with e1 e2 e3; unfold maxLen at q4; omega
  have hcc1 := hcc.1
  have hcc2 := hcc.2
  rw [hr0] at HR
  rw [hr0, hcol]
  have HA := hid h
  have HCOL := hid hcol
  clear hi hz hr0 hpos0 h hcc hcol
  go_enter Try.func26, Try.ntmps26
  go_wp2_with (fail)
  go_at_call 25
  refine HR.out.mono ?_
  rintro e w1 ⟨⟨vr, rfl, hvr⟩, hb1⟩
  obtain ⟨ro, rc, rfl⟩ := own_slc hvr
  simp only [List.length_nil] at *
  obtain ⟨w2, hm2', hmo, hg2⟩ := HM.out w1 hb1.size
  have hm2 : (Instr.makeSlice 54 (.int .i64 0) (.int .i64 0)).run Try.prog w1 = .ok (.slice (some ⟨w1.heap.size, 0, none⟩) 0 0) w2 := hm2'
  clear hm2'
  have hb2 := hb1.trans ((Below.refl _ _).grown hg2 hb1.size (fun q hq => by cases hq))
  have hb3 := hb2.alloc hb2.size (.map #[] 0)
  have hA3 := HA.out.below hb3
  obtain ⟨_, c1, c2, c3, f1, f2, f3⟩ := hA3.facts
  have HD := hid (fun W' hW' => none_done hA3 rfl HCOL.out (W0 := W) (Fr.of_below hb3) (Mp.new w2) (Nat.le_trans hn hb2.size) W' hW')
  rw [HCOL.out] at HD
  have HMO := hid (show (w2.alloc (.map #[] 0)).ownsRow W.heap.size 63 2 (.slice (some ⟨w1.heap.size, 0, none⟩) 0 0) 0 [] by
    have := hmo.alloc (.map #[] 0)
    exact ⟨rfl, this.2.imp id (by rintro ⟨g9, c9, cur9, e9, q1, q2, q3, q4, q5, q6⟩; exact ⟨g9, c9, cur9, e9, q1, q2, q3, q4, q5, by simp⟩)⟩)
  have HAB := hid (show some ⟨w1.heap.size, 0, none⟩ = some (⟨w1.heap.size, 0, none⟩ : Addr) ∧ w1.heap.size ≠ ab by
    refine ⟨rfl, ?_⟩
    have := lt_of_blk HA.out.blk
    have := hb1.size
    omega)
  generalize Arn.size M = N at *
  generalize hw3 : w2.alloc (.map #[] 0) = w3 at *
  generalize hnm : w2.heap.size = nm at *
  have hmk2 : (Instr.makeMap 66 (some (.int .i64 0))).run Try.prog w2 = .ok (.map (some nm)) w3 := by rw [hmk w2, hnm, hw3]
  clear hw3 hnm hmk hmo hg2 hb2 hb3 hvr hb1 HM HR HA HCOL hA3
  generalize w1.heap.size = G at *
  go_wp2
  go_loopw [21, 6] (fun iv ev wr => iv = .int .i64 0 ∧ ev = .int .i64 0 ∧ wr = w3) (fun _ _ _ => 0)
  case atStart => exact ⟨rfl, rfl, rfl⟩
  case round =>
    obtain ⟨rfl, rfl, hwr⟩ := hrel
    rw [hwr]
    clear hwr
    go_wp2
    go_ret
    have hd := HD.out _ rfl
    refine ⟨⟨_, rfl, ?_⟩, hd.1⟩
    exact HMO.out.kept hd.2 (.inr (by simp [Value.ownBlock]; exact HAB.out.2))
theorem collect26 {n ab lim : Nat} {M : List Arn.It} {W : World} (hA : Arx n ab lim M W) :
    Calls Try.prog 26 #[.pointer (some ⟨ab, 0, none⟩)] W fun e w' => MovesOut W.heap.size (Arn.refs M 0) (Arn.refs (Arn.collect M) 0) e w' ∧ Did n ab lim W (Arn.collect M) w' := by
  obtain ⟨v, bm, h⟩ := hA
  rcases Nat.eq_zero_or_pos (Arn.refs M 0).length with h0 | h0
  · exact collect26_none h h0
  · have hpos : 0 < Arn.size M := by
      have := Arn.refs_len M 0
      have := Arn.len_size h.ok
      omega
    obtain ⟨g, c, cur, rfl, _⟩ := own_some h.own hpos
    exact collect26_live h h0
end Go.Proofs.Ytblogmelmpkfhaa
