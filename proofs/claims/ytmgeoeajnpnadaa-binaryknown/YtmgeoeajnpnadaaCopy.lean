/- A row in memory of its own. -/
import Derived.Test.YtmgeoeajnpnadaaSameL
import Derived.Deep.RegionHeld3
namespace Go.Proofs.Ytmgeoeajnpnadaa
open Go.RowKit
set_option linter.unusedVariables false
set_option linter.unusedSimpArgs false

theorem info2 : (Try.prog.info? 2).map (fun i => (i.zero, i.size, i.bytes)) = some (some (.int .i64 0), 1, 8) := by kernel_rfl
theorem info44 : (Try.prog.info? 44).map (fun i => (i.zero, i.size, i.bytes)) = some (some (.int .i32 0), 1, 4) := by kernel_rfl
theorem grown_below {W B : World} (h : W.grownBy B none) : Below W.heap.size W B := ⟨h.os, h.tape, h.output, h.size, fun k hk => h.block k hk (by simp)⟩
/-- A row put behind nothing. -/
theorem copy_row {P : Program} {W : World} {base n : Nat} (t e : TypeId) (i : TypeInfo) (z : Value) (bytes : Nat) (ht : P.underlying t = some (.slice e)) (hi : P.info? e = some i) (hz : i.zero = some z)
    (hsize : i.size = 1) (hby : i.bytes = bytes) (hzs : z.cells.size = 1) {v : Value} {xs : List Value} (h : W.ownsRow base e 1 v n xs) (h1 : ∀ u ∈ xs, u.oneCell' = true) (hn : n ≤ 16777216) (hb8 : bytes ≤ 8) :
    ∃ o c B, (Builtin.append_ #[t, t] t #[.slice none 0 0, v]).run P W = .ok (.slice o n c) B ∧ B.ownsRow W.heap.size e 1 (.slice o n c) n xs ∧ Below W.heap.size W B := by
  rcases h.2 with ⟨rfl, rfl⟩ | ⟨g, cap, cur, rfl, hb, hg, hnc, hcm, hcs, htk⟩
  · refine ⟨none, 0, W, ?_, ?_, Below.refl _ _⟩
    · simp [Builtin.append_, run_underlying ht, sizeOf, typeInfo, zeroValue, hi, hz, Builtin.lenOf, Question.forced, run_firstCells_none]
    · have hx : xs = [] := List.eq_nil_of_length_eq_zero (by rw [h.1])
      rw [hx]
      exact World.ownsRow_nil _ _ _ _
  · have hl := h.1
    have hbb : n * bytes ≤ 140737488355328 := by
      have := Nat.mul_le_mul hn hb8
      omega
    obtain ⟨v2, B, hr, ho2, hgb, _, _⟩ := run_append_own_at (P := P) W W.heap.size t t e i z 1 bytes ht hi hz hsize hby hzs (by decide) (.slice none 0 0) 0 [] (World.ownsRow_nil _ _ _ _) ⟨g, 0, none⟩ n cap xs hl (fun j u hu => by
      have hj : j < xs.length := by
        rcases Nat.lt_or_ge j xs.length with h' | h'
        · exact h'
        · rw [List.getElem?_eq_none h'] at hu; cases hu
      rw [show (⟨g, 0, none⟩ : Addr).add j = ⟨g, j, none⟩ by simp [Addr.add]; intro h9; exact h9.symm, row_cell hg j]
      rw [← htk, List.getElem?_take_of_lt (by omega)] at hu
      simpa using hu) h1 (by simp [maxLen]; omega) (by simpa using hbb) (Nat.le_refl _)
    obtain ⟨o, c, rfl⟩ := own_slc ho2
    rw [Nat.zero_add] at hr ho2
    rw [List.nil_append] at ho2
    exact ⟨o, c, B, hr, ho2, grown_below hgb⟩
theorem one_ints (k : IntKind) (l : List Int) : ∀ u ∈ l.map (Value.int k), u.oneCell' = true := by
  intro u hu
  obtain ⟨x, _, rfl⟩ := List.mem_map.1 hu
  rfl
theorem copy_hints {W : World} {base : Nat} {v : Value} {hs : List Int} (h : W.ownsRow base 2 1 v hs.length (hs.map (Value.int .i64))) (hl : hs.length ≤ 16777216) :
    ∃ o c B, (Builtin.append_ #[39, 39] 39 #[.slice none 0 0, v]).run Try.prog W = .ok (.slice o hs.length c) B ∧ B.ownsRow W.heap.size 2 1 (.slice o hs.length c) hs.length (hs.map (Value.int .i64)) ∧ Below W.heap.size W B := by
  obtain ⟨i0, hi, hz⟩ := Option.map_eq_some_iff.1 info2
  simp only [Prod.mk.injEq] at hz
  exact copy_row 39 2 i0 _ 8 Try.underlying39 hi hz.1 hz.2.1 hz.2.2 rfl h (one_ints _ _) hl (by decide)
theorem copy_lits {W : World} {base : Nat} {v : Value} {ls : List Int} (h : W.ownsRow base 44 1 v ls.length (ls.map (Value.int .i32))) (hl : ls.length ≤ 16777216) :
    ∃ o c B, (Builtin.append_ #[41, 41] 41 #[.slice none 0 0, v]).run Try.prog W = .ok (.slice o ls.length c) B ∧ B.ownsRow W.heap.size 44 1 (.slice o ls.length c) ls.length (ls.map (Value.int .i32)) ∧ Below W.heap.size W B := by
  obtain ⟨i0, hi, hz⟩ := Option.map_eq_some_iff.1 info44
  simp only [Prod.mk.injEq] at hz
  exact copy_row 41 44 i0 _ 4 Try.underlying41 hi hz.1 hz.2.1 hz.2.2 rfl h (one_ints _ _) hl (by decide)
end Go.Proofs.Ytmgeoeajnpnadaa
