/- The arguments as a row's reading hands them over: records. -/
import Derived.Test.YtekkbpaelojmeaaOpen
import Derived.Test.YtekkbpaelojmeaaRws
namespace Go.Proofs.Ytekkbpaelojmeaa
open Go.ChangeShapes Go.WideShapes Go.ChangeAt Go.RowKit Go.ChangeShapes
set_option linter.unusedVariables false

theorem reach_val : reachBytes = 140737488351232 := by decide +kernel
theorem list5 {α : Type} : ∀ {l : List α}, l.length = 5 → ∃ a b c d e, l = [a, b, c, d, e]
  | [a, b, c, d, e], _ => ⟨a, b, c, d, e, rfl⟩
theorem cells45 : Try.prog.cellsOf 45 = 5 := by kernel_rfl
theorem bytes45 : Try.prog.bytesOf 45 = 40 := by kernel_rfl
theorem cells2 : Try.prog.cellsOf 2 = 1 := by kernel_rfl
theorem cells3 : Try.prog.cellsOf 3 = 1 := by kernel_rfl
theorem cells4 : Try.prog.cellsOf 4 = 1 := by kernel_rfl
/-- A record's cells. -/
theorem item_form {H : Type} {enc : TypeId × Value → H} {W : World} {fuel : Nat} {cs : List Value} {y : DataW H × List MemPlace}
    (h : DataW.trod enc Try.prog W 0 (fun _ => true) true fuel 45 cs = some y) : ∃ r : Rc, cs = rec5 r ∧ r.Ok := by
  obtain ⟨xs, n, _, hy, hl, hlen, hf⟩ := DataW.trod_struct Try.underlying45 h
  rw [cells45] at hl
  obtain ⟨v0, v1, v2, v3, v4, rfl⟩ := list5 hl
  obtain ⟨y0, y1, y2, y3, y4, rfl⟩ := list5 (hlen.trans rfl)
  have g0 := hf 0 _ rfl
  have g1 := hf 1 _ rfl
  have g2 := hf 2 _ rfl
  have g3 := hf 3 _ rfl
  have g4 := hf 4 _ rfl
  obtain ⟨x0, a1, _, a3⟩ := DataW.trod_int Try.underlying2 (show DataW.trod enc Try.prog W 0 (fun _ => true) true n 2 [v0] = some y0 from by simpa [cells2, cells3, cells4] using g0)
  obtain ⟨x1, b1, _, b3⟩ := DataW.trod_int Try.underlying3 (show DataW.trod enc Try.prog W 0 (fun _ => true) true n 3 [v1] = some y1 from by simpa [cells2, cells3, cells4] using g1)
  obtain ⟨x2, c1, _, d3⟩ := DataW.trod_int Try.underlying3 (show DataW.trod enc Try.prog W 0 (fun _ => true) true n 3 [v2] = some y2 from by simpa [cells2, cells3, cells4] using g2)
  obtain ⟨x3, d1, _, e3⟩ := DataW.trod_int Try.underlying3 (show DataW.trod enc Try.prog W 0 (fun _ => true) true n 3 [v3] = some y3 from by simpa [cells2, cells3, cells4] using g3)
  obtain ⟨x4, e1, _⟩ := DataW.trod_bool Try.underlying4 (show DataW.trod enc Try.prog W 0 (fun _ => true) true n 4 [v4] = some y4 from by simpa [cells2, cells3, cells4] using g4)
  simp only [List.cons.injEq, and_true] at a1 b1 c1 d1 e1
  subst a1 b1 c1 d1 e1
  exact ⟨⟨⟨x0, x1, x2, x3⟩, x4⟩, rfl, ⟨bounds_i64 a3, bounds_i64 b3, bounds_i64 d3, bounds_i64 e3⟩⟩
theorem steps_open {H : Type} {enc : TypeId × Value → H} {W : World} {fuel : Nat} {v : Value} {y : DataW H × List MemPlace}
    (h : DataW.trod enc Try.prog W 0 (fun _ => true) true fuel 22 [v] = some y) (hw : ∀ x ∈ y.1.weights Try.prog 22, x ≤ reachBytes) : ∃ a n cap ss, v = .slice a n cap ∧ ss.length = n ∧ Rcs W a ss ∧ n ≤ 8796093022208 := by
  rcases Go.Deep.open_slice Try.underlying22 h with ⟨hcs, _⟩ | ⟨x, len, cap, m, fu, D, Pl, hcs, _, hl, hcm, hm, hy, hx⟩
  · simp at hcs
    subst hcs
    exact ⟨none, 0, 0, [], rfl, rfl, .inl rfl, by omega⟩
  · simp at hcs
    subst hcs
    have hm' : m = cap := by simpa using hm
    subst hm'
    rw [hy] at hw
    simp only [DataW.weights, Try.underlying22] at hw
    have hlen : m * 40 ≤ 140737488351232 := by
      have := hw _ List.mem_cons_self
      rw [bytes45, reach_val] at this
      simp only [List.length_map, List.length_range] at this
      omega
    have each : ∀ i, i < len → ∃ r : Rc, r.Ok ∧ ∀ t v, (rec5 r)[t]? = some v → W.cell? (x.add (i * 5 + t)) = some v := by
      intro i hi
      obtain ⟨cs', h1, h2⟩ := hx i (by omega)
      rw [cells45] at h1
      obtain ⟨_, hlen', hcell⟩ := World.cells?_some h1
      obtain ⟨r, rfl, hr⟩ := item_form h2
      refine ⟨r, hr, fun t v hv => ?_⟩
      have ht : t < 5 := by
        rcases Nat.lt_or_ge t 5 with h' | h'
        · exact h'
        · rw [List.getElem?_eq_none (by simpa [rec5] using h')] at hv; cases hv
      have := hcell t ht
      rw [Go.Deep.add_add] at this
      rw [this]
      exact hv
    obtain ⟨f, hf⟩ := Go.Deep.choose_lt each
    refine ⟨some x, len, m, (List.range len).map f, rfl, by simp, ?_, by omega⟩
    rcases Nat.eq_zero_or_pos len with h0 | hpos
    · left; subst h0; simp
    · right
      obtain ⟨b, off, spot⟩ := x
      have hspot : spot = none := by simpa [Addr.add] using World.cell?_spot ((hf 0 hpos).2 0 _ rfl)
      subst hspot
      refine ⟨b, off, rfl, ?_, fun j hj => ?_⟩
      · have h0 := (hf 0 hpos).2 0 _ rfl
        rw [Go.WideShapes.add_plain] at h0
        exact World.block_lt_of_cell? W _ h0
      · have hj' : j < len := by simpa using hj
        obtain ⟨q0, q1⟩ := hf j hj'
        have e : ((List.range len).map f)[j] = f j := by simp
        rw [e]
        refine ⟨q0, fun t v hv => ?_⟩
        have := q1 t v hv
        rw [Go.WideShapes.add_plain] at this
        rw [show off + j * 5 + t = off + (j * 5 + t) by omega]
        exact this
end Go.Proofs.Ytekkbpaelojmeaa
