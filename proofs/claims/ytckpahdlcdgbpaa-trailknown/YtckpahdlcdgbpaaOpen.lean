/- The arguments as a row's reading hands them over: calls. -/
import Derived.Test.YtckpahdlcdgbpaaRows
import Derived.Test.YtckpahdlcdgbpaaKit
import Derived.ProofKit
import Derived.OpenShut
import Derived.ChangeOld
import Derived.Deep.Slices
import Derived.Deep.Grids
import Derived.Stop.Joined
import Derived.Deep.Matrix
import Derived.Lib.SmallJoins
import Derived.SizedLaws
namespace Go.Proofs.Ytckpahdlcdgbpaa
open Go.ChangeShapes Go.WideShapes Go.ChangeAt Go.RowKit Go.ChangeShapes
set_option linter.unusedVariables false

theorem own : ownKnob Try.prog.godebug = none := by kernel_rfl
theorem laidOut : laidOutB Try.prog = true := by kernel_rfl
theorem weights_mem_all {H : Type} {P : Program} {e : TypeId} : ∀ {ds : List (DataW H)} {d : DataW H}, d ∈ ds → ∀ n ∈ d.weights P e, n ∈ DataW.weightsAll P e ds
  | d0 :: ds, d, hd, n, hn => by
    simp only [DataW.weightsAll, List.mem_append]
    rcases List.mem_cons.1 hd with rfl | h
    · exact Or.inl hn
    · exact Or.inr (weights_mem_all h n hn)

theorem bytes3 : Try.prog.bytesOf 3 = 8 := by kernel_rfl
theorem reach_val : reachBytes = 140737488351232 := by decide +kernel
theorem ints_open {H : Type} {enc : TypeId × Value → H} {W : World} {fuel : Nat} {v : Value} {y : DataW H × List MemPlace}
    (h : DataW.trod enc Try.prog W 0 (fun _ => true) true fuel 34 [v] = some y) (hw : ∀ x ∈ y.1.weights Try.prog 34, x ≤ reachBytes) : ∃ a len cap xs, v = .slice a len cap ∧ xs.length = len ∧ Hnts W a xs ∧ len ≤ 35184372088832 := by
  rcases open_ints Try.underlying34 Try.underlying3 (by kernel_rfl) h with ⟨hcs, _⟩ | ⟨x, l, c, zs, hcs, _, hl, hm, hz, hy, hcell, hwz⟩
  · simp at hcs
    subst hcs
    exact ⟨none, 0, 0, [], rfl, rfl, ⟨(fun x h => by cases h), .inl rfl⟩, by omega⟩
  · simp at hcs
    subst hcs
    have hzl : zs.length = c := by simpa using hz
    have hcb : c * 8 ≤ 140737488351232 := by
      rw [hy] at hw
      have := hw (zs.length * 8) (by
        simp only [DataW.weights, Try.underlying34, bytes3]
        refine List.mem_cons.2 (Or.inl ?_)
        simp only [lits, List.length_map, List.length_take, List.length_drop]
        rw [show min l zs.length + (zs.length - l) = zs.length by omega])
      rw [reach_val, hzl] at this
      exact this
    refine ⟨some x, l, c, zs.take l, rfl, by simp; omega, ⟨fun y hy => ?_, ?_⟩, by omega⟩
    · have := bounds_i64 (hwz y (List.mem_of_mem_take hy))
      omega
    rcases Nat.eq_zero_or_pos l with h0 | hpos
    · left; subst h0; simp
    · right
      obtain ⟨b, off, rfl, hc⟩ := ints_at hcell (by omega)
      have hb : b < W.heap.size := World.block_lt_of_cell? W _ (hc 0 (by omega))
      refine ⟨b, off, rfl, hb, fun j hj => ?_⟩
      have hj' : j < l := by simp at hj; omega
      rw [hc j (by omega)]
      simp [List.getD, hj']

theorem list4 {α : Type} : ∀ {l : List α}, l.length = 4 → ∃ a b c d, l = [a, b, c, d]
  | [a, b, c, d], _ => ⟨a, b, c, d, rfl⟩
theorem bytes36 : Try.prog.bytesOf 36 = 48 := by kernel_rfl
theorem cells36 : Try.prog.cellsOf 36 = 4 := by kernel_rfl
/-- A call's cells. -/
theorem step_form {H : Type} {enc : TypeId × Value → H} {W : World} {fuel : Nat} {cs : List Value} {y : DataW H × List MemPlace}
    (h : DataW.trod enc Try.prog W 0 (fun _ => true) true fuel 36 cs = some y) (hw : ∀ x ∈ y.1.weights Try.prog 36, x ≤ reachBytes) : ∃ s a cap, cs = sval s a cap ∧ StpOk W s a := by
  obtain ⟨xs, n, _, hy, hl, hlen, hf⟩ := DataW.trod_struct Try.underlying36 h
  rw [cells36] at hl
  obtain ⟨v0, v1, v2, v3, rfl⟩ := list4 hl
  obtain ⟨y0, y1, y2, y3, rfl⟩ := list4 (hlen.trans rfl)
  have g0 := hf 0 _ rfl
  have g1 := hf 1 _ rfl
  have g2 := hf 2 _ rfl
  have g3 := hf 3 _ rfl
  obtain ⟨kd, a1, _, a3⟩ := DataW.trod_int Try.underlying3 (show DataW.trod enc Try.prog W 0 (fun _ => true) true n 3 [v0] = some y0 from by simpa [show Try.prog.cellsOf 3 = 1 by kernel_rfl] using g0)
  obtain ⟨l, b1, _, b3⟩ := DataW.trod_int Try.underlying33 (show DataW.trod enc Try.prog W 0 (fun _ => true) true n 33 [v1] = some y1 from by simpa [show Try.prog.cellsOf 33 = 1 by kernel_rfl] using g1)
  obtain ⟨r, c1, _, c3⟩ := DataW.trod_int Try.underlying3 (show DataW.trod enc Try.prog W 0 (fun _ => true) true n 3 [v2] = some y2 from by simpa [show Try.prog.cellsOf 3 = 1 by kernel_rfl] using g2)
  simp only [List.cons.injEq, and_true] at a1 b1 c1
  subst a1 b1 c1
  rw [hy] at hw
  obtain ⟨a, ln, cap, xs, rfl, hxl, hx, hb⟩ := ints_open (show DataW.trod enc Try.prog W 0 (fun _ => true) true n 34 [v3] = some y3 from by simpa [show Try.prog.cellsOf 34 = 1 by kernel_rfl] using g3) (fun z hz => hw z (by
    simp only [DataW.weights, Try.underlying36]
    exact DataW.weights_mem_each (j := 3) rfl rfl z hz))
  subst hxl
  have := bounds_i64 a3
  have := bounds_i32 b3
  have := bounds_i64 c3
  exact ⟨⟨kd, l, r, xs⟩, a, cap, rfl, hx, hb, ⟨by simp only; omega, by simp only; omega⟩, ⟨by simp only; omega, by simp only; omega⟩, ⟨by simp only; omega, by simp only; omega⟩⟩
instance : Inhabited (Trl.Stp × Option Addr × Nat) := ⟨(⟨0, 0, 0, []⟩, none, 0)⟩
theorem steps_open {H : Type} {enc : TypeId × Value → H} {W : World} {fuel : Nat} {v : Value} {y : DataW H × List MemPlace}
    (h : DataW.trod enc Try.prog W 0 (fun _ => true) true fuel 22 [v] = some y) (hw : ∀ x ∈ y.1.weights Try.prog 22, x ≤ reachBytes) : ∃ a n cap ss, v = .slice a n cap ∧ ss.length = n ∧ Stps W a ss ∧ n ≤ 8796093022208 := by
  rcases Go.Deep.open_slice Try.underlying22 h with ⟨hcs, _⟩ | ⟨x, len, cap, m, fu, D, Pl, hcs, _, hl, hcm, hm, hy, hx⟩
  · simp at hcs
    subst hcs
    exact ⟨none, 0, 0, [], rfl, rfl, .inl rfl, by omega⟩
  · simp at hcs
    subst hcs
    have hm' : m = cap := by simpa using hm
    subst hm'
    rw [hy] at hw
    simp only [DataW.weights, Try.underlying22] at hw
    have hlen : m * 48 ≤ 140737488351232 := by
      have := hw _ List.mem_cons_self
      rw [bytes36, reach_val] at this
      simp only [List.length_map, List.length_range] at this
      omega
    have each : ∀ i, i < len → ∃ q : Trl.Stp × Option Addr × Nat, StpOk W q.1 q.2.1 ∧ ∀ t v, (sval q.1 q.2.1 q.2.2)[t]? = some v → W.cell? (x.add (i * 4 + t)) = some v := by
      intro i hi
      obtain ⟨cs', h1, h2⟩ := hx i (by omega)
      rw [cells36] at h1
      obtain ⟨_, hlen', hcell⟩ := World.cells?_some h1
      have hmem : D i ∈ (List.range len).map D := List.mem_map.2 ⟨i, List.mem_range.2 hi, rfl⟩
      have hwi : ∀ z ∈ (D i).weights Try.prog 36, z ≤ reachBytes := fun z hz => hw z (List.mem_cons_of_mem _ (List.mem_append.2 (Or.inl (weights_mem_all hmem z hz))))
      obtain ⟨s, a, cp, rfl, hs⟩ := step_form h2 hwi
      refine ⟨(s, a, cp), hs, fun t v hv => ?_⟩
      have ht : t < 4 := by
        rcases Nat.lt_or_ge t 4 with h' | h'
        · exact h'
        · rw [List.getElem?_eq_none (by simpa [sval] using h')] at hv; cases hv
      have := hcell t ht
      rw [Go.Deep.add_add] at this
      rw [this]
      exact hv
    obtain ⟨f, hf⟩ := Go.Deep.choose_lt each
    refine ⟨some x, len, m, (List.range len).map (fun i => (f i).1), rfl, by simp, ?_, by omega⟩
    rcases Nat.eq_zero_or_pos len with h0 | hpos
    · left; subst h0; simp
    · right
      obtain ⟨b, off, spot⟩ := x
      have hspot : spot = none := by simpa [Addr.add] using World.cell?_spot ((hf 0 hpos).2 0 _ rfl)
      subst hspot
      refine ⟨b, off, rfl, ?_, fun j hj => ?_⟩
      · have h0 := (hf 0 hpos).2 0 _ rfl
        rw [Go.WideShapes.add_plain] at h0
        exact World.block_lt_of_cell? W _ h0
      · have hj' : j < len := by simpa using hj
        obtain ⟨q0, q1⟩ := hf j hj'
        have e : ((List.range len).map (fun i => (f i).1))[j] = (f j).1 := by simp
        rw [e]
        refine ⟨(f j).2.1, (f j).2.2, q0, fun t v hv => ?_⟩
        have := q1 t v hv
        rw [Go.WideShapes.add_plain] at this
        rw [show off + j * 4 + t = off + (j * 4 + t) by omega]
        exact this
end Go.Proofs.Ytckpahdlcdgbpaa
