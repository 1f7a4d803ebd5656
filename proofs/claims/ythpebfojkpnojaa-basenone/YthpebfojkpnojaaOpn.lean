/- A call as a row's reading hands it over. -/
import Derived.Test.YthpebfojkpnojaaRows
import Derived.Test.YthpebfojkpnojaaBsm
import Derived.ProofKit
import Derived.OpenShut
import Derived.ChangeOld
import Derived.Deep.Slices
import Derived.Deep.Grids
import Derived.Stop.Joined
import Derived.Deep.Matrix
import Derived.Lib.SmallJoins
import Derived.SizedLaws
namespace Go.Proofs.Ythpebfojkpnojaa
open Go.ChangeShapes Go.WideShapes Go.ChangeAt Go.RowKit Go.ChangeShapes
set_option linter.unusedVariables false

theorem own : ownKnob Try.prog.godebug = none := by kernel_rfl
theorem laidOut : laidOutB Try.prog = true := by kernel_rfl
theorem slice_form {H : Type} {enc : TypeId × Value → H} {W : World} {fuel T e : Nat} {v : Value} {y : DataW H × List MemPlace} (hT : Try.prog.underlying T = some (.slice e))
    (h : DataW.trod enc Try.prog W 0 (fun _ => true) true fuel T [v] = some y) : ∃ a n c, v = .slice a n c := by
  rcases Go.Deep.open_slice hT h with ⟨hcs, _⟩ | ⟨x, len, cap, m, fu, D, Pl, hcs, _⟩
  · simp at hcs
    exact ⟨none, 0, 0, hcs⟩
  · simp at hcs
    exact ⟨some x, len, cap, hcs⟩
theorem list6 {α : Type} : ∀ {l : List α}, l.length = 6 → ∃ a b c d e f, l = [a, b, c, d, e, f]
  | [a, b, c, d, e, f], _ => ⟨a, b, c, d, e, f, rfl⟩
theorem cells26 : Try.prog.cellsOf 26 = 6 := by kernel_rfl
/-- A call's cells, their forms alone. -/
theorem step_form {H : Type} {enc : TypeId × Value → H} {W : World} {fuel : Nat} {cs : List Value} {y : DataW H × List MemPlace}
    (h : DataW.trod enc Try.prog W 0 (fun _ => true) true fuel 26 cs = some y) : ∃ k id by_ : Int, ∃ a n c a2 n2 c2, ∃ r : Bool, cs = [.int .i64 k, .int .i64 id, .int .i64 by_, .slice a n c, .slice a2 n2 c2, .bool r] := by
  obtain ⟨xs, n, _, hy, hl, hlen, hf⟩ := DataW.trod_struct Try.underlying26 h
  rw [cells26] at hl
  obtain ⟨v0, v1, v2, v3, v4, v5, rfl⟩ := list6 hl
  obtain ⟨y0, y1, y2, y3, y4, y5, rfl⟩ := list6 (hlen.trans rfl)
  have g0 := hf 0 _ rfl
  have g1 := hf 1 _ rfl
  have g2 := hf 2 _ rfl
  have g3 := hf 3 _ rfl
  have g4 := hf 4 _ rfl
  have g5 := hf 5 _ rfl
  obtain ⟨k, a1, _, _⟩ := DataW.trod_int Try.underlying3 (show DataW.trod enc Try.prog W 0 (fun _ => true) true n 3 [v0] = some y0 from by simpa [show Try.prog.cellsOf 3 = 1 by kernel_rfl] using g0)
  obtain ⟨id, b1, _, _⟩ := DataW.trod_int Try.underlying2 (show DataW.trod enc Try.prog W 0 (fun _ => true) true n 2 [v1] = some y1 from by simpa [show Try.prog.cellsOf 2 = 1 by kernel_rfl] using g1)
  obtain ⟨by_, c1, _, _⟩ := DataW.trod_int Try.underlying2 (show DataW.trod enc Try.prog W 0 (fun _ => true) true n 2 [v2] = some y2 from by simpa [show Try.prog.cellsOf 2 = 1 by kernel_rfl] using g2)
  obtain ⟨a, m, c, rfl⟩ := slice_form Try.underlying23 (show DataW.trod enc Try.prog W 0 (fun _ => true) true n 23 [v3] = some y3 from by simpa [show Try.prog.cellsOf 23 = 1 by kernel_rfl] using g3)
  obtain ⟨a2, m2, c2, rfl⟩ := slice_form Try.underlying24 (show DataW.trod enc Try.prog W 0 (fun _ => true) true n 24 [v4] = some y4 from by simpa [show Try.prog.cellsOf 24 = 1 by kernel_rfl] using g4)
  obtain ⟨r, e1, _⟩ := DataW.trod_bool Try.underlying4 (show DataW.trod enc Try.prog W 0 (fun _ => true) true n 4 [v5] = some y5 from by simpa [show Try.prog.cellsOf 4 = 1 by kernel_rfl] using g5)
  simp only [List.cons.injEq, and_true] at a1 b1 c1 e1
  subst a1 b1 c1 e1
  exact ⟨k, id, by_, a, m, c, a2, m2, c2, r, rfl⟩
end Go.Proofs.Ythpebfojkpnojaa
