/- Of any formula the program's Find and Count answer as the document's own do: the first model, whether there is one, how many there are, and the error; at most 12 variables that count, 60 clauses, 300 literals (the statement's own bounds); no other condition. -/
import Derived.Test.YtccncojidkdddaaRows
import Derived.Test.YtccncojidkdddaaFinds
import Derived.Test.YtccncojidkdddaaOpen
import Derived.ShutString
import Derived.ChangeMaps5
import Derived.Below
namespace Go.Proofs.Ytccncojidkdddaa.truthFinds
open Go.ChangeShapes Go.WideShapes Go.ChangeAt Go.ChangeMaps Go.RowKit Go.Joins
set_option linter.unusedVariables false

set_option maxRecDepth 100000 in
theorem lifted (os : Os) (started : os.Started) (H : Type) (enc : TypeId × Value → H) :
    ReturnsInHanded {} Try.checked os 3 .any (Rows.truthFindsSpec.pre6 enc Try.prog Try.f3 Rows.truthFindsRow.domain false) (Rows.truthFindsSpec.post enc Try.prog Try.f3 false true false false) := by
  refine returnsInHanded_of_change_sized (C := Try.checked) own started (by kernel_rfl) Try.func3
    (ChangeSpec.witness6 (enc := enc) (C := Try.checked) false ⟨#[], #[.agg #[.int .i64 0, .slice none 0 0]], []⟩ 8 (by kernel_rfl) (by kernel_rfl) (by kernel_rfl) (by kernel_rfl)) ?_
  intro W base args ds gs before hval0 hW hcnd0 hsz0 hholds
  have hval : ∀ (j : Nat) t v, Try.f3.params[j]? = some t → args[j]? = some v → Value.okWide Try.prog W .any base t v := hval0
  have hsz : (DataW.weightsEach Try.prog (Try.f3.params.toList ++ Rows.truthFindsSpec.plain.varTypes Try.prog) (ds ++ gs)).all (· ≤ reachBytes) = true := hsz0
  have hW' := hW
  obtain ⟨p, q, hA0, hV, rfl, hfz, hnd⟩ := hW
  have hA : DataW.TrodAll enc Try.prog W 0 (fun _ => true) true Try.f3.params.toList args.toList ds p := hA0
  rw [Try.params3] at hA hval hsz
  obtain ⟨v0, vs0, d0, ds0, p0, q0, hargs, rfl, rfl, h0, r0⟩ := trodAll_cons hA
  obtain ⟨rfl, rfl, rfl⟩ := trodAll_nil r0
  obtain rfl : args = #[v0] := by cases args; simp_all
  obtain ⟨rfl, rfl⟩ := trodVars_none hV
  have k0 := h0
  have lt0 : ∀ x ∈ p0, x.block < W.heap.size := by obtain ⟨m, hm⟩ := k0; exact DataW.trod_lt m _ _ _ hm
  obtain ⟨c00, c01, y00, y01, m0, rfl, rfl, rfl, hy00, hy01⟩ := open_agg2 Try.underlying24 (by kernel_rfl) cellsF (hval 0 24 v0 rfl rfl) h0
  obtain ⟨vars0, e00, e01, wv0⟩ := DataW.trod_int Try.underlying3 hy00
  simp only [List.cons.injEq, and_true] at e00
  subst e00
  have hws0 : ∀ x ∈ y01.1.weights Try.prog 22, x ≤ reachBytes := by
    intro x hx
    have hm2 : x ∈ (DataW.agg [y00.1, y01.1] : DataW H).weights Try.prog 24 := by
      simp only [DataW.weights, Try.underlying24]
      exact DataW.weights_mem_each (j := 1) rfl rfl x hx
    have := List.all_eq_true.1 hsz _ (DataW.weights_mem_each (j := 0) (t := 24) (d := .agg [y00.1, y01.1]) rfl rfl x hm2)
    simpa using this
  obtain ⟨a0, len0, cap0, z0, rfl, hl0, w0, hn0⟩ := cls_open hy01 hws0
  clear hA0 hval0
  refine (law3 vars0 a0 len0 cap0 z0 W hl0 hn0 w0).mono fun e W' ⟨he, bel⟩ => ?_
  subst he
  exact ⟨_, rfl, _, _, _, [], _, [], hW', trodAll_mk1 (shut_bool Try.underlying4 _), (trodAll_cons_mk (Below.trod laidOut (by kernel_rfl) (of_decide_eq_true (by kernel_rfl)) k0 bel lt0) trodAll_mk0), rfl, bel.frame _, fun h => by cases h⟩

theorem over : Rows.truthFindsRow.holds Try.pinned (OpenSpec.ofChange Rows.truthFindsSpec) :=
  OpenClaim.holds_of_wide 3 Try.f3 rfl rfl rfl rfl rfl rfl rfl ⟨rfl, rfl, rfl, rfl, rfl⟩ rfl rfl rfl rfl rfl (by kernel_rfl) Try.func3 (by kernel_rfl)
    (of_decide_eq_true (by kernel_rfl)) (by unfold Func.isWrapper; first | (rw [if_pos (by decide +kernel)]; kernel_rfl) | (rw [if_neg (by decide +kernel)]; exact ⟨rfl, rfl⟩))
    (fun os started H enc _ => lifted os started H enc)

end Go.Proofs.Ytccncojidkdddaa.truthFinds
namespace Go.Proofs.Ytccncojidkdddaa
open Go

/-- The given statement. -/
theorem truthFinds_holds : Rows.TruthFindsSaid := truthFinds.over
end Go.Proofs.Ytccncojidkdddaa
