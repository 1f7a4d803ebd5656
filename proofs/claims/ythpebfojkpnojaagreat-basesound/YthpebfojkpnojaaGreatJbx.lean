/- Whatever formula and calls are handed in, what a base takes follows: each clause that is added is true in every model of those that were live, the models of the live clauses that are not redundant, and of all, are the models of the formula, and an empty clause is there only if it has none; the input reads as it did. No condition. -/
import Derived.Test.YthpebfojkpnojaaGreatRows
import Derived.Test.YthpebfojkpnojaaGreatJbv
import Derived.Test.YthpebfojkpnojaaGreatJbw
import Derived.ShutString
import Derived.ChangeMaps5
import Derived.Below
/- Whatever formula and calls are handed in, what a base takes follows: each clause that is added is true in every model of those that were live, the models of the live clauses that are not redundant, and of all, are the models of the formula, and an empty clause is there only if it has none; the input reads as it did. No condition. -/
namespace Go.Proofs.YthpebfojkpnojaaGreat.baseSound
open Go.ChangeShapes Go.WideShapes Go.ChangeAt Go.ChangeMaps Go.RowKit Go.Joins
set_option linter.unusedVariables false

set_option maxRecDepth 100000 in
theorem lifted (os : Os) (started : os.Started) (H : Type) (enc : TypeId × Value → H) :
    ReturnsInHanded {} Tryz.checked os 4 .any (Rows.baseSoundSpec.pre6 enc Tryz.prog Tryz.f4 Rows.baseSoundRow.domain false) (Rows.baseSoundSpec.post enc Tryz.prog Tryz.f4 false true false false) := by
  refine returnsInHanded_of_change_sized (C := Tryz.checked) own started (by kernel_rfl) Tryz.func4
    (ChangeSpec.witness6 (enc := enc) (C := Tryz.checked) false ⟨#[], #[.agg #[.int .i64 0, .slice none 0 0], .slice none 0 0], []⟩ 8 (by kernel_rfl) (by kernel_rfl) (by kernel_rfl) (by kernel_rfl)) ?_
  intro W base args ds gs before hval0 hW hcnd0 hsz0 hholds
  have hval : ∀ (j : Nat) t v, Tryz.f4.params[j]? = some t → args[j]? = some v → Value.okWide Tryz.prog W .any base t v := hval0
  have hsz : (DataW.weightsEach Tryz.prog (Tryz.f4.params.toList ++ Rows.baseSoundSpec.plain.varTypes Tryz.prog) (ds ++ gs)).all (· ≤ reachBytes) = true := hsz0
  have hW' := hW
  obtain ⟨p, q, hA0, hV, rfl, hfz, hnd⟩ := hW
  have hA : DataW.TrodAll enc Tryz.prog W 0 (fun _ => true) true Tryz.f4.params.toList args.toList ds p := hA0
  rw [Tryz.params4] at hA hval hsz
  obtain ⟨v0, vs0, d0, ds0, p0, q0, hargs, rfl, rfl, h0, r0⟩ := trodAll_cons hA
  obtain ⟨v1, vs1, d1, ds1, p1, q1, rfl, rfl, rfl, h1, r1⟩ := trodAll_cons r0
  obtain ⟨rfl, rfl, rfl⟩ := trodAll_nil r1
  obtain rfl : args = #[v0, v1] := by cases args; simp_all
  obtain ⟨rfl, rfl⟩ := trodVars_none hV
  have k0 := h0
  have lt0 : ∀ x ∈ p0, x.block < W.heap.size := by obtain ⟨m, hm⟩ := k0; exact DataW.trod_lt m _ _ _ hm
  obtain ⟨c00, c01, y00, y01, m0, rfl, rfl, rfl, hy00, hy01⟩ := open_agg2 Tryz.underlying24 (by kernel_rfl) cellsF (hval 0 24 v0 rfl rfl) h0
  obtain ⟨vars0, e00, e01, wv0⟩ := DataW.trod_int Tryz.underlying3 hy00
  simp only [List.cons.injEq, and_true] at e00
  subst e00
  have hws0 : ∀ x ∈ y01.1.weights Tryz.prog 22, x ≤ reachBytes := by
    intro x hx
    have hm2 : x ∈ (DataW.agg [y00.1, y01.1] : DataW H).weights Tryz.prog 24 := by
      simp only [DataW.weights, Tryz.underlying24]
      exact DataW.weights_mem_each (j := 1) rfl rfl x hx
    have := List.all_eq_true.1 hsz _ (DataW.weights_mem_each (j := 0) (t := 24) (d := .agg [y00.1, y01.1]) rfl rfl x hm2)
    simpa using this
  obtain ⟨a0, len0, cap0, z0, rfl, hl0, w0, hn0⟩ := cls_open hy01 hws0
  have k1 := h1
  have lt1 : ∀ x ∈ p1, x.block < W.heap.size := by obtain ⟨m, hm⟩ := k1; exact DataW.trod_lt m _ _ _ hm
  obtain ⟨a1, len1, cap1, rfl⟩ := okWide_slice Tryz.underlying25 (hval 1 25 v1 rfl rfl)
  obtain ⟨fu1, hf1⟩ := h1
  have hws1 : ∀ x ∈ d1.weights Tryz.prog 25, x ≤ reachBytes := by
    intro x hx
    have := List.all_eq_true.1 hsz _ (DataW.weights_mem_each (j := 1) (t := 25) (d := d1) rfl rfl x hx)
    simpa using this
  obtain ⟨_, _, _, z1, e1, hl1, w1, hn1⟩ := steps_open (y := (d1, p1)) hf1 hws1
  injection e1 with e1a e1b e1c
  subst e1a e1b e1c
  clear hA0 hval0
  refine (law4 vars0 a0 a1 len0 cap0 len1 cap1 z0 z1 W hl0 hn0 w0 hl1 hn1 w1).mono fun e W' ⟨he, bel⟩ => ?_
  subst he
  exact ⟨_, rfl, _, _, _, [], _, [], hW', trodAll_mk1 (shut_bool Tryz.underlying4 _), (trodAll_cons_mk (Below.trod laidOut (by kernel_rfl) (of_decide_eq_true (by kernel_rfl)) k0 bel lt0) (trodAll_cons_mk (Below.trod laidOut (by kernel_rfl) (of_decide_eq_true (by kernel_rfl)) k1 bel lt1) trodAll_mk0)), rfl, bel.frame _, fun h => by cases h⟩

theorem over : Rows.baseSoundRow.holds Tryz.pinned (OpenSpec.ofChange Rows.baseSoundSpec) :=
  OpenClaim.holds_of_wide 4 Tryz.f4 rfl rfl rfl rfl rfl rfl rfl ⟨rfl, rfl, rfl, rfl, rfl⟩ rfl rfl rfl rfl rfl (by kernel_rfl) Tryz.func4 (by kernel_rfl)
    (of_decide_eq_true (by kernel_rfl)) (by unfold Func.isWrapper; first | (rw [if_pos (by decide +kernel)]; kernel_rfl) | (rw [if_neg (by decide +kernel)]; exact ⟨rfl, rfl⟩))
    (fun os started H enc _ => lifted os started H enc)

end Go.Proofs.YthpebfojkpnojaaGreat.baseSound
namespace Go.Proofs.YthpebfojkpnojaaGreat
open Go

/-- The given statement. -/
theorem baseSound_holds : Rows.BaseSoundSaid := baseSound.over
end Go.Proofs.YthpebfojkpnojaaGreat

