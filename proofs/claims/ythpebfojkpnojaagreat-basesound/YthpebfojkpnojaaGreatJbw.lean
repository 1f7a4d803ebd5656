/- A call as a row's reading hands it over. -/
import Derived.Test.YthpebfojkpnojaaGreatRows
import Derived.Test.YthpebfojkpnojaaGreatJac
import Derived.ProofKit
import Derived.OpenShut
import Derived.ChangeOld
import Derived.Deep.Slices
import Derived.Deep.Grids
import Derived.Stop.Joined
import Derived.Deep.Matrix
import Derived.Lib.SmallJoins
import Derived.SizedLaws
import Derived.Test.YthpebfojkpnojaaGreatJbs
/- A call as a row's reading hands it over. -/
namespace Go.Proofs.YthpebfojkpnojaaGreat
open Go.ChangeShapes Go.WideShapes Go.ChangeAt Go.RowKit Go.ChangeShapes
set_option linter.unusedVariables false

theorem own : ownKnob Tryz.prog.godebug = none := by kernel_rfl
theorem laidOut : laidOutB Tryz.prog = true := by kernel_rfl
theorem slice_form {H : Type} {enc : TypeId × Value → H} {W : World} {fuel T e : Nat} {v : Value} {y : DataW H × List MemPlace} (hT : Tryz.prog.underlying T = some (.slice e))
    (h : DataW.trod enc Tryz.prog W 0 (fun _ => true) true fuel T [v] = some y) : ∃ a n c, v = .slice a n c := by
  rcases Go.Deep.open_slice hT h with ⟨hcs, _⟩ | ⟨x, len, cap, m, fu, D, Pl, hcs, _⟩
  · simp at hcs
    exact ⟨none, 0, 0, hcs⟩
  · simp at hcs
    exact ⟨some x, len, cap, hcs⟩
theorem list6 {α : Type} : ∀ {l : List α}, l.length = 6 → ∃ a b c d e f, l = [a, b, c, d, e, f]
  | [a, b, c, d, e, f], _ => ⟨a, b, c, d, e, f, rfl⟩
theorem cells26 : Tryz.prog.cellsOf 41 = 6 := by kernel_rfl
/-- A call's cells, their forms alone. -/
theorem step_form {H : Type} {enc : TypeId × Value → H} {W : World} {fuel : Nat} {cs : List Value} {y : DataW H × List MemPlace}
    (h : DataW.trod enc Tryz.prog W 0 (fun _ => true) true fuel 41 cs = some y) : ∃ k id by_ : Int, ∃ a n c a2 n2 c2, ∃ r : Bool, cs = [.int .i64 k, .int .i64 id, .int .i64 by_, .slice a n c, .slice a2 n2 c2, .bool r] := by
  obtain ⟨xs, n, _, hy, hl, hlen, hf⟩ := DataW.trod_struct Tryz.underlying41 h
  rw [cells26] at hl
  obtain ⟨v0, v1, v2, v3, v4, v5, rfl⟩ := list6 hl
  obtain ⟨y0, y1, y2, y3, y4, y5, rfl⟩ := list6 (hlen.trans rfl)
  have g0 := hf 0 _ rfl
  have g1 := hf 1 _ rfl
  have g2 := hf 2 _ rfl
  have g3 := hf 3 _ rfl
  have g4 := hf 4 _ rfl
  have g5 := hf 5 _ rfl
  obtain ⟨k, a1, _, _⟩ := DataW.trod_int Tryz.underlying3 (show DataW.trod enc Tryz.prog W 0 (fun _ => true) true n 3 [v0] = some y0 from by simpa [show Tryz.prog.cellsOf 3 = 1 by kernel_rfl] using g0)
  obtain ⟨id, b1, _, _⟩ := DataW.trod_int Tryz.underlying2 (show DataW.trod enc Tryz.prog W 0 (fun _ => true) true n 2 [v1] = some y1 from by simpa [show Tryz.prog.cellsOf 2 = 1 by kernel_rfl] using g1)
  obtain ⟨by_, c1, _, _⟩ := DataW.trod_int Tryz.underlying2 (show DataW.trod enc Tryz.prog W 0 (fun _ => true) true n 2 [v2] = some y2 from by simpa [show Tryz.prog.cellsOf 2 = 1 by kernel_rfl] using g2)
  obtain ⟨a, m, c, rfl⟩ := slice_form Tryz.underlying38 (show DataW.trod enc Tryz.prog W 0 (fun _ => true) true n 38 [v3] = some y3 from by simpa [show Tryz.prog.cellsOf 38 = 1 by kernel_rfl] using g3)
  obtain ⟨a2, m2, c2, rfl⟩ := slice_form Tryz.underlying39 (show DataW.trod enc Tryz.prog W 0 (fun _ => true) true n 39 [v4] = some y4 from by simpa [show Tryz.prog.cellsOf 39 = 1 by kernel_rfl] using g4)
  obtain ⟨r, e1, _⟩ := DataW.trod_bool Tryz.underlying4 (show DataW.trod enc Tryz.prog W 0 (fun _ => true) true n 4 [v5] = some y5 from by simpa [show Tryz.prog.cellsOf 4 = 1 by kernel_rfl] using g5)
  simp only [List.cons.injEq, and_true] at a1 b1 c1 e1
  subst a1 b1 c1 e1
  exact ⟨k, id, by_, a, m, c, a2, m2, c2, r, rfl⟩
end Go.Proofs.YthpebfojkpnojaaGreat

/- The arguments as a row's reading hands them over: formulas; calls. -/
namespace Go.Proofs.YthpebfojkpnojaaGreat
open Go.ChangeShapes Go.WideShapes Go.ChangeAt Go.RowKit
set_option linter.unusedVariables false

theorem reach_val : reachBytes = 140737488351232 := by decide +kernel
theorem bytes23 : Tryz.prog.bytesOf 38 = 24 := by kernel_rfl
theorem bytes45 : Tryz.prog.bytesOf 66 = 4 := by kernel_rfl
theorem ints_open {H : Type} {enc : TypeId × Value → H} {W : World} {fuel : Nat} {v : Value} {y : DataW H × List MemPlace} {T E : TypeId} {k : IntKind} {lo hi : Int} {by_ : Nat} (hT : Tryz.prog.underlying T = some (.slice E)) (hE : Tryz.prog.underlying E = some (.int k)) (hC : Tryz.prog.cellsOf E = 1) (hB : Tryz.prog.bytesOf E = by_) (hb4 : 4 ≤ by_)
    (hk : ∀ n, (Lit.int k n).wf = true → lo ≤ n ∧ n ≤ hi)
    (h : DataW.trod enc Tryz.prog W 0 (fun _ => true) true fuel T [v] = some y) (hw : ∀ x ∈ y.1.weights Tryz.prog T, x ≤ reachBytes) : ∃ a len cap xs, v = .slice a len cap ∧ xs.length = len ∧ Row k lo hi W a xs ∧ len ≤ 35184372088832 ∧ len ≤ cap ∧ cap ≤ maxLen := by
  rcases open_ints hT hE hC h with ⟨hcs, _⟩ | ⟨x, l, c, zs, hcs, _, hl, hm, hz, hy, hcell, hwz⟩
  · simp at hcs
    subst hcs
    exact ⟨none, 0, 0, [], rfl, rfl, Row.nil _ _ _ _ _, by omega, Nat.le_refl _, Nat.zero_le _⟩
  · simp at hcs
    subst hcs
    have hzl : zs.length = c := by simpa using hz
    have hcb : c * by_ ≤ 140737488351232 := by
      rw [hy] at hw
      have := hw (zs.length * by_) (by
        simp only [DataW.weights, hT, hB]
        refine List.mem_cons.2 (Or.inl ?_)
        simp only [lits, List.length_map, List.length_take, List.length_drop]
        rw [show min l zs.length + (zs.length - l) = zs.length by omega])
      rw [reach_val, hzl] at this
      exact this
    have hl4 : l * 4 ≤ c * by_ := Nat.mul_le_mul hl hb4
    refine ⟨some x, l, c, zs.take l, rfl, by simp; omega, ⟨fun y hy => hk _ (hwz y (List.mem_of_mem_take hy)), ?_⟩, by omega, hl, hm⟩
    rcases Nat.eq_zero_or_pos l with h0 | hpos
    · left; subst h0; simp
    · right
      obtain ⟨b, off, rfl, hc⟩ := ints_at hcell (by omega)
      have hb : b < W.heap.size := World.block_lt_of_cell? W _ (hc 0 (by omega))
      refine ⟨b, off, rfl, hb, fun j hj => ?_⟩
      have hj' : j < l := by simp at hj; omega
      rw [hc j (by omega)]
      simp [List.getD, hj']
theorem weights_mem_all {H : Type} {P : Program} {e : TypeId} : ∀ {ds : List (DataW H)} {d : DataW H}, d ∈ ds → ∀ n ∈ d.weights P e, n ∈ DataW.weightsAll P e ds
  | d0 :: ds, d, hd, n, hn => by
    simp only [DataW.weightsAll, List.mem_append]
    rcases List.mem_cons.1 hd with rfl | h
    · exact Or.inl hn
    · exact Or.inr (weights_mem_all h n hn)
instance : Inhabited (Bas.Cal × (Option Addr × Nat) × (Option Addr × Nat)) := ⟨(⟨0, 0, 0, [], [], false⟩, (none, 0), (none, 0))⟩
theorem bytes26 : Tryz.prog.bytesOf 41 = 80 := by kernel_rfl
/-- A call's cells. -/
theorem cal_form {H : Type} {enc : TypeId × Value → H} {W : World} {fuel : Nat} {cs : List Value} {y : DataW H × List MemPlace}
    (h : DataW.trod enc Tryz.prog W 0 (fun _ => true) true fuel 41 cs = some y) (hw : ∀ x ∈ y.1.weights Tryz.prog 41, x ≤ reachBytes) : ∃ s, ∃ p q : Option Addr × Nat, cs = cval s p q ∧ CalOk W s p.1 q.1 := by
  obtain ⟨xs, n, _, hy, hl, hlen, hf⟩ := DataW.trod_struct Tryz.underlying41 h
  rw [cells26] at hl
  obtain ⟨v0, v1, v2, v3, v4, v5, rfl⟩ := list6 hl
  obtain ⟨y0, y1, y2, y3, y4, y5, rfl⟩ := list6 (hlen.trans rfl)
  have g0 := hf 0 _ rfl
  have g1 := hf 1 _ rfl
  have g2 := hf 2 _ rfl
  have g3 := hf 3 _ rfl
  have g4 := hf 4 _ rfl
  have g5 := hf 5 _ rfl
  obtain ⟨k, a1, _, a3⟩ := DataW.trod_int Tryz.underlying3 (show DataW.trod enc Tryz.prog W 0 (fun _ => true) true n 3 [v0] = some y0 from by simpa [show Tryz.prog.cellsOf 3 = 1 by kernel_rfl] using g0)
  obtain ⟨id, b1, _, b3⟩ := DataW.trod_int Tryz.underlying2 (show DataW.trod enc Tryz.prog W 0 (fun _ => true) true n 2 [v1] = some y1 from by simpa [show Tryz.prog.cellsOf 2 = 1 by kernel_rfl] using g1)
  obtain ⟨by_, c1, _, c3⟩ := DataW.trod_int Tryz.underlying2 (show DataW.trod enc Tryz.prog W 0 (fun _ => true) true n 2 [v2] = some y2 from by simpa [show Tryz.prog.cellsOf 2 = 1 by kernel_rfl] using g2)
  rw [hy] at hw
  obtain ⟨a, m, c, xs, rfl, hm, hx, hb, _, _⟩ := ints_open (lo := -2147483648) (hi := 2147483647) Tryz.underlying38 Tryz.underlying66 (by kernel_rfl) (show Tryz.prog.bytesOf 66 = 4 by kernel_rfl) (by decide) (fun n hn => by have := bounds_i32 hn; omega) (show DataW.trod enc Tryz.prog W 0 (fun _ => true) true n 38 [v3] = some y3 from by simpa [show Tryz.prog.cellsOf 38 = 1 by kernel_rfl] using g3) (fun z hz => hw z (by
    simp only [DataW.weights, Tryz.underlying41]
    exact DataW.weights_mem_each (j := 3) rfl rfl z hz))
  obtain ⟨a2, m2, c2, hs, rfl, hm2, hh, hb2, _, _⟩ := ints_open (lo := -9223372036854775808) (hi := 9223372036854775807) Tryz.underlying39 Tryz.underlying2 (by kernel_rfl) (show Tryz.prog.bytesOf 2 = 8 by kernel_rfl) (by decide) (fun n hn => by have := bounds_i64 hn; omega) (show DataW.trod enc Tryz.prog W 0 (fun _ => true) true n 39 [v4] = some y4 from by simpa [show Tryz.prog.cellsOf 39 = 1 by kernel_rfl] using g4) (fun z hz => hw z (by
    simp only [DataW.weights, Tryz.underlying41]
    exact DataW.weights_mem_each (j := 4) rfl rfl z hz))
  obtain ⟨r, e1, _⟩ := DataW.trod_bool Tryz.underlying4 (show DataW.trod enc Tryz.prog W 0 (fun _ => true) true n 4 [v5] = some y5 from by simpa [show Tryz.prog.cellsOf 4 = 1 by kernel_rfl] using g5)
  simp only [List.cons.injEq, and_true] at a1 b1 c1 e1
  subst a1 b1 c1 e1 hm hm2
  have := bounds_i64 a3
  have := bounds_i64 b3
  have := bounds_i64 c3
  exact ⟨⟨k, id, by_, xs, hs, r⟩, (a, c), (a2, c2), rfl, hx, hh, hb, hb2, ⟨by simp only; omega, by simp only; omega⟩, ⟨by simp only; omega, by simp only; omega⟩, ⟨by simp only; omega, by simp only; omega⟩⟩
theorem steps_open {H : Type} {enc : TypeId × Value → H} {W : World} {fuel : Nat} {v : Value} {y : DataW H × List MemPlace}
    (h : DataW.trod enc Tryz.prog W 0 (fun _ => true) true fuel 25 [v] = some y) (hw : ∀ x ∈ y.1.weights Tryz.prog 25, x ≤ reachBytes) : ∃ a n cap ss, v = .slice a n cap ∧ ss.length = n ∧ Cals W a ss ∧ n ≤ 8796093022208 := by
  rcases Go.Deep.open_slice Tryz.underlying25 h with ⟨hcs, _⟩ | ⟨x, len, cap, m, fu, D, Pl, hcs, _, hl, hcm, hm, hy, hx⟩
  · simp at hcs
    subst hcs
    exact ⟨none, 0, 0, [], rfl, rfl, .inl rfl, by omega⟩
  · simp at hcs
    subst hcs
    have hm' : m = cap := by simpa using hm
    subst hm'
    rw [hy] at hw
    simp only [DataW.weights, Tryz.underlying25] at hw
    have hlen : m * 80 ≤ 140737488351232 := by
      have := hw _ List.mem_cons_self
      rw [bytes26, reach_val] at this
      simp only [List.length_map, List.length_range] at this
      omega
    have each : ∀ i, i < len → ∃ q : Bas.Cal × (Option Addr × Nat) × (Option Addr × Nat), CalOk W q.1 q.2.1.1 q.2.2.1 ∧ ∀ t v, (cval q.1 q.2.1 q.2.2)[t]? = some v → W.cell? (x.add (i * 6 + t)) = some v := by
      intro i hi
      obtain ⟨cs', h1, h2⟩ := hx i (by omega)
      rw [cells26] at h1
      obtain ⟨_, hlen', hcell⟩ := World.cells?_some h1
      have hmem : D i ∈ (List.range len).map D := List.mem_map.2 ⟨i, List.mem_range.2 hi, rfl⟩
      have hwi : ∀ z ∈ (D i).weights Tryz.prog 41, z ≤ reachBytes := fun z hz => hw z (List.mem_cons_of_mem _ (List.mem_append.2 (Or.inl (weights_mem_all hmem z hz))))
      obtain ⟨s, p, q, rfl, hs⟩ := cal_form h2 hwi
      refine ⟨(s, p, q), hs, fun t v hv => ?_⟩
      have ht : t < 6 := by
        rcases Nat.lt_or_ge t 6 with h' | h'
        · exact h'
        · rw [List.getElem?_eq_none (by simpa [cval] using h')] at hv; cases hv
      have := hcell t ht
      rw [Go.Deep.add_add] at this
      rw [this]
      exact hv
    obtain ⟨f, hf⟩ := Go.Deep.choose_lt each
    refine ⟨some x, len, m, (List.range len).map (fun i => (f i).1), rfl, by simp, ?_, by omega⟩
    rcases Nat.eq_zero_or_pos len with h0 | hpos
    · left; subst h0; simp
    · right
      obtain ⟨b, off, spot⟩ := x
      have hspot : spot = none := by simpa [Addr.add] using World.cell?_spot ((hf 0 hpos).2 0 _ rfl)
      subst hspot
      refine ⟨b, off, rfl, ?_, fun j hj => ?_⟩
      · have h0 := (hf 0 hpos).2 0 _ rfl
        rw [Go.WideShapes.add_plain] at h0
        exact World.block_lt_of_cell? W _ h0
      · have hj' : j < len := by simpa using hj
        obtain ⟨q0, q1⟩ := hf j hj'
        have e : ((List.range len).map (fun i => (f i).1))[j] = (f j).1 := by simp
        rw [e]
        refine ⟨(f j).2.1, (f j).2.2, q0, fun t v hv => ?_⟩
        have := q1 t v hv
        rw [Go.WideShapes.add_plain] at this
        rw [show off + j * 6 + t = off + (j * 6 + t) by omega]
        exact this
theorem cls_open {H : Type} {enc : TypeId × Value → H} {W : World} {v : Value} {fuel : Nat} {y : DataW H × List MemPlace}
    (h : DataW.trod enc Tryz.prog W 0 (fun _ => true) true fuel 22 [v] = some y) (hw : ∀ x ∈ y.1.weights Tryz.prog 22, x ≤ reachBytes) :
    ∃ a n cap cs, v = .slice a n cap ∧ cs.length = n ∧ Cls W a cs ∧ n ≤ 8796093022208 := by
  rcases Go.Deep.open_int_rows Tryz.underlying22 Tryz.underlying38 Tryz.underlying66 (by kernel_rfl) (by kernel_rfl) h with ⟨hcs, _⟩ | ⟨x, len, cap, A, L, C, Z, hcs, _, hl, hm, hy, hr⟩
  · simp at hcs
    subst hcs
    exact ⟨none, 0, 0, [], rfl, rfl, ⟨(fun c hc => by simp at hc), .inl rfl⟩, Nat.zero_le _⟩
  · simp at hcs
    subst hcs
    rw [hy] at hw
    simp only [DataW.weights, Tryz.underlying22] at hw
    have hlen := hw ((((List.range len).map fun r => (Go.Deep.intRow .i32 (A r) (L r) (Z r) : DataW H)).length + ((List.range (cap - len)).map fun j => (Go.Deep.intRow .i32 (A (len + j)) (L (len + j)) (Z (len + j)) : DataW H)).length) * Tryz.prog.bytesOf 38) List.mem_cons_self
    have hcap : cap * 24 ≤ 140737488351232 := by
      rw [bytes23, reach_val] at hlen
      simp only [List.length_map, List.length_range] at hlen
      omega
    have hrow : ∀ r, r < len → L r ≤ 35184372088832 := by
      intro r hrl
      obtain ⟨_, h1, _, h3, _, h5, _⟩ := hr r (by omega)
      cases hA : A r with
      | none => have := h5 hA; omega
      | some a' =>
        have hmem : (Go.Deep.intRow .i32 (A r) (L r) (Z r) : DataW H) ∈ (List.range len).map fun r => (Go.Deep.intRow .i32 (A r) (L r) (Z r) : DataW H) := List.mem_map.2 ⟨r, List.mem_range.2 hrl, rfl⟩
        have hz := hw (C r * 4) (List.mem_cons_of_mem _ (List.mem_append.2 (Or.inl (weights_mem_all hmem _ (by
          rw [hA]
          simp only [Go.Deep.intRow, DataW.weights, Tryz.underlying38, bytes45]
          refine List.mem_cons.2 (Or.inl ?_)
          simp only [lits, List.length_map, List.length_take, List.length_drop]
          rw [h3]
          omega)))))
        rw [reach_val] at hz
        omega
    refine ⟨some x, len, cap, (List.range len).map (fun r => (Z r).take (L r)), rfl, by simp, ⟨?_, ?_⟩, by omega⟩
    · intro c hc
      obtain ⟨r, hrl, rfl⟩ := List.mem_map.1 hc
      have := hrow r (List.mem_range.1 hrl)
      simp only [List.length_take]
      omega
    · rcases Nat.eq_zero_or_pos len with h0 | hpos
      · left; subst h0; simp
      · right
        obtain ⟨b, off, spot⟩ := x
        have hspot : spot = none := by simpa [Addr.add] using World.cell?_spot (hr 0 (by omega)).1
        subst hspot
        have hb : b < W.heap.size := by
          have h0 := (hr 0 (by omega)).1
          rw [Go.WideShapes.add_plain] at h0
          exact World.block_lt_of_cell? W _ h0
        refine ⟨b, off, rfl, hb, fun j hj => ?_⟩
        have hj' : j < len := by simpa using hj
        obtain ⟨h0, h1, h2, h3, h4, h5, h6⟩ := hr j (by omega)
        rw [Go.WideShapes.add_plain] at h0
        have e1 : ((List.range len).map (fun r => (Z r).take (L r))).getD j [] = (Z j).take (L j) := by simp [List.getD, hj']
        have e2 : ((Z j).take (L j)).length = L j := by simp only [List.length_take]; omega
        rw [e1, e2]
        refine ⟨A j, C j, h0, ⟨fun y hy => ?_, ?_⟩⟩
        · have := bounds_i32 (h4 y (List.mem_of_mem_take hy))
          omega
        · rcases Nat.eq_zero_or_pos (L j) with hz | hp
          · left; rw [hz]; simp
          · right
            cases hA : A j with
            | none => have := h5 hA; omega
            | some a' =>
              obtain ⟨_, hcell⟩ := h6 a' hA
              obtain ⟨b2, o2, rfl, hc2⟩ := ints_at (w := W) (a := a') (k := .i32) (zs := Z j) (fun i hi => hcell i (by omega)) (by omega)
              refine ⟨b2, o2, rfl, World.block_lt_of_cell? W _ (hc2 0 (by omega)), fun i hi => ?_⟩
              have hi' : i < L j := by rw [e2] at hi; exact hi
              rw [hc2 i (by omega)]
              simp [List.getD, hi']

theorem cellsF : Tryz.prog.cellsOf 24 = 2 := by kernel_rfl
end Go.Proofs.YthpebfojkpnojaaGreat

