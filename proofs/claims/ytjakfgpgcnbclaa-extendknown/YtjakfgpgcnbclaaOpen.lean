/- The arguments as a row's reading hands them over: clauses, models, formulas. -/
import Derived.Test.YtjakfgpgcnbclaaRows
import Derived.Test.YtjakfgpgcnbclaaLaw3
import Derived.ProofKit
import Derived.OpenShut
import Derived.ChangeOld
import Derived.Deep.Slices
import Derived.Deep.Grids
import Derived.Stop.Joined
import Derived.Deep.Matrix
import Derived.Lib.SmallJoins
import Derived.SizedLaws
namespace Go.Proofs.Ytjakfgpgcnbclaa
open Go.ChangeShapes Go.WideShapes Go.ChangeAt Go.RowKit Go.ChangeShapes
set_option linter.unusedVariables false

theorem own : ownKnob Try.prog.godebug = none := by kernel_rfl
theorem laidOut : laidOutB Try.prog = true := by kernel_rfl

theorem lits_open {H : Type} {enc : TypeId × Value → H} {W : World} {a : Option Addr} {len cap : Nat} {d : DataW H} {p : List MemPlace} {T : TypeId} (hT : Try.prog.underlying T = some (.slice 47))
    (h : DataW.Trod enc Try.prog W 0 (fun _ => true) true T (.slice a len cap) d p) : ∃ xs, xs.length = len ∧ Lits W a xs ∧ len ≤ cap := by
  obtain ⟨fuel, hf⟩ := h
  rcases open_ints hT Try.underlying47 (by kernel_rfl) hf with ⟨hcs, _⟩ | ⟨x, l, c, zs, hcs, _, hl, hm, hz, _, hcell, hwz⟩
  · simp [Value.cells] at hcs
    obtain ⟨rfl, rfl, rfl⟩ := hcs
    exact ⟨[], rfl, ⟨(fun x hx => by simp at hx), .inl rfl⟩, Nat.le_refl _⟩
  · simp [Value.cells] at hcs
    obtain ⟨rfl, rfl, rfl⟩ := hcs
    have hzl : zs.length = cap := by simpa using hz
    refine ⟨zs.take len, by simp; omega, ⟨fun y hy => ?_, ?_⟩, hl⟩
    · have := hwz y (List.mem_of_mem_take hy)
      have := bounds_i32 this
      omega
    · rcases Nat.eq_zero_or_pos len with h0 | hpos
      · left; subst h0; simp
      · right
        obtain ⟨b, off, rfl, hc⟩ := ints_at hcell (by omega)
        have hb : b < W.heap.size := World.block_lt_of_cell? W _ (hc 0 (by omega))
        refine ⟨b, off, rfl, hb, fun j hj => ?_⟩
        have hj' : j < len := by simp at hj; omega
        rw [hc j (by omega)]
        simp [List.getD, hj']

theorem bools_open {H : Type} {enc : TypeId × Value → H} {W : World} {a : Option Addr} {len cap : Nat} {d : DataW H} {p : List MemPlace} {T : TypeId} (hT : Try.prog.underlying T = some (.slice 4))
    (h : DataW.Trod enc Try.prog W 0 (fun _ => true) true T (.slice a len cap) d p) : ∃ xs, xs.length = len ∧ Bools W a xs ∧ len ≤ cap := by
  obtain ⟨fuel, hf⟩ := h
  rcases Go.Deep.open_bools hT Try.underlying4 (by kernel_rfl) hf with ⟨hcs, _⟩ | ⟨x, l, c, B, hcs, _, hl, hm, _, hcell⟩
  · simp [Value.cells] at hcs
    obtain ⟨rfl, rfl, rfl⟩ := hcs
    exact ⟨[], rfl, .inl rfl, Nat.le_refl _⟩
  · simp [Value.cells] at hcs
    obtain ⟨rfl, rfl, rfl⟩ := hcs
    refine ⟨(List.range len).map B, by simp, ?_, hl⟩
    rcases Nat.eq_zero_or_pos len with h0 | hpos
    · left; subst h0; simp
    · right
      obtain ⟨b, off, spot⟩ := x
      have hspot : spot = none := by simpa [Addr.add] using World.cell?_spot (hcell 0 (by omega))
      subst hspot
      have hc : ∀ j, j < cap → W.cell? ⟨b, off + j, none⟩ = some (.bool (B j)) := fun j hj => by rw [← Go.WideShapes.add_plain]; exact hcell j hj
      have hb : b < W.heap.size := World.block_lt_of_cell? W _ (hc 0 (by omega))
      refine ⟨b, off, rfl, hb, fun j hj => ?_⟩
      have hj' : j < len := by simpa using hj
      rw [hc j (by omega)]
      simp [List.getD, hj']

theorem weights_mem_all {H : Type} {P : Program} {e : TypeId} : ∀ {ds : List (DataW H)} {d : DataW H}, d ∈ ds → ∀ n ∈ d.weights P e, n ∈ DataW.weightsAll P e ds
  | d0 :: ds, d, hd, n, hn => by
    simp only [DataW.weightsAll, List.mem_append]
    rcases List.mem_cons.1 hd with rfl | h
    · exact Or.inl hn
    · exact Or.inr (weights_mem_all h n hn)

theorem bytes40 : Try.prog.bytesOf 40 = 24 := by kernel_rfl
theorem bytes47 : Try.prog.bytesOf 47 = 4 := by kernel_rfl
theorem reach_val : reachBytes = 140737488351232 := by decide +kernel

theorem cls_open {H : Type} {enc : TypeId × Value → H} {W : World} {v : Value} {fuel : Nat} {y : DataW H × List MemPlace}
    (h : DataW.trod enc Try.prog W 0 (fun _ => true) true fuel 32 [v] = some y) (hw : ∀ x ∈ y.1.weights Try.prog 32, x ≤ reachBytes) :
    ∃ a n cap cs, v = .slice a n cap ∧ cs.length = n ∧ Cls W a cs ∧ n ≤ 8796093022208 := by
  rcases Go.Deep.open_int_rows Try.underlying32 Try.underlying40 Try.underlying47 (by kernel_rfl) (by kernel_rfl) h with ⟨hcs, _⟩ | ⟨x, len, cap, A, L, C, Z, hcs, _, hl, hm, hy, hr⟩
  · simp at hcs
    subst hcs
    exact ⟨none, 0, 0, [], rfl, rfl, ⟨(fun c hc => by simp at hc), .inl rfl⟩, Nat.zero_le _⟩
  · simp at hcs
    subst hcs
    rw [hy] at hw
    simp only [DataW.weights, Try.underlying32] at hw
    have hlen := hw ((((List.range len).map fun r => (Go.Deep.intRow .i32 (A r) (L r) (Z r) : DataW H)).length + ((List.range (cap - len)).map fun j => (Go.Deep.intRow .i32 (A (len + j)) (L (len + j)) (Z (len + j)) : DataW H)).length) * Try.prog.bytesOf 40) List.mem_cons_self
    have hcap : cap * 24 ≤ 140737488351232 := by
      rw [bytes40, reach_val] at hlen
      simp only [List.length_map, List.length_range] at hlen
      omega
    have hrow : ∀ r, r < len → L r ≤ 35184372088832 := by
      intro r hrl
      obtain ⟨_, h1, _, h3, _, h5, _⟩ := hr r (by omega)
      cases hA : A r with
      | none => have := h5 hA; omega
      | some a' =>
        have hmem : (Go.Deep.intRow .i32 (A r) (L r) (Z r) : DataW H) ∈ (List.range len).map fun r => (Go.Deep.intRow .i32 (A r) (L r) (Z r) : DataW H) := List.mem_map.2 ⟨r, List.mem_range.2 hrl, rfl⟩
        have hz := hw (C r * 4) (List.mem_cons_of_mem _ (List.mem_append.2 (Or.inl (weights_mem_all hmem _ (by
          rw [hA]
          simp only [Go.Deep.intRow, DataW.weights, Try.underlying40, bytes47]
          refine List.mem_cons.2 (Or.inl ?_)
          simp only [lits, List.length_map, List.length_take, List.length_drop]
          rw [h3]
          omega)))))
        rw [reach_val] at hz
        omega
    refine ⟨some x, len, cap, (List.range len).map (fun r => (Z r).take (L r)), rfl, by simp, ⟨?_, ?_⟩, by omega⟩
    · intro c hc
      obtain ⟨r, hrl, rfl⟩ := List.mem_map.1 hc
      have := hrow r (List.mem_range.1 hrl)
      simp only [List.length_take]
      omega
    · rcases Nat.eq_zero_or_pos len with h0 | hpos
      · left; subst h0; simp
      · right
        obtain ⟨b, off, spot⟩ := x
        have hspot : spot = none := by simpa [Addr.add] using World.cell?_spot (hr 0 (by omega)).1
        subst hspot
        have hb : b < W.heap.size := by
          have h0 := (hr 0 (by omega)).1
          rw [Go.WideShapes.add_plain] at h0
          exact World.block_lt_of_cell? W _ h0
        refine ⟨b, off, rfl, hb, fun j hj => ?_⟩
        have hj' : j < len := by simpa using hj
        obtain ⟨h0, h1, h2, h3, h4, h5, h6⟩ := hr j (by omega)
        rw [Go.WideShapes.add_plain] at h0
        have e1 : ((List.range len).map (fun r => (Z r).take (L r))).getD j [] = (Z j).take (L j) := by simp [List.getD, hj']
        have e2 : ((Z j).take (L j)).length = L j := by simp only [List.length_take]; omega
        rw [e1, e2]
        refine ⟨A j, C j, h0, ⟨fun y hy => ?_, ?_⟩⟩
        · have := bounds_i32 (h4 y (List.mem_of_mem_take hy))
          omega
        · rcases Nat.eq_zero_or_pos (L j) with hz | hp
          · left; rw [hz]; simp
          · right
            cases hA : A j with
            | none => have := h5 hA; omega
            | some a' =>
              obtain ⟨_, hcell⟩ := h6 a' hA
              obtain ⟨b2, o2, rfl, hc2⟩ := ints_at (w := W) (a := a') (k := .i32) (zs := Z j) (fun i hi => hcell i (by omega)) (by omega)
              refine ⟨b2, o2, rfl, World.block_lt_of_cell? W _ (hc2 0 (by omega)), fun i hi => ?_⟩
              have hi' : i < L j := by rw [e2] at hi; exact hi
              rw [hc2 i (by omega)]
              simp [List.getD, hi']

theorem list2 {α : Type} : ∀ {l : List α}, l.length = 2 → ∃ a b, l = [a, b]
  | [a, b], _ => ⟨a, b, rfl⟩
/-- A row of numbers. -/
def Ints (W : World) (a : Option Addr) (xs : List Int) : Prop :=
  (∀ x ∈ xs, -9223372036854775808 ≤ x ∧ x ≤ 9223372036854775807) ∧ (xs = [] ∨ ∃ b off, a = some ⟨b, off, none⟩ ∧ b < W.heap.size ∧ ∀ j, j < xs.length → W.cell? ⟨b, off + j, none⟩ = some (.int .i64 (xs.getD j 0)))
theorem picks_open {H : Type} {enc : TypeId × Value → H} {W : World} {a : Option Addr} {len cap : Nat} {d : DataW H} {p : List MemPlace} {T : TypeId} (hT : Try.prog.underlying T = some (.slice 3))
    (h : DataW.Trod enc Try.prog W 0 (fun _ => true) true T (.slice a len cap) d p) : ∃ xs, xs.length = len ∧ Ints W a xs ∧ len ≤ cap := by
  obtain ⟨fuel, hf⟩ := h
  rcases open_ints hT Try.underlying3 (by kernel_rfl) hf with ⟨hcs, _⟩ | ⟨x, l, c, zs, hcs, _, hl, hm, hz, _, hcell, hwz⟩
  · simp [Value.cells] at hcs
    obtain ⟨rfl, rfl, rfl⟩ := hcs
    exact ⟨[], rfl, ⟨(fun x hx => by simp at hx), .inl rfl⟩, Nat.le_refl _⟩
  · simp [Value.cells] at hcs
    obtain ⟨rfl, rfl, rfl⟩ := hcs
    have hzl : zs.length = cap := by simpa using hz
    refine ⟨zs.take len, by simp; omega, ⟨fun y hy => ?_, ?_⟩, hl⟩
    · have := hwz y (List.mem_of_mem_take hy)
      have := bounds_i64 this
      omega
    · rcases Nat.eq_zero_or_pos len with h0 | hpos
      · left; subst h0; simp
      · right
        obtain ⟨b, off, rfl, hc⟩ := ints_at hcell (by omega)
        have hb : b < W.heap.size := World.block_lt_of_cell? W _ (hc 0 (by omega))
        refine ⟨b, off, rfl, hb, fun j hj => ?_⟩
        have hj' : j < len := by simp at hj; omega
        rw [hc j (by omega)]
        simp [List.getD, hj']
theorem ints_open {H : Type} {enc : TypeId × Value → H} {W : World} {fuel : Nat} {v : Value} {y : DataW H × List MemPlace}
    (h : DataW.trod enc Try.prog W 0 (fun _ => true) true fuel 40 [v] = some y) (hw : ∀ x ∈ y.1.weights Try.prog 40, x ≤ reachBytes) : ∃ a len cap xs, v = .slice a len cap ∧ xs.length = len ∧ Lits W a xs ∧ len ≤ 35184372088832 := by
  rcases open_ints Try.underlying40 Try.underlying47 (by kernel_rfl) h with ⟨hcs, _⟩ | ⟨x, l, c, zs, hcs, _, hl, hm, hz, hy, hcell, hwz⟩
  · simp at hcs
    subst hcs
    exact ⟨none, 0, 0, [], rfl, rfl, ⟨(fun x h => by cases h), .inl rfl⟩, by omega⟩
  · simp at hcs
    subst hcs
    have hzl : zs.length = c := by simpa using hz
    have hcb : c * 4 ≤ 140737488351232 := by
      rw [hy] at hw
      have := hw (zs.length * 4) (by
        simp only [DataW.weights, Try.underlying40, bytes47]
        refine List.mem_cons.2 (Or.inl ?_)
        simp only [lits, List.length_map, List.length_take, List.length_drop]
        rw [show min l zs.length + (zs.length - l) = zs.length by omega])
      rw [reach_val, hzl] at this
      exact this
    refine ⟨some x, l, c, zs.take l, rfl, by simp; omega, ⟨fun y hy => ?_, ?_⟩, by omega⟩
    · have := bounds_i32 (hwz y (List.mem_of_mem_take hy))
      omega
    rcases Nat.eq_zero_or_pos l with h0 | hpos
    · left; subst h0; simp
    · right
      obtain ⟨b, off, rfl, hc⟩ := ints_at hcell (by omega)
      have hb : b < W.heap.size := World.block_lt_of_cell? W _ (hc 0 (by omega))
      refine ⟨b, off, rfl, hb, fun j hj => ?_⟩
      have hj' : j < l := by simp at hj; omega
      rw [hc j (by omega)]
      simp [List.getD, hj']
theorem bytes42 : Try.prog.bytesOf 42 = 48 := by kernel_rfl
theorem cells42 : Try.prog.cellsOf 42 = 2 := by kernel_rfl
theorem wits_open {H : Type} {enc : TypeId × Value → H} {W : World} {fuel : Nat} {v : Value} {y : DataW H × List MemPlace}
    (h : DataW.trod enc Try.prog W 0 (fun _ => true) true fuel 24 [v] = some y) (hw : ∀ x ∈ y.1.weights Try.prog 24, x ≤ reachBytes) : ∃ a n cap ss, v = .slice a n cap ∧ ss.length = n ∧ Wits W a ss ∧ n ≤ 8796093022208 := by
  rcases Go.Deep.open_slice Try.underlying24 h with ⟨hcs, _⟩ | ⟨x, len, cap, m, fu, D, Pl, hcs, _, hl, hcm, hm, hy, hx⟩
  · simp at hcs
    subst hcs
    exact ⟨none, 0, 0, [], rfl, rfl, .inl rfl, by omega⟩
  · simp at hcs
    subst hcs
    have hm' : m = cap := by simpa using hm
    subst hm'
    rw [hy] at hw
    simp only [DataW.weights, Try.underlying24] at hw
    have hlen : m * 48 ≤ 140737488351232 := by
      have := hw _ List.mem_cons_self
      rw [bytes42, reach_val] at this
      simp only [List.length_map, List.length_range] at this
      omega
    have each : ∀ i, i < len → ∃ q : Ext.Wt × (Option Addr × Nat) × (Option Addr × Nat), W.cell? (x.add (i * 2)) = some (.slice q.2.1.1 q.1.1.length q.2.1.2) ∧ W.cell? (x.add (i * 2 + 1)) = some (.slice q.2.2.1 q.1.2.length q.2.2.2) ∧ Lits W q.2.1.1 q.1.1 ∧ Lits W q.2.2.1 q.1.2 ∧ q.1.1.length ≤ 35184372088832 ∧ q.1.2.length ≤ 35184372088832 := by
      intro i hi
      obtain ⟨cs', h1, h2⟩ := hx i (by omega)
      rw [cells42] at h1
      obtain ⟨_, hlen', hcell⟩ := World.cells?_some h1
      obtain ⟨y0, y1, n, hxy, _, g0, g1⟩ := trod_struct2 Try.underlying42 h2
      obtain ⟨v0, v1, rfl⟩ := list2 hlen'
      have e0 := hcell 0 (by omega)
      have e1 := hcell 1 (by omega)
      rw [Go.Deep.add_add] at e0 e1
      simp only [Prod.mk.injEq] at hxy
      have hmem : D i ∈ (List.range len).map D := List.mem_map.2 ⟨i, List.mem_range.2 hi, rfl⟩
      have hwi : ∀ z ∈ (D i).weights Try.prog 42, z ≤ reachBytes := fun z hz => hw z (List.mem_cons_of_mem _ (List.mem_append.2 (Or.inl (weights_mem_all hmem z hz))))
      rw [hxy.1] at hwi
      obtain ⟨a1, l1, c1, xs1, rfl, hl1, r1, b1⟩ := ints_open (show DataW.trod enc Try.prog W 0 (fun _ => true) true n 40 [v0] = some y0 from by simpa [show Try.prog.cellsOf 40 = 1 by kernel_rfl] using g0) (fun z hz => hwi z (by
        simp only [DataW.weights, Try.underlying42]
        exact DataW.weights_mem_each (j := 0) rfl rfl z hz))
      obtain ⟨a2, l2, c2, xs2, rfl, hl2, r2, b2⟩ := ints_open (show DataW.trod enc Try.prog W 0 (fun _ => true) true n 40 [v1] = some y1 from by simpa [show Try.prog.cellsOf 40 = 1 by kernel_rfl] using g1) (fun z hz => hwi z (by
        simp only [DataW.weights, Try.underlying42]
        exact DataW.weights_mem_each (j := 1) rfl rfl z hz))
      refine ⟨((xs1, xs2), (a1, c1), (a2, c2)), ?_, ?_, r1, r2, by simp only; omega, by simp only; omega⟩
      · simp only; rw [hl1]; simpa using e0
      · simp only; rw [hl2]; simpa using e1
    obtain ⟨f, hf⟩ := Go.Deep.choose_lt each
    refine ⟨some x, len, m, (List.range len).map (fun i => (f i).1), rfl, by simp, ?_, by omega⟩
    rcases Nat.eq_zero_or_pos len with h0 | hpos
    · left; subst h0; simp
    · right
      obtain ⟨b, off, spot⟩ := x
      have hspot : spot = none := by simpa [Addr.add] using World.cell?_spot (hf 0 hpos).1
      subst hspot
      refine ⟨b, off, rfl, fun j hj => ?_⟩
      have hj' : j < len := by simpa using hj
      obtain ⟨q0, q1, q2, q3, q4, q5⟩ := hf j hj'
      rw [Go.WideShapes.add_plain] at q0 q1
      have e : ((List.range len).map (fun i => (f i).1)).getD j ([], []) = (f j).1 := by simp [List.getD, hj']
      rw [e]
      exact ⟨_, _, _, _, q0, q1, q2, q3, q4, q5⟩
instance : Inhabited (Ext.Wt × (Option Addr × Nat) × (Option Addr × Nat)) := ⟨(([], []), (none, 0), (none, 0))⟩
theorem cellsF : Try.prog.cellsOf 34 = 2 := by kernel_rfl
end Go.Proofs.Ytjakfgpgcnbclaa
