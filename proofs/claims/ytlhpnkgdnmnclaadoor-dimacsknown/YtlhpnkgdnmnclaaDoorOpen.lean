/- The arguments as a row's reading hands them over: clauses, models, formulas. -/
import Derived.Test.YtlhpnkgdnmnclaaDoorTab
import Derived.Test.YtlhpnkgdnmnclaaDoorVals
import Derived.Test.YtlhpnkgdnmnclaaDoorCnf
import Derived.ChangeOld
import Derived.Deep.Grids
import Derived.Deep.Matrix
import Derived.Lib.SmallJoins
import Derived.SizedLaws
namespace Go.Proofs.YtlhpnkgdnmnclaaDoor
open Go.ChangeShapes Go.WideShapes Go.ChangeAt Go.RowKit
set_option linter.unusedVariables false

theorem lits_open {H : Type} {enc : TypeId × Value → H} {W : World} {a : Option Addr} {len cap : Nat} {d : DataW H} {p : List MemPlace} {T : TypeId} (hT : Tryd.prog.underlying T = some (.slice 50))
    (h : DataW.Trod enc Tryd.prog W 0 (fun _ => true) true T (.slice a len cap) d p) : ∃ xs, xs.length = len ∧ Lits W a xs ∧ len ≤ cap := by
  obtain ⟨fuel, hf⟩ := h
  rcases open_ints hT Tryd.underlying50 (by kernel_rfl) hf with ⟨hcs, _⟩ | ⟨x, l, c, zs, hcs, _, hl, hm, hz, _, hcell, hwz⟩
  · simp [Value.cells] at hcs
    obtain ⟨rfl, rfl, rfl⟩ := hcs
    exact ⟨[], rfl, ⟨(fun x hx => by simp at hx), .inl rfl⟩, Nat.le_refl _⟩
  · simp [Value.cells] at hcs
    obtain ⟨rfl, rfl, rfl⟩ := hcs
    have hzl : zs.length = cap := by simpa using hz
    refine ⟨zs.take len, by simp; omega, ⟨fun y hy => ?_, ?_⟩, hl⟩
    · have := hwz y (List.mem_of_mem_take hy)
      have := bounds_i32 this
      omega
    · rcases Nat.eq_zero_or_pos len with h0 | hpos
      · left; subst h0; simp
      · right
        obtain ⟨b, off, rfl, hc⟩ := ints_at hcell (by omega)
        have hb : b < W.heap.size := World.block_lt_of_cell? W _ (hc 0 (by omega))
        refine ⟨b, off, rfl, hb, fun j hj => ?_⟩
        have hj' : j < len := by simp at hj; omega
        rw [hc j (by omega)]
        simp [List.getD, hj']

theorem bools_open {H : Type} {enc : TypeId × Value → H} {W : World} {a : Option Addr} {len cap : Nat} {d : DataW H} {p : List MemPlace} {T : TypeId} (hT : Tryd.prog.underlying T = some (.slice 4))
    (h : DataW.Trod enc Tryd.prog W 0 (fun _ => true) true T (.slice a len cap) d p) : ∃ xs, xs.length = len ∧ Bools W a xs ∧ len ≤ cap := by
  obtain ⟨fuel, hf⟩ := h
  rcases Go.Deep.open_bools hT Tryd.underlying4 (by kernel_rfl) hf with ⟨hcs, _⟩ | ⟨x, l, c, B, hcs, _, hl, hm, _, hcell⟩
  · simp [Value.cells] at hcs
    obtain ⟨rfl, rfl, rfl⟩ := hcs
    exact ⟨[], rfl, .inl rfl, Nat.le_refl _⟩
  · simp [Value.cells] at hcs
    obtain ⟨rfl, rfl, rfl⟩ := hcs
    refine ⟨(List.range len).map B, by simp, ?_, hl⟩
    rcases Nat.eq_zero_or_pos len with h0 | hpos
    · left; subst h0; simp
    · right
      obtain ⟨b, off, spot⟩ := x
      have hspot : spot = none := by simpa [Addr.add] using World.cell?_spot (hcell 0 (by omega))
      subst hspot
      have hc : ∀ j, j < cap → W.cell? ⟨b, off + j, none⟩ = some (.bool (B j)) := fun j hj => by rw [← Go.WideShapes.add_plain]; exact hcell j hj
      have hb : b < W.heap.size := World.block_lt_of_cell? W _ (hc 0 (by omega))
      refine ⟨b, off, rfl, hb, fun j hj => ?_⟩
      have hj' : j < len := by simpa using hj
      rw [hc j (by omega)]
      simp [List.getD, hj']

theorem weights_mem_all {H : Type} {P : Program} {e : TypeId} : ∀ {ds : List (DataW H)} {d : DataW H}, d ∈ ds → ∀ n ∈ d.weights P e, n ∈ DataW.weightsAll P e ds
  | d0 :: ds, d, hd, n, hn => by
    simp only [DataW.weightsAll, List.mem_append]
    rcases List.mem_cons.1 hd with rfl | h
    · exact Or.inl hn
    · exact Or.inr (weights_mem_all h n hn)

theorem bytes52 : Tryd.prog.bytesOf 52 = 24 := by kernel_rfl
theorem bytes50 : Tryd.prog.bytesOf 50 = 4 := by kernel_rfl
theorem reach_val : reachBytes = 140737488351232 := by decide +kernel

theorem cls_open {H : Type} {enc : TypeId × Value → H} {W : World} {v : Value} {fuel : Nat} {y : DataW H × List MemPlace}
    (h : DataW.trod enc Tryd.prog W 0 (fun _ => true) true fuel 23 [v] = some y) (hw : ∀ x ∈ y.1.weights Tryd.prog 23, x ≤ reachBytes) :
    ∃ a n cap cs, v = .slice a n cap ∧ cs.length = n ∧ Cls W a cs ∧ n ≤ 8796093022208 := by
  rcases Go.Deep.open_int_rows Tryd.underlying23 Tryd.underlying52 Tryd.underlying50 (by kernel_rfl) (by kernel_rfl) h with ⟨hcs, _⟩ | ⟨x, len, cap, A, L, C, Z, hcs, _, hl, hm, hy, hr⟩
  · simp at hcs
    subst hcs
    exact ⟨none, 0, 0, [], rfl, rfl, ⟨(fun c hc => by simp at hc), .inl rfl⟩, Nat.zero_le _⟩
  · simp at hcs
    subst hcs
    rw [hy] at hw
    simp only [DataW.weights, Tryd.underlying23] at hw
    have hlen := hw ((((List.range len).map fun r => (Go.Deep.intRow .i32 (A r) (L r) (Z r) : DataW H)).length + ((List.range (cap - len)).map fun j => (Go.Deep.intRow .i32 (A (len + j)) (L (len + j)) (Z (len + j)) : DataW H)).length) * Tryd.prog.bytesOf 52) List.mem_cons_self
    have hcap : cap * 24 ≤ 140737488351232 := by
      rw [bytes52, reach_val] at hlen
      simp only [List.length_map, List.length_range] at hlen
      omega
    have hrow : ∀ r, r < len → L r ≤ 35184372088832 := by
      intro r hrl
      obtain ⟨_, h1, _, h3, _, h5, _⟩ := hr r (by omega)
      cases hA : A r with
      | none => have := h5 hA; omega
      | some a' =>
        have hmem : (Go.Deep.intRow .i32 (A r) (L r) (Z r) : DataW H) ∈ (List.range len).map fun r => (Go.Deep.intRow .i32 (A r) (L r) (Z r) : DataW H) := List.mem_map.2 ⟨r, List.mem_range.2 hrl, rfl⟩
        have hz := hw (C r * 4) (List.mem_cons_of_mem _ (List.mem_append.2 (Or.inl (weights_mem_all hmem _ (by
          rw [hA]
          simp only [Go.Deep.intRow, DataW.weights, Tryd.underlying52, bytes50]
          refine List.mem_cons.2 (Or.inl ?_)
          simp only [lits, List.length_map, List.length_take, List.length_drop]
          rw [h3]
          omega)))))
        rw [reach_val] at hz
        omega
    refine ⟨some x, len, cap, (List.range len).map (fun r => (Z r).take (L r)), rfl, by simp, ⟨?_, ?_⟩, by omega⟩
    · intro c hc
      obtain ⟨r, hrl, rfl⟩ := List.mem_map.1 hc
      have := hrow r (List.mem_range.1 hrl)
      simp only [List.length_take]
      omega
    · rcases Nat.eq_zero_or_pos len with h0 | hpos
      · left; subst h0; simp
      · right
        obtain ⟨b, off, spot⟩ := x
        have hspot : spot = none := by simpa [Addr.add] using World.cell?_spot (hr 0 (by omega)).1
        subst hspot
        have hb : b < W.heap.size := by
          have h0 := (hr 0 (by omega)).1
          rw [Go.WideShapes.add_plain] at h0
          exact World.block_lt_of_cell? W _ h0
        refine ⟨b, off, rfl, hb, fun j hj => ?_⟩
        have hj' : j < len := by simpa using hj
        obtain ⟨h0, h1, h2, h3, h4, h5, h6⟩ := hr j (by omega)
        rw [Go.WideShapes.add_plain] at h0
        have e1 : ((List.range len).map (fun r => (Z r).take (L r))).getD j [] = (Z j).take (L j) := by simp [List.getD, hj']
        have e2 : ((Z j).take (L j)).length = L j := by simp only [List.length_take]; omega
        rw [e1, e2]
        refine ⟨A j, C j, h0, ⟨fun y hy => ?_, ?_⟩⟩
        · have := bounds_i32 (h4 y (List.mem_of_mem_take hy))
          omega
        · rcases Nat.eq_zero_or_pos (L j) with hz | hp
          · left; rw [hz]; simp
          · right
            cases hA : A j with
            | none => have := h5 hA; omega
            | some a' =>
              obtain ⟨_, hcell⟩ := h6 a' hA
              obtain ⟨b2, o2, rfl, hc2⟩ := ints_at (w := W) (a := a') (k := .i32) (zs := Z j) (fun i hi => hcell i (by omega)) (by omega)
              refine ⟨b2, o2, rfl, World.block_lt_of_cell? W _ (hc2 0 (by omega)), fun i hi => ?_⟩
              have hi' : i < L j := by rw [e2] at hi; exact hi
              rw [hc2 i (by omega)]
              simp [List.getD, hi']

theorem cellsF : Tryd.prog.cellsOf 25 = 2 := by kernel_rfl
end Go.Proofs.YtlhpnkgdnmnclaaDoor
