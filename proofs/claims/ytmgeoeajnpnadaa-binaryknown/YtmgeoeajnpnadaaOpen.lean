/- The arguments as a row's reading hands them over: steps; bytes. -/
import Derived.Test.YtmgeoeajnpnadaaRows
import Derived.Test.YtmgeoeajnpnadaaNum
import Derived.ProofKit
import Derived.OpenShut
import Derived.Stop.Joined
import Derived.ChangeOld
import Derived.Deep.Slices
import Derived.Lib.SmallJoins
import Derived.SizedLaws
namespace Go.Proofs.Ytmgeoeajnpnadaa
open Go.ChangeShapes Go.WideShapes Go.ChangeAt Go.RowKit
set_option linter.unusedVariables false

theorem own : ownKnob Try.prog.godebug = none := by kernel_rfl
theorem laidOut : laidOutB Try.prog = true := by kernel_rfl
theorem list4 {α : Type} : ∀ {l : List α}, l.length = 4 → ∃ a b c d, l = [a, b, c, d]
  | [a, b, c, d], _ => ⟨a, b, c, d, rfl⟩
theorem reach_val : reachBytes = 140737488351232 := by decide +kernel
theorem ints_open {H : Type} {enc : TypeId × Value → H} {W : World} {fuel : Nat} {v : Value} {y : DataW H × List MemPlace} {T E : TypeId} {k : IntKind} {lo hi : Int} {by_ : Nat} (hT : Try.prog.underlying T = some (.slice E)) (hE : Try.prog.underlying E = some (.int k)) (hC : Try.prog.cellsOf E = 1) (hB : Try.prog.bytesOf E = by_) (hb4 : 4 ≤ by_)
    (hk : ∀ n, (Lit.int k n).wf = true → lo ≤ n ∧ n ≤ hi)
    (h : DataW.trod enc Try.prog W 0 (fun _ => true) true fuel T [v] = some y) (hw : ∀ x ∈ y.1.weights Try.prog T, x ≤ reachBytes) : ∃ a len cap xs, v = .slice a len cap ∧ xs.length = len ∧ Row k lo hi W a xs ∧ len ≤ 35184372088832 := by
  rcases open_ints hT hE hC h with ⟨hcs, _⟩ | ⟨x, l, c, zs, hcs, _, hl, hm, hz, hy, hcell, hwz⟩
  · simp at hcs
    subst hcs
    exact ⟨none, 0, 0, [], rfl, rfl, Row.nil _ _ _ _ _, by omega⟩
  · simp at hcs
    subst hcs
    have hzl : zs.length = c := by simpa using hz
    have hcb : c * by_ ≤ 140737488351232 := by
      rw [hy] at hw
      have := hw (zs.length * by_) (by
        simp only [DataW.weights, hT, hB]
        refine List.mem_cons.2 (Or.inl ?_)
        simp only [lits, List.length_map, List.length_take, List.length_drop]
        rw [show min l zs.length + (zs.length - l) = zs.length by omega])
      rw [reach_val, hzl] at this
      exact this
    have hl4 : l * 4 ≤ c * by_ := Nat.mul_le_mul hl hb4
    refine ⟨some x, l, c, zs.take l, rfl, by simp; omega, ⟨fun y hy => hk _ (hwz y (List.mem_of_mem_take hy)), ?_⟩, by omega⟩
    rcases Nat.eq_zero_or_pos l with h0 | hpos
    · left; subst h0; simp
    · right
      obtain ⟨b, off, rfl, hc⟩ := ints_at hcell (by omega)
      have hb : b < W.heap.size := World.block_lt_of_cell? W _ (hc 0 (by omega))
      refine ⟨b, off, rfl, hb, fun j hj => ?_⟩
      have hj' : j < l := by simp at hj; omega
      rw [hc j (by omega)]
      simp [List.getD, hj']
theorem weights_mem_all {H : Type} {P : Program} {e : TypeId} : ∀ {ds : List (DataW H)} {d : DataW H}, d ∈ ds → ∀ n ∈ d.weights P e, n ∈ DataW.weightsAll P e ds
  | d0 :: ds, d, hd, n, hn => by
    simp only [DataW.weightsAll, List.mem_append]
    rcases List.mem_cons.1 hd with rfl | h
    · exact Or.inl hn
    · exact Or.inr (weights_mem_all h n hn)
instance : Inhabited Lra.Stp := ⟨⟨0, 0, [], []⟩⟩
theorem cells43 : Try.prog.cellsOf 43 = 4 := by kernel_rfl
theorem bytes43 : Try.prog.bytesOf 43 = 64 := by kernel_rfl
theorem steps_open {H : Type} {enc : TypeId × Value → H} {W : World} {fuel : Nat} {v : Value} {y : DataW H × List MemPlace}
    (h : DataW.trod enc Try.prog W 0 (fun _ => true) true fuel 22 [v] = some y) (hw : ∀ x ∈ y.1.weights Try.prog 22, x ≤ reachBytes) : ∃ a n cap ss, v = .slice a n cap ∧ ss.length = n ∧ Steps W a ss ∧ n ≤ 2199023255552 := by
  rcases Go.Deep.open_slice Try.underlying22 h with ⟨hcs, _⟩ | ⟨x, len, cap, m, fu, D, Pl, hcs, _, hl, hcm, hm, hy, hx⟩
  · simp at hcs
    subst hcs
    exact ⟨none, 0, 0, [], rfl, rfl, .inl rfl, by omega⟩
  · simp at hcs
    subst hcs
    have hm' : m = cap := by simpa using hm
    subst hm'
    rw [hy] at hw
    simp only [DataW.weights, Try.underlying22] at hw
    have hlen : m * 64 ≤ 140737488351232 := by
      have := hw _ List.mem_cons_self
      rw [bytes43, reach_val] at this
      simp only [List.length_map, List.length_range] at this
      omega
    have each : ∀ i, i < len → ∃ q : Lra.Stp × (Option Addr × Nat) × (Option Addr × Nat), W.cell? (x.add (i * 4)) = some (.int .u8 q.1.kind) ∧ W.cell? (x.add (i * 4 + 1)) = some (.int .i64 q.1.id) ∧ W.cell? (x.add (i * 4 + 2)) = some (.slice q.2.1.1 q.1.lits.length q.2.1.2) ∧ W.cell? (x.add (i * 4 + 3)) = some (.slice q.2.2.1 q.1.hints.length q.2.2.2) ∧ StpV W q.2.1.1 q.2.2.1 q.1 := by
      intro i hi
      obtain ⟨cs', h1, h2⟩ := hx i (by omega)
      rw [cells43] at h1
      obtain ⟨_, hlen', hcell⟩ := World.cells?_some h1
      obtain ⟨y0, y1, y2, y3, n, hxy, _, g0, g1, g2, g3⟩ := Go.Joins.trod_struct4 Try.underlying43 h2
      obtain ⟨v0, v1, v2, v3, rfl⟩ := list4 hlen'
      · have e0 := hcell 0 (by omega)
        have e1 := hcell 1 (by omega)
        have e2 := hcell 2 (by omega)
        have e3 := hcell 3 (by omega)
        rw [Go.Deep.add_add] at e0 e1 e2 e3
        simp only [Prod.mk.injEq] at hxy
        have hmem : D i ∈ (List.range len).map D := List.mem_map.2 ⟨i, List.mem_range.2 hi, rfl⟩
        have hwi : ∀ z ∈ (D i).weights Try.prog 43, z ≤ reachBytes := fun z hz => hw z (List.mem_cons_of_mem _ (List.mem_append.2 (Or.inl (weights_mem_all hmem z hz))))
        rw [hxy.1] at hwi
        obtain ⟨kd, k1, _, k3⟩ := DataW.trod_int Try.underlying5 (show DataW.trod enc Try.prog W 0 (fun _ => true) true n 5 [v0] = some y0 from by simpa [show Try.prog.cellsOf 5 = 1 by kernel_rfl] using g0)
        obtain ⟨id, i1, _, i3⟩ := DataW.trod_int Try.underlying2 (show DataW.trod enc Try.prog W 0 (fun _ => true) true n 2 [v1] = some y1 from by simpa [show Try.prog.cellsOf 2 = 1 by kernel_rfl] using g1)
        simp only [List.cons.injEq, and_true] at k1 i1
        subst k1 i1
        obtain ⟨a1, l1, c1, xs1, rfl, hl1, r1, b1⟩ := ints_open (lo := -2147483648) (hi := 2147483647) Try.underlying41 Try.underlying44 (by kernel_rfl) (show Try.prog.bytesOf 44 = 4 by kernel_rfl) (by decide) (fun n hn => by have := bounds_i32 hn; omega) (show DataW.trod enc Try.prog W 0 (fun _ => true) true n 41 [v2] = some y2 from by simpa [show Try.prog.cellsOf 41 = 1 by kernel_rfl] using g2) (fun z hz => hwi z (by
          simp only [DataW.weights, Try.underlying43]
          exact DataW.weights_mem_each (j := 2) rfl rfl z hz))
        obtain ⟨a2, l2, c2, xs2, rfl, hl2, r2, b2⟩ := ints_open (lo := -9223372036854775808) (hi := 9223372036854775807) Try.underlying39 Try.underlying2 (by kernel_rfl) (show Try.prog.bytesOf 2 = 8 by kernel_rfl) (by decide) (fun n hn => by have := bounds_i64 hn; omega) (show DataW.trod enc Try.prog W 0 (fun _ => true) true n 39 [v3] = some y3 from by simpa [show Try.prog.cellsOf 39 = 1 by kernel_rfl] using g3) (fun z hz => hwi z (by
          simp only [DataW.weights, Try.underlying43]
          exact DataW.weights_mem_each (j := 3) rfl rfl z hz))
        refine ⟨(⟨kd, id, xs1, xs2⟩, (a1, c1), (a2, c2)), ?_, ?_, ?_, ?_, ⟨r1, r2, ?_, ?_, by simp only; omega⟩⟩
        · simpa using e0
        · simpa using e1
        · simp only; rw [hl1]; simpa using e2
        · simp only; rw [hl2]; simpa using e3
        · have := bounds_u8 k3; simp only; omega
        · have := bounds_i64 i3; simp only; omega
    obtain ⟨f, hf⟩ := Go.Deep.choose_lt each
    refine ⟨some x, len, m, (List.range len).map (fun i => (f i).1), rfl, by simp, ?_, by omega⟩
    rcases Nat.eq_zero_or_pos len with h0 | hpos
    · left; subst h0; simp
    · right
      obtain ⟨b, off, spot⟩ := x
      have hspot : spot = none := by simpa [Addr.add] using World.cell?_spot (hf 0 hpos).1
      subst hspot
      refine ⟨b, off, rfl, fun j hj => ?_⟩
      have hj' : j < len := by simpa using hj
      obtain ⟨q0, q1, q2, q3, q4⟩ := hf j hj'
      rw [Go.WideShapes.add_plain] at q0 q1 q2 q3
      have e : ((List.range len).map (fun i => (f i).1))[j] = (f j).1 := by simp
      rw [e]
      exact ⟨_, _, _, _, q0, q1, q2, q3, q4⟩
theorem bytes_open {H : Type} {enc : TypeId × Value → H} {W : World} {a : Option Addr} {len cap : Nat} {d : DataW H} {p : List MemPlace} {T : TypeId} (hT : Try.prog.underlying T = some (.slice 5))
    (h : DataW.Trod enc Try.prog W 0 (fun _ => true) true T (.slice a len cap) d p) : ∃ xs, xs.length = len ∧ Bts W a xs ∧ len ≤ cap ∧ cap ≤ 9223372036854775807 := by
  obtain ⟨fuel, hf⟩ := h
  rcases open_ints hT Try.underlying5 (by kernel_rfl) hf with ⟨hcs, _⟩ | ⟨x, l, c, zs, hcs, _, hl, hm, hz, _, hcell, hwz⟩
  · simp [Value.cells] at hcs
    obtain ⟨rfl, rfl, rfl⟩ := hcs
    exact ⟨[], rfl, Row.nil _ _ _ _ _, Nat.le_refl _, by decide⟩
  · simp [Value.cells] at hcs
    obtain ⟨rfl, rfl, rfl⟩ := hcs
    have hzl : zs.length = cap := by simpa using hz
    have hm' : cap ≤ 9223372036854775807 := by unfold maxLen at hm; omega
    refine ⟨zs.take len, by simp; omega, ⟨fun y hy => ?_, ?_⟩, hl, hm'⟩
    · have := hwz y (List.mem_of_mem_take hy)
      have := bounds_u8 this
      omega
    · rcases Nat.eq_zero_or_pos len with h0 | hpos
      · left; subst h0; simp
      · right
        obtain ⟨b, off, rfl, hc⟩ := ints_at hcell (by omega)
        have hb : b < W.heap.size := World.block_lt_of_cell? W _ (hc 0 (by omega))
        refine ⟨b, off, rfl, hb, fun j hj => ?_⟩
        have hj' : j < len := by simp at hj; omega
        rw [hc j (by omega)]
        simp [List.getD, hj']
end Go.Proofs.Ytmgeoeajnpnadaa
