/- The arguments as a row's reading hands them over: numbers, calls. -/
import Derived.Test.YtjbnkkjihcoojaaOpen
import Derived.Test.YtjbnkkjihcoojaaOpa
namespace Go.Proofs.Ytjbnkkjihcoojaa
open Go.ChangeShapes Go.WideShapes Go.ChangeAt Go.RowKit Go.ChangeShapes
set_option linter.unusedVariables false

theorem weights_mem_all {H : Type} {P : Program} {e : TypeId} : ∀ {ds : List (DataW H)} {d : DataW H}, d ∈ ds → ∀ n ∈ d.weights P e, n ∈ DataW.weightsAll P e ds
  | d0 :: ds, d, hd, n, hn => by
    simp only [DataW.weightsAll, List.mem_append]
    rcases List.mem_cons.1 hd with rfl | h
    · exact Or.inl hn
    · exact Or.inr (weights_mem_all h n hn)
theorem bytes2 : Try.prog.bytesOf 2 = 8 := by kernel_rfl
theorem reach_val : reachBytes = 140737488351232 := by decide +kernel
theorem scores_open {H : Type} {enc : TypeId × Value → H} {W : World} {a : Option Addr} {len cap : Nat} {d : DataW H} {p : List MemPlace} (h : DataW.Trod enc Try.prog W 0 (fun _ => true) true 48 (.slice a len cap) d p) : ∃ xs, xs.length = len ∧ Rw W a xs ∧ len ≤ maxLen := by
  obtain ⟨fuel, h⟩ := h
  rcases open_ints Try.underlying48 Try.underlying2 (by kernel_rfl) h with ⟨hcs, _⟩ | ⟨x, l, c, zs, hcs, _, hl, hm, hz, hy, hcell, hwz⟩
  · cases hcs
    exact ⟨[], rfl, ⟨(fun x h => by cases h), .inl rfl⟩, Nat.zero_le _⟩
  · cases hcs
    have hzl : zs.length = cap := by simpa using hz
    refine ⟨zs.take len, by simp; omega, ⟨fun y hy => ?_, ?_⟩, Nat.le_trans hl hm⟩
    · have := bounds_i64 (hwz y (List.mem_of_mem_take hy))
      unfold I64
      omega
    rcases Nat.eq_zero_or_pos len with h0 | hpos
    · left; subst h0; simp
    · right
      obtain ⟨b, off, rfl, hc⟩ := ints_at hcell (by omega)
      have hb : b < W.heap.size := World.block_lt_of_cell? W _ (hc 0 (by omega))
      refine ⟨b, off, rfl, hb, fun j hj => ?_⟩
      have hj' : j < len := by simp at hj; omega
      rw [hc j (by omega)]
      simp [List.getD, hj']
theorem list3 {α : Type} : ∀ {l : List α}, l.length = 3 → ∃ a b c, l = [a, b, c]
  | [a, b, c], _ => ⟨a, b, c, rfl⟩
theorem cells33 : Try.prog.cellsOf 33 = 3 := by kernel_rfl
theorem bytes33 : Try.prog.bytesOf 33 = 24 := by kernel_rfl
/-- A call's cells. -/
theorem op_form {H : Type} {enc : TypeId × Value → H} {W : World} {fuel : Nat} {cs : List Value} {y : DataW H × List MemPlace}
    (h : DataW.trod enc Try.prog W 0 (fun _ => true) true fuel 33 cs = some y) : ∃ s, cs = oval s ∧ OpOk s := by
  obtain ⟨xs, n, _, hy, hl, hlen, hf⟩ := DataW.trod_struct Try.underlying33 h
  rw [cells33] at hl
  obtain ⟨v0, v1, v2, rfl⟩ := list3 hl
  obtain ⟨y0, y1, y2, rfl⟩ := list3 (hlen.trans rfl)
  have g0 := hf 0 _ rfl
  have g1 := hf 1 _ rfl
  have g2 := hf 2 _ rfl
  obtain ⟨kd, a1, _, a3⟩ := DataW.trod_int Try.underlying5 (show DataW.trod enc Try.prog W 0 (fun _ => true) true n 5 [v0] = some y0 from by simpa [show Try.prog.cellsOf 5 = 1 by kernel_rfl] using g0)
  obtain ⟨l, b1, _, b3⟩ := DataW.trod_int Try.underlying3 (show DataW.trod enc Try.prog W 0 (fun _ => true) true n 3 [v1] = some y1 from by simpa [show Try.prog.cellsOf 5 = 1 by kernel_rfl, show Try.prog.cellsOf 3 = 1 by kernel_rfl] using g1)
  obtain ⟨r, c1, _, c3⟩ := DataW.trod_int Try.underlying2 (show DataW.trod enc Try.prog W 0 (fun _ => true) true n 2 [v2] = some y2 from by simpa [show Try.prog.cellsOf 5 = 1 by kernel_rfl, show Try.prog.cellsOf 3 = 1 by kernel_rfl, show Try.prog.cellsOf 2 = 1 by kernel_rfl] using g2)
  simp only [List.cons.injEq, and_true] at a1 b1 c1
  subst a1 b1 c1
  have h8 : 0 ≤ kd ∧ kd ≤ 255 := bounds_u8 a3
  have := bounds_i64 b3
  have := bounds_i64 c3
  exact ⟨⟨kd, l, r⟩, rfl, h8, ⟨by simp only; omega, by simp only; omega⟩, ⟨by simp only; omega, by simp only; omega⟩⟩
instance : Inhabited Opr := ⟨⟨0, 0, 0⟩⟩
theorem steps_open {H : Type} {enc : TypeId × Value → H} {W : World} {fuel : Nat} {v : Value} {y : DataW H × List MemPlace}
    (h : DataW.trod enc Try.prog W 0 (fun _ => true) true fuel 22 [v] = some y) (hw : ∀ x ∈ y.1.weights Try.prog 22, x ≤ reachBytes) : ∃ a n cap ss, v = .slice a n cap ∧ ss.length = n ∧ Ops W a ss ∧ n ≤ 8796093022208 := by
  rcases Go.Deep.open_slice Try.underlying22 h with ⟨hcs, _⟩ | ⟨x, len, cap, m, fu, D, Pl, hcs, _, hl, hcm, hm, hy, hx⟩
  · simp at hcs
    subst hcs
    exact ⟨none, 0, 0, [], rfl, rfl, .inl rfl, by omega⟩
  · simp at hcs
    subst hcs
    have hm' : m = cap := by simpa using hm
    subst hm'
    rw [hy] at hw
    simp only [DataW.weights, Try.underlying22] at hw
    have hlen : m * 24 ≤ 140737488351232 := by
      have := hw _ List.mem_cons_self
      rw [bytes33, reach_val] at this
      simp only [List.length_map, List.length_range] at this
      omega
    have each : ∀ i, i < len → ∃ q : Opr, OpOk q ∧ ∀ t v, (oval q)[t]? = some v → W.cell? (x.add (i * 3 + t)) = some v := by
      intro i hi
      obtain ⟨cs', h1, h2⟩ := hx i (by omega)
      rw [cells33] at h1
      obtain ⟨_, hlen', hcell⟩ := World.cells?_some h1
      obtain ⟨s, rfl, hs⟩ := op_form h2
      refine ⟨s, hs, fun t v hv => ?_⟩
      have ht : t < 3 := by
        rcases Nat.lt_or_ge t 3 with h' | h'
        · exact h'
        · rw [List.getElem?_eq_none (by simpa [oval] using h')] at hv; cases hv
      have := hcell t ht
      rw [Go.Deep.add_add] at this
      rw [this]
      exact hv
    obtain ⟨f, hf⟩ := Go.Deep.choose_lt each
    refine ⟨some x, len, m, (List.range len).map f, rfl, by simp, ?_, by omega⟩
    rcases Nat.eq_zero_or_pos len with h0 | hpos
    · left; subst h0; simp
    · right
      obtain ⟨b, off, spot⟩ := x
      have hspot : spot = none := by simpa [Addr.add] using World.cell?_spot ((hf 0 hpos).2 0 _ rfl)
      subst hspot
      refine ⟨b, off, rfl, ?_, fun j hj => ?_⟩
      · have h0 := (hf 0 hpos).2 0 _ rfl
        rw [Go.WideShapes.add_plain] at h0
        exact World.block_lt_of_cell? W _ h0
      · have hj' : j < len := by simpa using hj
        obtain ⟨q0, q1⟩ := hf j hj'
        have e : ((List.range len).map f)[j] = f j := by simp
        rw [e]
        refine ⟨q0, fun t v hv => ?_⟩
        have := q1 t v hv
        rw [Go.WideShapes.add_plain] at this
        rw [show off + j * 3 + t = off + (j * 3 + t) by omega]
        exact this
end Go.Proofs.Ytjbnkkjihcoojaa
