/- The arguments as a row's reading hands them over: numbers, bools, calls. -/
import Derived.Test.YtjnifadfcnpdoaaOpen
import Derived.Test.YtjnifadfcnpdoaaOpa
namespace Go.Proofs.Ytjnifadfcnpdoaa
open Go.ChangeShapes Go.WideShapes Go.ChangeAt Go.RowKit Go.ChangeShapes
set_option linter.unusedVariables false

theorem weights_mem_all {H : Type} {P : Program} {e : TypeId} : ∀ {ds : List (DataW H)} {d : DataW H}, d ∈ ds → ∀ n ∈ d.weights P e, n ∈ DataW.weightsAll P e ds
  | d0 :: ds, d, hd, n, hn => by
    simp only [DataW.weightsAll, List.mem_append]
    rcases List.mem_cons.1 hd with rfl | h
    · exact Or.inl hn
    · exact Or.inr (weights_mem_all h n hn)
theorem reach_val : reachBytes = 140737488351232 := by decide +kernel
theorem ints_form {H : Type} {enc : TypeId × Value → H} {W : World} {fuel : Nat} {v : Value} {y : DataW H × List MemPlace}
    (h : DataW.trod enc Try.prog W 0 (fun _ => true) true fuel 32 [v] = some y) : ∃ a len cap xs, v = .slice a len cap ∧ xs.length = len ∧ Iw W a xs ∧ len ≤ maxLen := by
  rcases open_ints Try.underlying32 Try.underlying3 (by kernel_rfl) h with ⟨hcs, _⟩ | ⟨x, l, c, zs, hcs, _, hl, hm, hz, hy, hcell, hwz⟩
  · simp at hcs
    subst hcs
    exact ⟨none, 0, 0, [], rfl, rfl, .inl rfl, Nat.zero_le _⟩
  · simp at hcs
    subst hcs
    have hzl : zs.length = c := by simpa using hz
    refine ⟨some x, l, c, zs.take l, rfl, by simp; omega, ?_, Nat.le_trans hl hm⟩
    rcases Nat.eq_zero_or_pos l with h0 | hpos
    · left; subst h0; simp
    · right
      obtain ⟨b, off, rfl, hc⟩ := ints_at hcell (by omega)
      refine ⟨b, off, rfl, fun j hj => ?_⟩
      have hj' : j < l := by simp at hj; omega
      rw [hc j (by omega)]
      simp [List.getD, hj']
theorem bools_form {H : Type} {enc : TypeId × Value → H} {W : World} {fuel : Nat} {v : Value} {y : DataW H × List MemPlace}
    (h : DataW.trod enc Try.prog W 0 (fun _ => true) true fuel 33 [v] = some y) : ∃ a len cap xs, v = .slice a len cap ∧ xs.length = len ∧ Bw W a xs ∧ len ≤ maxLen := by
  rcases Go.Deep.open_bools Try.underlying33 Try.underlying4 (by kernel_rfl) h with ⟨hcs, _⟩ | ⟨x, l, c, B, hcs, _, hl, hm, _, hcell⟩
  · simp at hcs
    subst hcs
    exact ⟨none, 0, 0, [], rfl, rfl, .inl rfl, Nat.zero_le _⟩
  · simp at hcs
    subst hcs
    refine ⟨some x, l, c, (List.range l).map B, rfl, by simp, ?_, Nat.le_trans hl hm⟩
    rcases Nat.eq_zero_or_pos l with h0 | hpos
    · left; subst h0; simp
    · right
      obtain ⟨b, off, spot⟩ := x
      have hspot : spot = none := by simpa [Addr.add] using World.cell?_spot (hcell 0 (by omega))
      subst hspot
      have hc : ∀ j, j < c → W.cell? ⟨b, off + j, none⟩ = some (.bool (B j)) := fun j hj => by rw [← Go.WideShapes.add_plain]; exact hcell j hj
      refine ⟨b, off, rfl, fun j hj => ?_⟩
      have hj' : j < l := by simpa using hj
      rw [hc j (by omega)]
      simp [List.getD, hj']
theorem picks_open {H : Type} {enc : TypeId × Value → H} {W : World} {a : Option Addr} {len cap : Nat} {d : DataW H} {p : List MemPlace} (hT : Try.prog.underlying 32 = some (.slice 3))
    (h : DataW.Trod enc Try.prog W 0 (fun _ => true) true 32 (.slice a len cap) d p) : ∃ xs, xs.length = len ∧ Iw W a xs ∧ len ≤ maxLen := by
  obtain ⟨fuel, hf⟩ := h
  obtain ⟨a', l', c', xs, e, h1, h2, h3⟩ := ints_form hf
  cases e
  exact ⟨xs, h1, h2, h3⟩
theorem bools_open {H : Type} {enc : TypeId × Value → H} {W : World} {a : Option Addr} {len cap : Nat} {d : DataW H} {p : List MemPlace} (hT : Try.prog.underlying 33 = some (.slice 4))
    (h : DataW.Trod enc Try.prog W 0 (fun _ => true) true 33 (.slice a len cap) d p) : ∃ xs, xs.length = len ∧ Bw W a xs ∧ len ≤ maxLen := by
  obtain ⟨fuel, hf⟩ := h
  obtain ⟨a', l', c', xs, e, h1, h2, h3⟩ := bools_form hf
  cases e
  exact ⟨xs, h1, h2, h3⟩
theorem list3 {α : Type} : ∀ {l : List α}, l.length = 3 → ∃ a b c, l = [a, b, c]
  | [a, b, c], _ => ⟨a, b, c, rfl⟩
theorem cells35 : Try.prog.cellsOf 35 = 3 := by kernel_rfl
theorem bytes35 : Try.prog.bytesOf 35 = 56 := by kernel_rfl
/-- A call's cells. -/
theorem op_form {H : Type} {enc : TypeId × Value → H} {W : World} {fuel : Nat} {cs : List Value} {y : DataW H × List MemPlace}
    (h : DataW.trod enc Try.prog W 0 (fun _ => true) true fuel 35 cs = some y) : ∃ s a b ca cb, cs = oval s a b ca cb ∧ OpOk W s a b := by
  obtain ⟨xs, n, _, hy, hl, hlen, hf⟩ := DataW.trod_struct Try.underlying35 h
  rw [cells35] at hl
  obtain ⟨v0, v1, v2, rfl⟩ := list3 hl
  obtain ⟨y0, y1, y2, rfl⟩ := list3 (hlen.trans rfl)
  have g0 := hf 0 _ rfl
  have g1 := hf 1 _ rfl
  have g2 := hf 2 _ rfl
  obtain ⟨kd, a1, _, a3⟩ := DataW.trod_int Try.underlying5 (show DataW.trod enc Try.prog W 0 (fun _ => true) true n 5 [v0] = some y0 from by simpa [show Try.prog.cellsOf 5 = 1 by kernel_rfl] using g0)
  obtain ⟨a, ln, ca, xs, rfl, hxl, hx, _⟩ := ints_form (show DataW.trod enc Try.prog W 0 (fun _ => true) true n 32 [v1] = some y1 from by simpa [show Try.prog.cellsOf 5 = 1 by kernel_rfl, show Try.prog.cellsOf 32 = 1 by kernel_rfl] using g1)
  obtain ⟨b, lb, cb, bs, rfl, hbl, hb, _⟩ := bools_form (show DataW.trod enc Try.prog W 0 (fun _ => true) true n 33 [v2] = some y2 from by simpa [show Try.prog.cellsOf 5 = 1 by kernel_rfl, show Try.prog.cellsOf 32 = 1 by kernel_rfl, show Try.prog.cellsOf 33 = 1 by kernel_rfl] using g2)
  simp only [List.cons.injEq, and_true] at a1
  subst a1 hxl hbl
  have h8 : 0 ≤ kd ∧ kd ≤ 255 := bounds_u8 a3
  exact ⟨⟨kd, xs, bs⟩, a, b, ca, cb, rfl, h8, hx, hb⟩
structure Opx where
  s : Opr
  a : Option Addr
  b : Option Addr
  ca : Nat
  cb : Nat
instance : Inhabited Opx := ⟨⟨⟨0, [], []⟩, none, none, 0, 0⟩⟩
theorem steps_open {H : Type} {enc : TypeId × Value → H} {W : World} {fuel : Nat} {v : Value} {y : DataW H × List MemPlace}
    (h : DataW.trod enc Try.prog W 0 (fun _ => true) true fuel 22 [v] = some y) (hw : ∀ x ∈ y.1.weights Try.prog 22, x ≤ reachBytes) : ∃ a n cap ss, v = .slice a n cap ∧ ss.length = n ∧ Ops W a ss ∧ n ≤ 8796093022208 := by
  rcases Go.Deep.open_slice Try.underlying22 h with ⟨hcs, _⟩ | ⟨x, len, cap, m, fu, D, Pl, hcs, _, hl, hcm, hm, hy, hx⟩
  · simp at hcs
    subst hcs
    exact ⟨none, 0, 0, [], rfl, rfl, .inl rfl, by omega⟩
  · simp at hcs
    subst hcs
    have hm' : m = cap := by simpa using hm
    subst hm'
    rw [hy] at hw
    simp only [DataW.weights, Try.underlying22] at hw
    have hlen : m * 56 ≤ 140737488351232 := by
      have := hw _ List.mem_cons_self
      rw [bytes35, reach_val] at this
      simp only [List.length_map, List.length_range] at this
      omega
    have each : ∀ i, i < len → ∃ q : Opx, OpOk W q.s q.a q.b ∧ ∀ t v, (oval q.s q.a q.b q.ca q.cb)[t]? = some v → W.cell? (x.add (i * 3 + t)) = some v := by
      intro i hi
      obtain ⟨cs', h1, h2⟩ := hx i (by omega)
      rw [cells35] at h1
      obtain ⟨_, hlen', hcell⟩ := World.cells?_some h1
      obtain ⟨s, a, b, ca, cb, rfl, hs⟩ := op_form h2
      refine ⟨⟨s, a, b, ca, cb⟩, hs, fun t v hv => ?_⟩
      have ht : t < 3 := by
        rcases Nat.lt_or_ge t 3 with h' | h'
        · exact h'
        · rw [List.getElem?_eq_none (by simpa [oval] using h')] at hv; cases hv
      have := hcell t ht
      rw [Go.Deep.add_add] at this
      rw [this]
      exact hv
    obtain ⟨f, hf⟩ := Go.Deep.choose_lt each
    refine ⟨some x, len, m, (List.range len).map (fun i => (f i).s), rfl, by simp, ?_, by omega⟩
    rcases Nat.eq_zero_or_pos len with h0 | hpos
    · left; subst h0; simp
    · right
      obtain ⟨b, off, spot⟩ := x
      have hspot : spot = none := by simpa [Addr.add] using World.cell?_spot ((hf 0 hpos).2 0 _ rfl)
      subst hspot
      refine ⟨b, off, rfl, ?_, fun j hj => ?_⟩
      · have h0 := (hf 0 hpos).2 0 _ rfl
        rw [Go.WideShapes.add_plain] at h0
        exact World.block_lt_of_cell? W _ h0
      · have hj' : j < len := by simpa using hj
        obtain ⟨q0, q1⟩ := hf j hj'
        have e : ((List.range len).map (fun i => (f i).s))[j] = (f j).s := by simp
        rw [e]
        refine ⟨_, _, (f j).ca, (f j).cb, q0, fun t v hv => ?_⟩
        have := q1 t v hv
        rw [Go.WideShapes.add_plain] at this
        rw [show off + j * 3 + t = off + (j * 3 + t) by omega]
        exact this
end Go.Proofs.Ytjnifadfcnpdoaa
