/- The arguments as a row's reading hands them over: numbers, bools, calls. -/
import Derived.Test.YtkodfojccodoaaaOpen
import Derived.Test.YtkodfojccodoaaaOpa
namespace Go.Proofs.Ytkodfojccodoaaa
open Go.ChangeShapes Go.WideShapes Go.ChangeAt Go.RowKit Go.ChangeShapes
set_option linter.unusedVariables false

theorem weights_mem_all {H : Type} {P : Program} {e : TypeId} : ∀ {ds : List (DataW H)} {d : DataW H}, d ∈ ds → ∀ n ∈ d.weights P e, n ∈ DataW.weightsAll P e ds
  | d0 :: ds, d, hd, n, hn => by
    simp only [DataW.weightsAll, List.mem_append]
    rcases List.mem_cons.1 hd with rfl | h
    · exact Or.inl hn
    · exact Or.inr (weights_mem_all h n hn)
theorem reach_val : reachBytes = 140737488351232 := by decide +kernel
theorem lits_form {H : Type} {enc : TypeId × Value → H} {W : World} {fuel : Nat} {v : Value} {y : DataW H × List MemPlace}
    (h : DataW.trod enc Try.prog W 0 (fun _ => true) true fuel 33 [v] = some y) : ∃ a len cap xs, v = .slice a len cap ∧ xs.length = len ∧ Lw W a xs ∧ len ≤ maxLen ∧ (∀ b off, a = some ⟨b, off, none⟩ → 0 < xs.length → b < W.heap.size) := by
  rcases open_ints Try.underlying33 Try.underlying48 (by kernel_rfl) h with ⟨hcs, _⟩ | ⟨x, l, c, zs, hcs, _, hl, hm, hz, hy, hcell, hwz⟩
  · simp at hcs
    subst hcs
    exact ⟨none, 0, 0, [], rfl, rfl, .inl rfl, Nat.zero_le _, fun _ _ e => by cases e⟩
  · simp at hcs
    subst hcs
    have hzl : zs.length = c := by simpa using hz
    have key : l = 0 ∨ ∃ b off, x = ⟨b, off, none⟩ ∧ ∀ j, j < (zs.take l).length → W.cell? ⟨b, off + j, none⟩ = some (.int .i32 ((zs.take l).getD j 0)) ∧ -2147483648 ≤ (zs.take l).getD j 0 ∧ (zs.take l).getD j 0 ≤ 2147483647 := by
      rcases Nat.eq_zero_or_pos l with h0 | hpos
      · exact .inl h0
      · right
        obtain ⟨b, off, rfl, hc⟩ := ints_at hcell (by omega)
        refine ⟨b, off, rfl, fun j hj => ?_⟩
        have hj' : j < l := by simp at hj; omega
        have e : (zs.take l).getD j 0 = zs.getD j 0 := by simp [List.getD, hj']
        rw [e, hc j (by omega)]
        have := bounds_i32 (hwz (zs.getD j 0) (by rw [List.getD_eq_getElem?_getD, List.getElem?_eq_getElem (by omega)]; exact List.getElem_mem _))
        exact ⟨rfl, this⟩
    refine ⟨some x, l, c, zs.take l, rfl, by simp; omega, ?_, Nat.le_trans hl hm, ?_⟩
    · rcases key with h0 | ⟨b, off, e, hc⟩
      · left; subst h0; simp
      · exact .inr ⟨b, off, by rw [e], hc⟩
    · intro b off e hp
      cases e
      rcases key with h0 | ⟨b', off', e, hc⟩
      · subst h0; simp at hp
      · cases e
        exact cell_lt (hc 0 hp).1
theorem lits_open {H : Type} {enc : TypeId × Value → H} {W : World} {a : Option Addr} {len cap : Nat} {d : DataW H} {p : List MemPlace} (hT : Try.prog.underlying 33 = some (.slice 48))
    (h : DataW.Trod enc Try.prog W 0 (fun _ => true) true 33 (.slice a len cap) d p) : ∃ xs, xs.length = len ∧ Lw W a xs ∧ len ≤ maxLen ∧ (∀ b off, a = some ⟨b, off, none⟩ → 0 < xs.length → b < W.heap.size) := by
  obtain ⟨fuel, hf⟩ := h
  obtain ⟨a', l', c', xs, e, h1, h2, h3, h4⟩ := lits_form hf
  cases e
  exact ⟨xs, h1, h2, h3, h4⟩
theorem list3 {α : Type} : ∀ {l : List α}, l.length = 3 → ∃ a b c, l = [a, b, c]
  | [a, b, c], _ => ⟨a, b, c, rfl⟩
theorem cells35 : Try.prog.cellsOf 35 = 3 := by kernel_rfl
theorem bytes35 : Try.prog.bytesOf 35 = 40 := by kernel_rfl
/-- A call's cells. -/
theorem op_form {H : Type} {enc : TypeId × Value → H} {W : World} {fuel : Nat} {cs : List Value} {y : DataW H × List MemPlace}
    (h : DataW.trod enc Try.prog W 0 (fun _ => true) true fuel 35 cs = some y) : ∃ s a ca, cs = oval s a ca ∧ OpOk W s a W.heap.size := by
  obtain ⟨xs, n, _, hy, hl, hlen, hf⟩ := DataW.trod_struct Try.underlying35 h
  rw [cells35] at hl
  obtain ⟨v0, v1, v2, rfl⟩ := list3 hl
  obtain ⟨y0, y1, y2, rfl⟩ := list3 (hlen.trans rfl)
  have g0 := hf 0 _ rfl
  have g1 := hf 1 _ rfl
  have g2 := hf 2 _ rfl
  obtain ⟨kd, a1, _, a3⟩ := DataW.trod_int Try.underlying5 (show DataW.trod enc Try.prog W 0 (fun _ => true) true n 5 [v0] = some y0 from by simpa [show Try.prog.cellsOf 5 = 1 by kernel_rfl] using g0)
  obtain ⟨vv, b1, _, b3⟩ := DataW.trod_int Try.underlying3 (show DataW.trod enc Try.prog W 0 (fun _ => true) true n 3 [v1] = some y1 from by simpa [show Try.prog.cellsOf 5 = 1 by kernel_rfl, show Try.prog.cellsOf 3 = 1 by kernel_rfl] using g1)
  obtain ⟨a, ln, ca, xs, rfl, hxl, hx, hxm, hxa⟩ := lits_form (show DataW.trod enc Try.prog W 0 (fun _ => true) true n 33 [v2] = some y2 from by simpa [show Try.prog.cellsOf 5 = 1 by kernel_rfl, show Try.prog.cellsOf 3 = 1 by kernel_rfl, show Try.prog.cellsOf 33 = 1 by kernel_rfl] using g2)
  simp only [List.cons.injEq, and_true] at a1 b1
  subst a1 b1 hxl
  have h8 : 0 ≤ kd ∧ kd ≤ 255 := bounds_u8 a3
  exact ⟨⟨kd, vv, xs⟩, a, ca, rfl, h8, bounds_i64 b3, hx, hxm, hxa⟩
structure Opx where
  s : Opr
  a : Option Addr
  ca : Nat
instance : Inhabited Opx := ⟨⟨⟨0, 0, []⟩, none, 0⟩⟩
theorem steps_open {H : Type} {enc : TypeId × Value → H} {W : World} {fuel : Nat} {v : Value} {y : DataW H × List MemPlace}
    (h : DataW.trod enc Try.prog W 0 (fun _ => true) true fuel 23 [v] = some y) (hw : ∀ x ∈ y.1.weights Try.prog 23, x ≤ reachBytes) : ∃ a n cap ss, v = .slice a n cap ∧ ss.length = n ∧ Ops W.heap.size W a ss ∧ n ≤ 8796093022208 := by
  rcases Go.Deep.open_slice Try.underlying23 h with ⟨hcs, _⟩ | ⟨x, len, cap, m, fu, D, Pl, hcs, _, hl, hcm, hm, hy, hx⟩
  · simp at hcs
    subst hcs
    exact ⟨none, 0, 0, [], rfl, rfl, .inl rfl, by omega⟩
  · simp at hcs
    subst hcs
    have hm' : m = cap := by simpa using hm
    subst hm'
    rw [hy] at hw
    simp only [DataW.weights, Try.underlying23] at hw
    have hlen : m * 40 ≤ 140737488351232 := by
      have := hw _ List.mem_cons_self
      rw [bytes35, reach_val] at this
      simp only [List.length_map, List.length_range] at this
      omega
    have each : ∀ i, i < len → ∃ q : Opx, OpOk W q.s q.a W.heap.size ∧ ∀ t v, (oval q.s q.a q.ca)[t]? = some v → W.cell? (x.add (i * 3 + t)) = some v := by
      intro i hi
      obtain ⟨cs', h1, h2⟩ := hx i (by omega)
      rw [cells35] at h1
      obtain ⟨_, hlen', hcell⟩ := World.cells?_some h1
      obtain ⟨s, a, ca, rfl, hs⟩ := op_form h2
      refine ⟨⟨s, a, ca⟩, hs, fun t v hv => ?_⟩
      have ht : t < 3 := by
        rcases Nat.lt_or_ge t 3 with h' | h'
        · exact h'
        · rw [List.getElem?_eq_none (by simpa [oval] using h')] at hv; cases hv
      have := hcell t ht
      rw [Go.Deep.add_add] at this
      rw [this]
      exact hv
    obtain ⟨f, hf⟩ := Go.Deep.choose_lt each
    refine ⟨some x, len, m, (List.range len).map (fun i => (f i).s), rfl, by simp, ?_, by omega⟩
    rcases Nat.eq_zero_or_pos len with h0 | hpos
    · left; subst h0; simp
    · right
      obtain ⟨b, off, spot⟩ := x
      have hspot : spot = none := by simpa [Addr.add] using World.cell?_spot ((hf 0 hpos).2 0 _ rfl)
      subst hspot
      refine ⟨b, off, rfl, ?_, fun j hj => ?_⟩
      · have h0 := (hf 0 hpos).2 0 _ rfl
        rw [Go.WideShapes.add_plain] at h0
        exact World.block_lt_of_cell? W _ h0
      · have hj' : j < len := by simpa using hj
        obtain ⟨q0, q1⟩ := hf j hj'
        have e : ((List.range len).map (fun i => (f i).s))[j] = (f j).s := by simp
        rw [e]
        refine ⟨_, (f j).ca, q0, fun t v hv => ?_⟩
        have := q1 t v hv
        rw [Go.WideShapes.add_plain] at this
        rw [show off + j * 3 + t = off + (j * 3 + t) by omega]
        exact this
end Go.Proofs.Ytkodfojccodoaaa
