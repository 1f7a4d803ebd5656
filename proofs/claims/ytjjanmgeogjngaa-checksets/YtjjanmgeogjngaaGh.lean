/- Is a formula, or a proof, larger than is looked at? -/
import Derived.Test.YtjjanmgeogjngaaGa
import Derived.Test.YtjjanmgeogjngaaGb
import Derived.Test.YtjjanmgeogjngaaRows
import Derived.Test.YtjjanmgeogjngaaGg
import Derived.ProofKit
import Derived.OpenShut
import Derived.Stop.Joined
import Derived.ChangeOld
import Derived.Deep.Slices
import Derived.Deep.Grids
import Derived.Deep.Matrix
import Derived.Lib.SmallJoins
import Derived.SizedLaws
/- Is a formula, or a proof, larger than is looked at? -/
namespace Go.Proofs.Ytjjanmgeogjngaa
open Go.RowKit
set_option linter.unusedVariables false

set_option maxRecDepth 100000 in
set_option maxHeartbeats 4000000 in
theorem size38 (a : Option Addr) (n c : Nat) (ss : List Lra.Stp) (w : World) (hn : ss.length = n) (hb : n ≤ 35184372088832) (hs : Steps w a ss) :
    Calls Try.prog 38 #[.slice a n c, .int .i64 1500] w fun e w' => SizeOut 1500 ss e ∧ Below w.heap.size w w' := by
  have HS := hid hs
  have HN := hid hn
  have sh := hs.shape
  rw [hn] at sh
  clear hs hn
  rcases sh with Z | ⟨b, off, rfl⟩
  all_goals
    go_enter Try.func38, Try.ntmps38
    go_wp2
    go_loopw [5, 6] (fun mv iv wr => ∃ k m : Nat, mv = .int .i64 m ∧ iv = .int .i64 k ∧ k ≤ n ∧ m ≤ 4501 ∧ Hid (m ≤ 1500 → m = k + Lra.items (ss.take k)) ∧ Hid (Below w.heap.size w wr)) (fun _ iv _ => n - (intOf iv).toNat)
    case atStart => exact ⟨0, 0, rfl, rfl, by omega, by omega, hid (fun _ => by simp [Lra.items]), hid (Below.refl _ _)⟩
    case round =>
      obtain ⟨k, m, rfl, rfl, hk, hm, HM, HB⟩ := hrel
      by_cases hlt : k < n
      · have hlt' : (k : Int) < n := by omega
        by_cases hm6 : m ≤ 1500
        · have hm6' : (m : Int) ≤ 1500 := by omega
          first
          | (exfalso; have := Z.out; omega)
          | (have hks : k < ss.length := by rw [HN.out]; exact hlt
             obtain ⟨a1, c1, a2, c2, hst⟩ := (HS.out.below HB.out).at (j := k) hks
             have HT := hid (Lra.items_take ss k hks)
             obtain ⟨x0, x1, x2, x3, hv⟩ := hst
             obtain ⟨_, _, _, _, hn12⟩ := hv
             generalize ss[k] = s at x0 x1 x2 x3 HT hn12
             generalize s.lits.length = n1 at x2 HT hn12
             generalize s.hints.length = n2 at x3 HT hn12
             obtain ⟨hn1, hn2⟩ := hn12
             have hM := hid (HM.out hm6)
             go_wp2
             go_quiet (fail)
             go_wp2
             go_roundw
             case rel => exact ⟨k + 1, m + 1 + min n1 1500 + min n2 1500, by go_num, by go_num, by omega, by omega, hid (fun h => by rw [HT.out]; have := hM.out; omega), hid (HB.out.trans (below_drewN _ _ _))⟩
             case measure => simp [intOf]; omega)
        · have hm6' : ¬ (m : Int) ≤ 1500 := by omega
          go_wp2
          go_ret
          exact ⟨⟨m, rfl, fun h => absurd h hm6⟩, HB.out⟩
      · have hlt' : ¬ (k : Int) < n := by omega
        have HF := hid (show m ≤ 1500 → ss.length + Lra.items ss ≤ 1500 from fun h => by
          have := HM.out h
          rw [List.take_of_length_le (by rw [HN.out]; omega)] at this
          have := HN.out
          omega)
        go_wp2
        go_ret
        exact ⟨⟨m, rfl, HF.out⟩, HB.out⟩



/-- What is looked at. -/
structure Fine (cs : List (List Int)) (ss : List Lra.Stp) : Prop where
  n : cs.length ≤ 200
  l : cs.length + cs.flatten.length ≤ 1500
  s : ss.length + Lra.items ss ≤ 1500
def LargeOut (cs : List (List Int)) (ss : List Lra.Stp) (e : Ending) : Prop := ∃ b, e = .returned (.bool b) ∧ (b = false → Fine cs ss)
set_option maxRecDepth 100000 in
set_option maxHeartbeats 4000000 in
theorem large9 (vars : Int) (a : Option Addr) (n c : Nat) (cs : List (List Int)) (al : Option Addr) (nl cl : Nat) (ss : List Lra.Stp) (w : World) (hn : cs.length = n) (hb : n ≤ 35184372088832) (hc : Cls w a cs) (hnl : ss.length = nl) (hbl : nl ≤ 35184372088832) (hs : Steps w al ss) :
    Calls Try.prog 9 #[.agg #[.int .i64 vars, .slice a n c], .slice al nl cl] w fun e w' => LargeOut cs ss e ∧ Below w.heap.size w w' := by
  have hB := below_box w (.cells #[.int .i64 vars, .slice a n c] 24)
  have hx := heap_alloc_new w (.cells #[.int .i64 vars, .slice a n c] 24)
  generalize hW1 : w.alloc (.cells #[.int .i64 vars, .slice a n c] 24) = W1 at hB hx
  have x1 : W1.cell? ⟨w.heap.size, 1, none⟩ = some (.slice a n c) := row_cell hx 1
  have HC := hid (hc.below hB)
  have HN := hid hn
  have HB := hid hB
  have HX := hid (Array.getElem?_eq_some_iff.1 hx).1
  have C38 := hid (fun W2 (h : Below W1.heap.size W1 W2) => size38 al nl cl ss W2 hnl hbl (hs.below (hB.trans (h.mono hB.size))))
  clear hc hn hx hB hs hnl
  go_enter Try.func9, Try.ntmps9
  go_wp2
  go_loopw [5, 6] (fun mv iv wr => ∃ k m : Nat, mv = .int .i64 m ∧ iv = .int .i64 k ∧ k ≤ n ∧ m ≤ 3001 ∧ Hid (m ≤ 1500 → m = k + ((cs.take k).flatten).length) ∧ Hid (Below W1.heap.size W1 wr)) (fun _ iv _ => n - (intOf iv).toNat)
  case atStart => exact ⟨0, 0, rfl, rfl, by omega, by omega, hid (fun _ => by simp), hid (Below.refl _ _)⟩
  case round =>
    obtain ⟨k, m, rfl, rfl, hk, hm, HM, HBe⟩ := hrel
    have y1 : wr.cell? ⟨w.heap.size, 1, none⟩ = some (.slice a n c) := (HBe.out.cell (p := ⟨w.heap.size, 1, none⟩) HX.out).trans x1
    have D38 := hid (C38.out wr HBe.out)
    by_cases hlt : k < n
    · have hlt' : (k : Int) < n := by omega
      by_cases hm6 : m ≤ 1500
      · have hm6' : (m : Int) ≤ 1500 := by omega
        have hkl : k < cs.length := by rw [HN.out]; exact hlt
        obtain ⟨b, off, a', cap', rfl, _, hcell, _, hle⟩ := (HC.out.below HBe.out).at hkl
        have HT := hid (Cnf.flat_len cs k hkl)
        generalize (cs.getD k []).length = n1 at hcell hle HT
        have hM := hid (HM.out hm6)
        clear D38
        go_wp2
        go_roundw
        case rel => exact ⟨k + 1, m + 1 + min n1 1500, by go_num, by go_num, by omega, by omega, hid (fun h => by rw [HT.out]; have := hM.out; omega), HBe⟩
        case measure => simp [intOf]; omega
      · have hm6' : ¬ (m : Int) ≤ 1500 := by omega
        have hm7 : (1500 : Int) < m := by omega
        clear D38
        go_wp2
        go_ret
        exact ⟨⟨true, rfl, fun h => by cases h⟩, HB.out.trans (HBe.out.mono HB.out.size)⟩
    · have hlt' : ¬ (k : Int) < n := by omega
      have HF := hid (show m ≤ 1500 → cs.length + cs.flatten.length ≤ 1500 from fun h => by
        have := HM.out h
        rw [List.take_of_length_le (by rw [HN.out]; omega)] at this
        have := HN.out
        omega)
      by_cases hm6 : 1500 < m
      · have hm7 : (1500 : Int) < m := by omega
        clear D38
        go_wp2
        go_ret
        exact ⟨⟨true, rfl, fun h => by cases h⟩, HB.out.trans (HBe.out.mono HB.out.size)⟩
      · have hm7 : ¬ (1500 : Int) < m := by omega
        by_cases hn2 : 200 < n
        · have hn3 : (200 : Int) < n := by omega
          clear D38
          go_wp2
          go_ret
          exact ⟨⟨true, rfl, fun h => by cases h⟩, HB.out.trans (HBe.out.mono HB.out.size)⟩
        · have hn3 : ¬ (200 : Int) < n := by omega
          go_wp2_with (go_at_call 38; refine D38.out.mono ?_; clear D38; rintro e W3 ⟨⟨z, rfl, hz⟩, hB3⟩; have HZ := hid hz; have HB3 := hid hB3; clear hz hB3)
          go_ret
          exact ⟨⟨_, rfl, fun h => ⟨by rw [HN.out]; omega, HF.out (by omega), HZ.out (by simp at h; omega)⟩⟩, (HB.out.trans (HBe.out.mono HB.out.size)).trans (HB3.out.mono (Nat.le_trans HB.out.size HBe.out.size))⟩
end Go.Proofs.Ytjjanmgeogjngaa

/- The arguments as a row's reading hands them over: formulas; steps; rows of numbers. -/
namespace Go.Proofs.Ytjjanmgeogjngaa
open Go.ChangeShapes Go.WideShapes Go.ChangeAt Go.RowKit
set_option linter.unusedVariables false

theorem own : ownKnob Try.prog.godebug = none := by kernel_rfl
theorem laidOut : laidOutB Try.prog = true := by kernel_rfl
theorem list4 {α : Type} : ∀ {l : List α}, l.length = 4 → ∃ a b c d, l = [a, b, c, d]
  | [a, b, c, d], _ => ⟨a, b, c, d, rfl⟩
theorem reach_val : reachBytes = 140737488351232 := by decide +kernel
theorem bytes39 : Try.prog.bytesOf 39 = 24 := by kernel_rfl
theorem bytes40 : Try.prog.bytesOf 40 = 4 := by kernel_rfl
theorem ints_open {H : Type} {enc : TypeId × Value → H} {W : World} {fuel : Nat} {v : Value} {y : DataW H × List MemPlace} {T E : TypeId} {k : IntKind} {lo hi : Int} {by_ : Nat} (hT : Try.prog.underlying T = some (.slice E)) (hE : Try.prog.underlying E = some (.int k)) (hC : Try.prog.cellsOf E = 1) (hB : Try.prog.bytesOf E = by_) (hb4 : 4 ≤ by_)
    (hk : ∀ n, (Lit.int k n).wf = true → lo ≤ n ∧ n ≤ hi)
    (h : DataW.trod enc Try.prog W 0 (fun _ => true) true fuel T [v] = some y) (hw : ∀ x ∈ y.1.weights Try.prog T, x ≤ reachBytes) : ∃ a len cap xs, v = .slice a len cap ∧ xs.length = len ∧ Row k lo hi W a xs ∧ len ≤ 35184372088832 ∧ len ≤ cap ∧ cap ≤ maxLen := by
  rcases open_ints hT hE hC h with ⟨hcs, _⟩ | ⟨x, l, c, zs, hcs, _, hl, hm, hz, hy, hcell, hwz⟩
  · simp at hcs
    subst hcs
    exact ⟨none, 0, 0, [], rfl, rfl, Row.nil _ _ _ _ _, by omega, Nat.le_refl _, Nat.zero_le _⟩
  · simp at hcs
    subst hcs
    have hzl : zs.length = c := by simpa using hz
    have hcb : c * by_ ≤ 140737488351232 := by
      rw [hy] at hw
      have := hw (zs.length * by_) (by
        simp only [DataW.weights, hT, hB]
        refine List.mem_cons.2 (Or.inl ?_)
        simp only [lits, List.length_map, List.length_take, List.length_drop]
        rw [show min l zs.length + (zs.length - l) = zs.length by omega])
      rw [reach_val, hzl] at this
      exact this
    have hl4 : l * 4 ≤ c * by_ := Nat.mul_le_mul hl hb4
    refine ⟨some x, l, c, zs.take l, rfl, by simp; omega, ⟨fun y hy => hk _ (hwz y (List.mem_of_mem_take hy)), ?_⟩, by omega, hl, hm⟩
    rcases Nat.eq_zero_or_pos l with h0 | hpos
    · left; subst h0; simp
    · right
      obtain ⟨b, off, rfl, hc⟩ := ints_at hcell (by omega)
      have hb : b < W.heap.size := World.block_lt_of_cell? W _ (hc 0 (by omega))
      refine ⟨b, off, rfl, hb, fun j hj => ?_⟩
      have hj' : j < l := by simp at hj; omega
      rw [hc j (by omega)]
      simp [List.getD, hj']
theorem weights_mem_all {H : Type} {P : Program} {e : TypeId} : ∀ {ds : List (DataW H)} {d : DataW H}, d ∈ ds → ∀ n ∈ d.weights P e, n ∈ DataW.weightsAll P e ds
  | d0 :: ds, d, hd, n, hn => by
    simp only [DataW.weightsAll, List.mem_append]
    rcases List.mem_cons.1 hd with rfl | h
    · exact Or.inl hn
    · exact Or.inr (weights_mem_all h n hn)
instance : Inhabited Lra.Stp := ⟨⟨0, 0, [], []⟩⟩
theorem cells44S : Try.prog.cellsOf 44 = 4 := by kernel_rfl
theorem bytes44S : Try.prog.bytesOf 44 = 64 := by kernel_rfl
theorem steps_open {H : Type} {enc : TypeId × Value → H} {W : World} {fuel : Nat} {v : Value} {y : DataW H × List MemPlace}
    (h : DataW.trod enc Try.prog W 0 (fun _ => true) true fuel 25 [v] = some y) (hw : ∀ x ∈ y.1.weights Try.prog 25, x ≤ reachBytes) : ∃ a n cap ss, v = .slice a n cap ∧ ss.length = n ∧ StepsC W a ss ∧ n ≤ 2199023255552 := by
  rcases Go.Deep.open_slice Try.underlying25 h with ⟨hcs, _⟩ | ⟨x, len, cap, m, fu, D, Pl, hcs, _, hl, hcm, hm, hy, hx⟩
  · simp at hcs
    subst hcs
    exact ⟨none, 0, 0, [], rfl, rfl, .inl rfl, by omega⟩
  · simp at hcs
    subst hcs
    have hm' : m = cap := by simpa using hm
    subst hm'
    rw [hy] at hw
    simp only [DataW.weights, Try.underlying25] at hw
    have hlen : m * 64 ≤ 140737488351232 := by
      have := hw _ List.mem_cons_self
      rw [bytes44S, reach_val] at this
      simp only [List.length_map, List.length_range] at this
      omega
    have each : ∀ i, i < len → ∃ q : Lra.Stp × (Option Addr × Nat) × (Option Addr × Nat), W.cell? (x.add (i * 4)) = some (.int .u8 q.1.kind) ∧ W.cell? (x.add (i * 4 + 1)) = some (.int .i64 q.1.id) ∧ W.cell? (x.add (i * 4 + 2)) = some (.slice q.2.1.1 q.1.lits.length q.2.1.2) ∧ W.cell? (x.add (i * 4 + 3)) = some (.slice q.2.2.1 q.1.hints.length q.2.2.2) ∧ StpV W q.2.1.1 q.2.2.1 q.1 ∧ q.1.hints.length ≤ q.2.2.2 ∧ q.2.2.2 ≤ maxLen := by
      intro i hi
      obtain ⟨cs', h1, h2⟩ := hx i (by omega)
      rw [cells44S] at h1
      obtain ⟨_, hlen', hcell⟩ := World.cells?_some h1
      obtain ⟨y0, y1, y2, y3, n, hxy, _, g0, g1, g2, g3⟩ := Go.Joins.trod_struct4 Try.underlying44 h2
      obtain ⟨v0, v1, v2, v3, rfl⟩ := list4 hlen'
      · have e0 := hcell 0 (by omega)
        have e1 := hcell 1 (by omega)
        have e2 := hcell 2 (by omega)
        have e3 := hcell 3 (by omega)
        rw [Go.Deep.add_add] at e0 e1 e2 e3
        simp only [Prod.mk.injEq] at hxy
        have hmem : D i ∈ (List.range len).map D := List.mem_map.2 ⟨i, List.mem_range.2 hi, rfl⟩
        have hwi : ∀ z ∈ (D i).weights Try.prog 44, z ≤ reachBytes := fun z hz => hw z (List.mem_cons_of_mem _ (List.mem_append.2 (Or.inl (weights_mem_all hmem z hz))))
        rw [hxy.1] at hwi
        obtain ⟨kd, k1, _, k3⟩ := DataW.trod_int Try.underlying5 (show DataW.trod enc Try.prog W 0 (fun _ => true) true n 5 [v0] = some y0 from by simpa [show Try.prog.cellsOf 5 = 1 by kernel_rfl] using g0)
        obtain ⟨id, i1, _, i3⟩ := DataW.trod_int Try.underlying2 (show DataW.trod enc Try.prog W 0 (fun _ => true) true n 2 [v1] = some y1 from by simpa [show Try.prog.cellsOf 2 = 1 by kernel_rfl] using g1)
        simp only [List.cons.injEq, and_true] at k1 i1
        subst k1 i1
        obtain ⟨a1, l1, c1, xs1, rfl, hl1, r1, b1, _, _⟩ := ints_open (lo := -2147483648) (hi := 2147483647) Try.underlying39 Try.underlying40 (by kernel_rfl) (show Try.prog.bytesOf 40 = 4 by kernel_rfl) (by decide) (fun n hn => by have := bounds_i32 hn; omega) (show DataW.trod enc Try.prog W 0 (fun _ => true) true n 39 [v2] = some y2 from by simpa [show Try.prog.cellsOf 39 = 1 by kernel_rfl] using g2) (fun z hz => hwi z (by
          simp only [DataW.weights, Try.underlying44]
          exact DataW.weights_mem_each (j := 2) rfl rfl z hz))
        obtain ⟨a2, l2, c2, xs2, rfl, hl2, r2, b2, d2, f2⟩ := ints_open (lo := -9223372036854775808) (hi := 9223372036854775807) Try.underlying42 Try.underlying2 (by kernel_rfl) (show Try.prog.bytesOf 2 = 8 by kernel_rfl) (by decide) (fun n hn => by have := bounds_i64 hn; omega) (show DataW.trod enc Try.prog W 0 (fun _ => true) true n 42 [v3] = some y3 from by simpa [show Try.prog.cellsOf 42 = 1 by kernel_rfl] using g3) (fun z hz => hwi z (by
          simp only [DataW.weights, Try.underlying44]
          exact DataW.weights_mem_each (j := 3) rfl rfl z hz))
        refine ⟨(⟨kd, id, xs1, xs2⟩, (a1, c1), (a2, c2)), ?_, ?_, ?_, ?_, ⟨r1, r2, ?_, ?_, by simp only; omega⟩, by simp only; omega, f2⟩
        · simpa using e0
        · simpa using e1
        · simp only; rw [hl1]; simpa using e2
        · simp only; rw [hl2]; simpa using e3
        · have := bounds_u8 k3; simp only; omega
        · have := bounds_i64 i3; simp only; omega
    obtain ⟨f, hf⟩ := Go.Deep.choose_lt each
    refine ⟨some x, len, m, (List.range len).map (fun i => (f i).1), rfl, by simp, ?_, by omega⟩
    rcases Nat.eq_zero_or_pos len with h0 | hpos
    · left; subst h0; simp
    · right
      obtain ⟨b, off, spot⟩ := x
      have hspot : spot = none := by simpa [Addr.add] using World.cell?_spot (hf 0 hpos).1
      subst hspot
      refine ⟨b, off, rfl, fun j hj => ?_⟩
      have hj' : j < len := by simpa using hj
      obtain ⟨q0, q1, q2, q3, q4, q5, q6⟩ := hf j hj'
      rw [Go.WideShapes.add_plain] at q0 q1 q2 q3
      have e : ((List.range len).map (fun i => (f i).1))[j] = (f j).1 := by simp
      rw [e]
      exact ⟨_, _, _, _, ⟨q0, q1, q2, q3, q4⟩, q5, q6⟩
theorem cls_open {H : Type} {enc : TypeId × Value → H} {W : World} {v : Value} {fuel : Nat} {y : DataW H × List MemPlace}
    (h : DataW.trod enc Try.prog W 0 (fun _ => true) true fuel 22 [v] = some y) (hw : ∀ x ∈ y.1.weights Try.prog 22, x ≤ reachBytes) :
    ∃ a n cap cs, v = .slice a n cap ∧ cs.length = n ∧ Cls W a cs ∧ n ≤ 8796093022208 := by
  rcases Go.Deep.open_int_rows Try.underlying22 Try.underlying39 Try.underlying40 (by kernel_rfl) (by kernel_rfl) h with ⟨hcs, _⟩ | ⟨x, len, cap, A, L, C, Z, hcs, _, hl, hm, hy, hr⟩
  · simp at hcs
    subst hcs
    exact ⟨none, 0, 0, [], rfl, rfl, ⟨(fun c hc => by simp at hc), .inl rfl⟩, Nat.zero_le _⟩
  · simp at hcs
    subst hcs
    rw [hy] at hw
    simp only [DataW.weights, Try.underlying22] at hw
    have hlen := hw ((((List.range len).map fun r => (Go.Deep.intRow .i32 (A r) (L r) (Z r) : DataW H)).length + ((List.range (cap - len)).map fun j => (Go.Deep.intRow .i32 (A (len + j)) (L (len + j)) (Z (len + j)) : DataW H)).length) * Try.prog.bytesOf 39) List.mem_cons_self
    have hcap : cap * 24 ≤ 140737488351232 := by
      rw [bytes39, reach_val] at hlen
      simp only [List.length_map, List.length_range] at hlen
      omega
    have hrow : ∀ r, r < len → L r ≤ 35184372088832 := by
      intro r hrl
      obtain ⟨_, h1, _, h3, _, h5, _⟩ := hr r (by omega)
      cases hA : A r with
      | none => have := h5 hA; omega
      | some a' =>
        have hmem : (Go.Deep.intRow .i32 (A r) (L r) (Z r) : DataW H) ∈ (List.range len).map fun r => (Go.Deep.intRow .i32 (A r) (L r) (Z r) : DataW H) := List.mem_map.2 ⟨r, List.mem_range.2 hrl, rfl⟩
        have hz := hw (C r * 4) (List.mem_cons_of_mem _ (List.mem_append.2 (Or.inl (weights_mem_all hmem _ (by
          rw [hA]
          simp only [Go.Deep.intRow, DataW.weights, Try.underlying39, bytes40]
          refine List.mem_cons.2 (Or.inl ?_)
          simp only [lits, List.length_map, List.length_take, List.length_drop]
          rw [h3]
          omega)))))
        rw [reach_val] at hz
        omega
    refine ⟨some x, len, cap, (List.range len).map (fun r => (Z r).take (L r)), rfl, by simp, ⟨?_, ?_⟩, by omega⟩
    · intro c hc
      obtain ⟨r, hrl, rfl⟩ := List.mem_map.1 hc
      have := hrow r (List.mem_range.1 hrl)
      simp only [List.length_take]
      omega
    · rcases Nat.eq_zero_or_pos len with h0 | hpos
      · left; subst h0; simp
      · right
        obtain ⟨b, off, spot⟩ := x
        have hspot : spot = none := by simpa [Addr.add] using World.cell?_spot (hr 0 (by omega)).1
        subst hspot
        have hb : b < W.heap.size := by
          have h0 := (hr 0 (by omega)).1
          rw [Go.WideShapes.add_plain] at h0
          exact World.block_lt_of_cell? W _ h0
        refine ⟨b, off, rfl, hb, fun j hj => ?_⟩
        have hj' : j < len := by simpa using hj
        obtain ⟨h0, h1, h2, h3, h4, h5, h6⟩ := hr j (by omega)
        rw [Go.WideShapes.add_plain] at h0
        have e1 : ((List.range len).map (fun r => (Z r).take (L r))).getD j [] = (Z j).take (L j) := by simp [List.getD, hj']
        have e2 : ((Z j).take (L j)).length = L j := by simp only [List.length_take]; omega
        rw [e1, e2]
        refine ⟨A j, C j, h0, ⟨fun y hy => ?_, ?_⟩⟩
        · have := bounds_i32 (h4 y (List.mem_of_mem_take hy))
          omega
        · rcases Nat.eq_zero_or_pos (L j) with hz | hp
          · left; rw [hz]; simp
          · right
            cases hA : A j with
            | none => have := h5 hA; omega
            | some a' =>
              obtain ⟨_, hcell⟩ := h6 a' hA
              obtain ⟨b2, o2, rfl, hc2⟩ := ints_at (w := W) (a := a') (k := .i32) (zs := Z j) (fun i hi => hcell i (by omega)) (by omega)
              refine ⟨b2, o2, rfl, World.block_lt_of_cell? W _ (hc2 0 (by omega)), fun i hi => ?_⟩
              have hi' : i < L j := by rw [e2] at hi; exact hi
              rw [hc2 i (by omega)]
              simp [List.getD, hi']

theorem cellsF : Try.prog.cellsOf 24 = 2 := by kernel_rfl
/-- A row of numbers that is handed in. -/
theorem row_open {H : Type} {enc : TypeId × Value → H} {W : World} {a : Option Addr} {len cap : Nat} {d : DataW H} {p : List MemPlace} {T E : TypeId} {k : IntKind} {lo hi : Int} (hT : Try.prog.underlying T = some (.slice E)) (hE : Try.prog.underlying E = some (.int k)) (hC : Try.prog.cellsOf E = 1) (hB : 4 ≤ Try.prog.bytesOf E)
    (hk : ∀ n, (Lit.int k n).wf = true → lo ≤ n ∧ n ≤ hi) (h : DataW.Trod enc Try.prog W 0 (fun _ => true) true T (.slice a len cap) d p) (hw : ∀ x ∈ d.weights Try.prog T, x ≤ reachBytes) : ∃ xs, xs.length = len ∧ Row k lo hi W a xs ∧ len ≤ 35184372088832 ∧ len ≤ cap ∧ cap ≤ maxLen := by
  obtain ⟨fuel, hf⟩ := h
  obtain ⟨a', len', cap', xs, e, h1, h2, h3, h4, h5⟩ := ints_open (lo := lo) (hi := hi) (y := (d, p)) hT hE hC rfl hB hk hf hw
  injection e with e1 e2 e3
  subst e1 e2 e3
  exact ⟨xs, h1, h2, h3, h4, h5⟩
end Go.Proofs.Ytjjanmgeogjngaa

