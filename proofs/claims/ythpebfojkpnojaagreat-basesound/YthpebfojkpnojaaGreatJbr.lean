/- Pick. -/
import Derived.Test.YthpebfojkpnojaaGreatJbq
import Derived.Deep.RegionHeld3
import Derived.Test.YthpebfojkpnojaaGreatJbg
/- Pick. -/
namespace Go.Proofs.YthpebfojkpnojaaGreat
open Go.RowKit Go.Maps
set_option linter.unusedVariables false
set_option linter.unusedSimpArgs false
set_option maxRecDepth 100000
def PickOut (n : Nat) (e : Ending) : Prop := ∃ t : Nat, t < n ∧ e = .returned (.int .i64 t)
set_option maxHeartbeats 1000000 in
theorem pick25 (i : Int) (n : Nat) (w : World) (hn : 0 < n) (hn2 : n ≤ 1000) (hi : I64 i) :
    Calls Tryz.prog 11 #[.int .i64 i, .int .i64 n] w fun e w' => PickOut n e ∧ w' = w := by
  have h1 := hi.1
  have h2 := hi.2
  have hn0 : ¬ (n : Int) ≤ 0 := by omega
  have hnz : ((n : Int) == 0) = false := by simp; omega
  have hnz' : ¬ (n : Int) = 0 := by omega
  obtain ⟨r, hr⟩ : ∃ r, i.tmod (n : Int) = r := ⟨_, rfl⟩
  have hr1 : -(n : Int) < r := by have h := Int.natAbs_tmod i (n : Int); rw [hr] at h; have := Nat.mod_lt i.natAbs (show 0 < (n : Int).natAbs by omega); omega
  have hr2 : r < n := by rw [← hr]; exact Int.tmod_lt_of_pos i (by omega)
  obtain ⟨t, ht⟩ : ∃ t : Nat, (r + n).tmod (n : Int) = (t : Int) := ⟨((r + n).tmod (n : Int)).toNat, by have := Int.tmod_nonneg (b := (n : Int)) (show 0 ≤ r + n by omega); omega⟩
  have htn : t < n := by have := Int.tmod_lt_of_pos (r + n) (b := (n : Int)) (by omega); omega
  clear hi
  go_enter Tryz.func11, Tryz.ntmps11
  go_wp2
  go_ret
  exact ⟨⟨t, htn, rfl⟩, rfl⟩
end Go.Proofs.YthpebfojkpnojaaGreat

/- How great a formula is; whether it is small. -/
namespace Go.Proofs.YthpebfojkpnojaaGreat
open Go.RowKit Go.Maps
set_option linter.unusedVariables false
set_option linter.unusedSimpArgs false
set_option maxRecDepth 100000
/-- What Size tells. -/
def SizeOut (top : Nat) (cs : List (List Int)) (e : Ending) : Prop := ∃ z : Nat, e = .returned (.int .i64 z) ∧ z ≤ top + 1 ∧ (z ≤ top → cs.length + cs.flatten.length ≤ top)

set_option maxHeartbeats 2000000 in
theorem size46 (vars : Int) (a : Option Addr) (n cap top : Nat) (cs : List (List Int)) (w : World) (hn : cs.length = n) (hN : n ≤ 8796093022208) (ht : top ≤ 1000000) (hc : Cls w a cs) :
    Calls Tryz.prog 6 #[.agg #[.int .i64 vars, .slice a n cap], .int .i64 top] w fun e w' => SizeOut top cs e ∧ Below w.heap.size w w' := by
  have HC := hid (hc.below (below_box w (.cells #[.int .i64 vars, .slice a n cap] 24)))
  have HN := hid hn
  clear hc hn
  go_enter Tryz.func6, Tryz.ntmps6
  go_wp2
  obtain ⟨W1, hW1⟩ : ∃ W1, w.alloc (.cells #[.int .i64 vars, .slice a n cap] 24) = W1 := ⟨_, rfl⟩
  have hB1 : Below w.heap.size w W1 := by rw [← hW1]; exact below_box _ _
  have x1 : W1.cell? ⟨w.heap.size, 1, none⟩ = some (.slice a n cap) := by rw [← hW1]; exact row_cell (heap_alloc_new w _) 1
  rw [hW1] at HC ⊢
  have HB1 := hid hB1
  clear hW1 hB1
  go_loopw [5, 6] (fun q i wr => ∃ (k m : Nat), q = .int .i64 m ∧ k ≤ n ∧ i = .int .i64 k ∧ m ≤ 8796093022208 + 1000000 + 35184372088832 ∧ Hid (m ≤ top → m = n + ((cs.take k).flatten).length) ∧ Hid (Drawn W1 wr)) (fun _ i _ => n - (intOf i).toNat)
  case atStart => exact ⟨0, n, rfl, Nat.zero_le _, rfl, by omega, hid (fun _ => by simp), hid (Drawn.refl _)⟩
  case round =>
    obtain ⟨k, m, rfl, hk, rfl, hm, HQ, HD⟩ := hrel
    have x1' : wr.cell? ⟨w.heap.size, 1, none⟩ = some (.slice a n cap) := (HD.out.cell _).trans x1
    by_cases hlt : k < n
    · have hlt' : (k : Int) < n := by omega
      by_cases hs : m ≤ top
      · have hs' : (m : Int) ≤ top := by omega
        obtain ⟨b, off, a', cap', rfl, hbl, hcell, _, hln⟩ := (HC.out.below HD.out.below).at (k := k) (by rw [HN.out]; exact hlt)
        have HF := hid (Cq.flat_len cs k (by rw [HN.out]; exact hlt))
        have HQ2 := hid (HQ.out hs)
        generalize (cs.getD k []).length = l at hcell hln HF
        clear hbl x1 HQ
        go_wp2
        go_roundw
        case rel => exact ⟨k + 1, m + l, by go_num, by omega, by go_num, by omega, hid (fun _ => by have := HQ2.out; have := HF.out; omega), HD⟩
        case measure => simp [intOf]; omega
      · have hs' : ¬ (m : Int) ≤ top := by omega
        clear x1
        by_cases h2 : (top : Int) + 1 < m
        · go_wp2
          go_ret
          exact ⟨⟨top + 1, ret_num9 (by omega), Nat.le_refl _, fun h => by omega⟩, HB1.out.trans (HD.out.below.mono HB1.out.size)⟩
        · go_wp2
          go_ret
          exact ⟨⟨m, ret_num9 (by omega), by omega, fun h => by omega⟩, HB1.out.trans (HD.out.below.mono HB1.out.size)⟩
    · have hlt' : ¬ (k : Int) < n := by omega
      have HQ2 := hid (show m ≤ top → cs.length + cs.flatten.length ≤ top from fun h => by
        have := HQ.out h
        rw [List.take_of_length_le (by rw [HN.out]; omega)] at this
        rw [HN.out]; omega)
      clear x1 HQ
      by_cases h2 : (top : Int) + 1 < m
      · go_wp2
        go_ret
        exact ⟨⟨top + 1, ret_num9 (by omega), Nat.le_refl _, fun h => by omega⟩, HB1.out.trans (HD.out.below.mono HB1.out.size)⟩
      · go_wp2
        go_ret
        exact ⟨⟨m, ret_num9 (by omega), by omega, HQ2.out⟩, HB1.out.trans (HD.out.below.mono HB1.out.size)⟩

/-- What Small tells. -/
def SmallOut (vars : Int) (cs : List (List Int)) (e : Ending) : Prop := ∃ b : Bool, e = .returned (.bool b) ∧ (b = true → vars ≤ 6 ∧ cs.length ≤ 12 ∧ cs.length + cs.flatten.length ≤ 72)
def SmlOut (vars : Int) (V C L : Nat) (cs : List (List Int)) (e : Ending) : Prop := ∃ b : Bool, e = .returned (.bool b) ∧ (b = true → vars ≤ V ∧ cs.length ≤ C ∧ cs.length + cs.flatten.length ≤ C + L)
set_option maxHeartbeats 2000000 in
theorem small21 (vars : Int) (a : Option Addr) (n cap V C L : Nat) (cs : List (List Int)) (w : World) (hV : V ≤ 100000) (hC : C ≤ 100000) (hL : L ≤ 100000) (hn : cs.length = n) (hN : n ≤ 8796093022208) (hc : Cls w a cs) :
    Calls Tryz.prog 16 #[.agg #[.int .i64 vars, .slice a n cap], .int .i64 V, .int .i64 C, .int .i64 L] w fun e w' => SmlOut vars V C L cs e ∧ Below w.heap.size w w' := by
  have hB := below_box w (.cells #[.int .i64 vars, .slice a n cap] 24)
  have hx := heap_alloc_new w (.cells #[.int .i64 vars, .slice a n cap] 24)
  generalize hW1 : w.alloc (.cells #[.int .i64 vars, .slice a n cap] 24) = W1 at hB hx
  have C46 := hid (size46 vars a n cap (C + L) cs W1 hn hN (by omega) (hc.below hB))
  have x0 : W1.cell? ⟨w.heap.size, 0, none⟩ = some (.int .i64 vars) := row_cell hx 0
  have x1 : W1.cell? ⟨w.heap.size, 1, none⟩ = some (.slice a n cap) := row_cell hx 1
  have HB := hid hB
  have HN := hid hn
  rw [show ((C + L : Nat) : Int) = (C : Int) + L from Int.natCast_add _ _] at C46
  clear hx hB hc hn
  by_cases h1 : vars ≤ V
  · by_cases h2 : n ≤ C
    · have h2' : (n : Int) ≤ C := by omega
      go_enter Tryz.func16, Tryz.ntmps16
      go_wp2_with (go_at_call 6; refine C46.out.mono ?_; clear C46; rintro e w3 ⟨⟨z, rfl, hz1, hz2⟩, hb⟩; have HB3 := hid hb; have HZ := hid hz2; clear hb hz2)
      go_ret
      refine ⟨⟨_, rfl, fun h => ⟨h1, by rw [HN.out]; exact h2, HZ.out ?_⟩⟩, HB.out.trans (HB3.out.mono HB.out.size)⟩
      simp at h
      omega
    · have h2' : ¬ (n : Int) ≤ C := by omega
      go_enter Tryz.func16, Tryz.ntmps16
      go_wp2_with fail
      go_ret
      exact ⟨⟨false, rfl, fun h => by cases h⟩, HB.out⟩
  · go_enter Tryz.func16, Tryz.ntmps16
    go_wp2_with fail
    go_ret
    exact ⟨⟨false, rfl, fun h => by cases h⟩, HB.out⟩
end Go.Proofs.YthpebfojkpnojaaGreat

/- Two clauses that are alike. -/
namespace Go.Proofs.YthpebfojkpnojaaGreat
open Go.RowKit Go.Maps
set_option linter.unusedVariables false
set_option linter.unusedSimpArgs false
set_option maxRecDepth 100000
theorem litAt26 {W : World} {b off : Nat} {xs : List Int} (h : Lits W (some ⟨b, off, none⟩) xs) {j : Nat} (hj : j < xs.length) : W.cell? ⟨b, off + j, none⟩ = some (.int .i32 (xs.getD j 0)) := by
  obtain ⟨b', off', e, _, hc, _⟩ := Row.at h hj
  cases e
  exact hc
set_option maxHeartbeats 2000000 in
/-- Two rows that are alike. -/
theorem same26 {w : World} {a b : Option Addr} {n c1 c2 : Nat} {xs : List Int} (hA : Lits w a xs) (hB : Lits w b xs) (hn : xs.length = n) (hN : n ≤ 35184372088832) :
    Calls Tryz.prog 49 #[.slice a n c1, .slice b n c2] w fun e w' => e = .returned (.bool true) ∧ Below w.heap.size w w' := by
  have hsa : n = 0 ∨ ∃ b off, a = some ⟨b, off, none⟩ := by rw [← hn]; exact hA.shape
  have hsb : n = 0 ∨ ∃ b' off, b = some ⟨b', off, none⟩ := by rw [← hn]; exact hB.shape
  have HA := hid (fun w' (h : Below w.heap.size w w') => hA.below h)
  have HB := hid (fun w' (h : Below w.heap.size w w') => hB.below h)
  have HN := hid hn
  clear hA hB hn
  rcases hsa with h0 | ⟨ba, oa, rfl⟩
  · subst h0
    clear hsb
    go_enter Tryz.func49, Tryz.ntmps49
    go_wp2
    go_loopw [5] (fun i wr => i = .int .i64 0 ∧ wr = w) (fun _ _ => 0)
    case atStart => exact ⟨rfl, rfl⟩
    case round =>
      obtain ⟨rfl, hw⟩ := hrel
      rw [hw]
      clear hw
      go_wp2
      go_ret
      exact ⟨rfl, Below.refl _ _⟩
  · rcases hsb with h0 | ⟨bb, ob, rfl⟩
    · subst h0
      go_enter Tryz.func49, Tryz.ntmps49
      go_wp2
      go_loopw [5] (fun i wr => i = .int .i64 0 ∧ wr = w) (fun _ _ => 0)
      case atStart => exact ⟨rfl, rfl⟩
      case round =>
        obtain ⟨rfl, hw⟩ := hrel
        rw [hw]
        clear hw
        go_wp2
        go_ret
        exact ⟨rfl, Below.refl _ _⟩
    · go_enter Tryz.func49, Tryz.ntmps49
      go_wp2
      go_loopw [5] (fun i wr => ∃ k : Nat, k ≤ n ∧ i = .int .i64 k ∧ Hid (Below w.heap.size w wr)) (fun i _ => n - (intOf i).toNat)
      case atStart => exact ⟨0, Nat.zero_le _, rfl, hid (Below.refl _ _)⟩
      case round =>
        obtain ⟨k, hk, rfl, HW⟩ := hrel
        by_cases hlt : k < n
        · have hlt' : (k : Int) < n := by omega
          have hc1 := litAt26 (HA.out _ HW.out) (j := k) (by rw [HN.out]; exact hlt)
          have hc2 := litAt26 (HB.out _ HW.out) (j := k) (by rw [HN.out]; exact hlt)
          generalize xs.getD k 0 = xv at *
          go_wp2
          go_region
          go_wp2
          go_roundw
          case rel => exact ⟨k + 1, by omega, by go_num, hid HW.out.drew⟩
          case measure => simp [intOf]; omega
        · have hge : ¬ (k : Int) < n := by omega
          go_wp2
          go_ret
          exact ⟨rfl, HW.out⟩
end Go.Proofs.YthpebfojkpnojaaGreat

/- The stack of a base of blocks of its own. -/
namespace Go.Proofs.YthpebfojkpnojaaGreat
open Go.RowKit Go.Maps
set_option linter.unusedVariables false
theorem Bst.stackC {w : World} {bb B : Nat} {s : Bas.S} {X : World} (h : Bst w bb B s X) (hst : s.stack.length ≤ 16777216) (hk : ∀ q ∈ s.stack, q.1.length ≤ 16777216 ∧ q.2.length ≤ 16777216) :
    Calls Tryz.prog 51 #[.pointer (some ⟨bb, 0, none⟩)] X fun en w' => StkOut s.stack X en w' ∧ Bst w bb B s w' := by
  have h' := h
  obtain ⟨M, K, h1, h2, h3, h4⟩ := h
  refine (stack17 h1 hst hk).mono ?_
  rintro en w' ⟨o, c, Q, q1, q2, q3, q4, q5⟩
  exact ⟨⟨o, c, Q, q1, q2, q3, q4, q5⟩, h'.below q5⟩
end Go.Proofs.YthpebfojkpnojaaGreat

