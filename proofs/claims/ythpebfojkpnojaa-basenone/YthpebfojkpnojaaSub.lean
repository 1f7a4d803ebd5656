/- Subsumes, of few literals. -/
import Derived.Test.YthpebfojkpnojaaCtn
namespace Bas
def sub (xs ys : List Int) : Bool := xs.all (fun x => decide (x ∈ ys))
theorem sub_subs (xs ys : List Int) : sub xs ys = subs xs ys := by unfold sub subs; congr 1; funext x; simp
theorem sub_take (xs ys : List Int) (k : Nat) (h : k < xs.length) : sub (xs.take (k + 1)) ys = (sub (xs.take k) ys && decide (xs.getD k 0 ∈ ys)) := by
  unfold sub
  rw [List.take_succ_eq_append_getElem h, List.all_append]
  simp [List.getD, List.getElem?_eq_getElem h]
theorem sub_false (xs ys : List Int) (k : Nat) (h : k < xs.length) (h2 : decide (xs.getD k 0 ∈ ys) = false) : sub xs ys = false := by
  unfold sub
  rw [List.all_eq_false]
  refine ⟨xs.getD k 0, ?_, by simpa using h2⟩
  simp [List.getD, List.getElem?_eq_getElem h]
end Bas
namespace Go.Proofs.Ythpebfojkpnojaa
open Go.RowKit Go.Maps
set_option linter.unusedVariables false
theorem ret_boolS {a b : Bool} (h : a = b) : Ending.returned (.bool a) = .returned (.bool b) := by rw [h]

set_option maxRecDepth 100000 in
set_option maxHeartbeats 1000000 in
theorem index82 (v : Int) (a : Option Addr) (n cap : Nat) (xs : List Int) (w : World) (hn : xs.length = n) (hN : n ≤ 35184372088832) (h : Lits w a xs) :
    Calls Try.prog 82 #[.slice a n cap, .int .i32 v] w fun e w' => IdxOut v xs e ∧ w' = w := by
  have HN := hid hn
  have HX := hid h
  have hsh : n = 0 ∨ ∃ b off, a = some ⟨b, off, none⟩ := by rw [← hn]; exact h.shape
  have HSH := hid hsh
  clear hn h hsh
  rcases HSH.out with h0 | ⟨b, off, rfl⟩
  · subst h0
    have HXS := hid (show xs = [] from List.eq_nil_of_length_eq_zero HN.out)
    go_enter Try.func82, Try.ntmps82
    go_wp2
    go_loop [8] (fun i => i = .int .i64 0) (fun _ => 0)
    case atStart => rfl
    case round =>
      obtain rfl := hrel
      go_wp2
      go_ret
      exact ⟨⟨-1, rfl, by rw [HXS.out]; simp⟩, rfl⟩
  · go_enter Try.func82, Try.ntmps82
    go_wp2
    go_loop [8] (fun i => ∃ k : Nat, k ≤ n ∧ i = .int .i64 k ∧ Hid (v ∉ xs.take k)) (fun i => n - (intOf i).toNat)
    case atStart => exact ⟨0, Nat.zero_le _, rfl, hid (by simp)⟩
    case round =>
      obtain ⟨k, hk, rfl, HT⟩ := hrel
      by_cases hlt : k < n
      · have hlt' : (k : Int) < n := by omega
        obtain ⟨b', off', e, _, hc, _⟩ := Row.at HX.out (j := k) (by rw [HN.out]; exact hlt)
        cases e
        by_cases hz : xs.getD k 0 = v
        · rw [hz] at hc
          have HM := hid (show v ∈ xs by rw [← hz]; exact getD_mem xs k (by rw [HN.out]; exact hlt))
          have hvv : (v == v) = true := by simp
          clear hz
          go_wp2
          go_ret
          exact ⟨⟨k, rfl, ⟨fun _ => HM.out, fun _ => by omega⟩⟩, rfl⟩
        · have HT' := hid (Bas.any_take v xs k (by rw [HN.out]; exact hlt) HT.out hz)
          have hz' : (v == xs.getD k 0) = false := by simp; exact fun e => hz e.symm
          have hz2 : ¬ v = xs.getD k 0 := fun e => hz e.symm
          generalize xs.getD k 0 = xv at *
          go_wp2
          go_round
          case rel => exact ⟨k + 1, by omega, by go_num, HT'⟩
          case measure => simp [intOf]; omega
      · have hge : ¬ (k : Int) < n := by omega
        obtain rfl : k = n := by omega
        have HT' := HT.out
        rw [List.take_of_length_le (by rw [HN.out]; exact Nat.le_refl _)] at HT'
        have HT2 := hid HT'
        clear HT'
        go_wp2
        go_ret
        exact ⟨⟨-1, rfl, ⟨fun h => by omega, fun h => absurd h HT2.out⟩⟩, rfl⟩
theorem contains66 (v : Int) (a : Option Addr) (n cap : Nat) (xs : List Int) (w : World) (hn : xs.length = n) (hN : n ≤ 35184372088832) (h : Lits w a xs) :
    Calls Try.prog 66 #[.slice a n cap, .int .i32 v] w fun e w' => e = .returned (.bool (decide (v ∈ xs))) ∧ w' = w := by
  have HC := hid (index82 v a n cap xs w hn hN h)
  clear hn h
  go_enter Try.func66, Try.ntmps66
  go_wp2_with (go_at_call 82; refine HC.out.mono ?_; rintro e w3 ⟨⟨i, rfl, hi⟩, hw⟩; rw [hw]; clear hw; have HI := hid hi; clear hi)
  go_ret
  exact ⟨by congr 2; simp [HI.out], rfl⟩

theorem holds59 (v : Int) (a : Option Addr) (n cap : Nat) (xs : List Int) (w : World) (hn : xs.length = n) (hN : n ≤ 35184372088832) (h : Lits w a xs) :
    Calls Try.prog 59 #[.slice a n cap, .int .i32 v] w fun e w' => e = .returned (.bool (decide (v ∈ xs))) ∧ w' = w := by
  have HC := hid (contains66 v a n cap xs w hn hN h)
  clear hn h
  generalize decide (v ∈ xs) = r at *
  go_enter Try.func59, Try.ntmps59
  go_wp2_with (go_at_call 66; refine HC.out.mono ?_; rintro e w3 ⟨rfl, hw⟩; rw [hw]; clear hw)
  go_ret
  exact ⟨rfl, rfl⟩
set_option maxHeartbeats 1000000 in
theorem asked48_few (a : Option Addr) (n cap : Nat) (t : Int) (w : World) (h : n ≤ 16 ∨ t ≤ 16) :
    Calls Try.prog 48 #[.slice a n cap, .int .i64 t] w fun e w' => e = .returned (.tuple #[.slice a n cap, .func (.func 59) #[] #[]]) ∧ w' = w := by
  by_cases h1 : n ≤ 16
  · have h1' : (n : Int) ≤ 16 := by omega
    clear h
    go_enter Try.func48, Try.ntmps48
    go_wp2
    go_ret2
    exact ⟨rfl, rfl⟩
  · have h1' : ¬ (n : Int) ≤ 16 := by omega
    have h2 : t ≤ 16 := by omega
    clear h
    go_enter Try.func48, Try.ntmps48
    go_wp2
    go_ret2
    exact ⟨rfl, rfl⟩
set_option maxHeartbeats 2000000 in
set_option maxRecDepth 100000 in
theorem subsumes27_few (a b : Option Addr) (n ca m cb : Nat) (xs ys : List Int) (w : World) (h : m ≤ 16 ∨ n ≤ 16) (hn : xs.length = n) (hm : ys.length = m) (hN : n ≤ 1099511627776) (hM : m ≤ 1099511627776) (hx : Lits w a xs) (hy : Lits w b ys) :
    Calls Try.prog 27 #[.slice a n ca, .slice b m cb] w fun e w' => e = .returned (.bool (Bas.sub xs ys)) ∧ w' = w := by
  have A := hid (asked48_few b m cb n w (by omega))
  have HX := hid hx
  have HN := hid hn
  have HC : Hid (∀ x, Calls Try.prog 59 #[.slice b m cb, .int .i32 x] w fun e w' => e = .returned (.bool (decide (x ∈ ys))) ∧ w' = w) := fun x => holds59 x b m cb ys w hm (by omega) hy
  clear hx hy hn hm h
  go_enter Try.func27, Try.ntmps27
  go_wp2_with fail
  refine A.out.mono ?_
  rintro e w' ⟨rfl, rfl⟩
  clear A
  go_wp2_with fail
  go_loop [18] (fun i => ∃ k : Nat, k ≤ n ∧ i = .int .i64 k ∧ Hid (Bas.sub (xs.take k) ys = true)) (fun i => n - (intOf i).toNat)
  case atStart => exact ⟨0, Nat.zero_le _, rfl, hid rfl⟩
  case round =>
    obtain ⟨k, hk, rfl, HV⟩ := hrel
    by_cases hlt : k < n
    · have hlt' : (k : Int) < n := by omega
      obtain ⟨b1, o1, e1, _, hc, hx1, hx2⟩ := Row.at HX.out (j := k) (by rw [HN.out]; exact hlt)
      subst e1
      have HS := hid (Bas.sub_take xs ys k (by rw [HN.out]; exact hlt))
      have HF := hid (Bas.sub_false xs ys k (by rw [HN.out]; exact hlt))
      generalize xs.getD k 0 = x at hc hx1 hx2 HS HF
      have C := hid (HC.out x)
      generalize decide (x ∈ ys) = r at C HS HF
      cases r
      · go_wp2_with (go_at_call 59; refine C.out.mono ?_; rintro e w' ⟨rfl, rfl⟩)
        go_ret
        exact ⟨ret_boolS (HF.out (by simp)).symm, rfl⟩
      · go_wp2_with (go_at_call 59; refine C.out.mono ?_; rintro e w' ⟨rfl, rfl⟩)
        go_round
        case rel => exact ⟨k + 1, by omega, by go_num, hid (by rw [HS.out, HV.out]; rfl)⟩
        case measure => simp [intOf]; omega
    · have hge : ¬ (k : Int) < n := by omega
      go_wp2_with fail
      go_ret
      have e : xs.take k = xs := List.take_of_length_le (by rw [HN.out]; omega)
      exact ⟨ret_boolS (by have h := HV.out; rw [e] at h; exact h.symm), rfl⟩
set_option maxHeartbeats 2000000 in
theorem spare37_by (id : Int) (a : Option Addr) (n c : Nat) (red : Bool) (xs : List Int) (id2 : Int) (a2 : Option Addr) (n2 c2 : Nat) (red2 : Bool) (ys : List Int) (w : World) (hz : id2 ≠ 0) (hf : n ≤ 16 ∨ n2 ≤ 16) (hn : xs.length = n) (hm : ys.length = n2) (hN : n ≤ 1099511627776) (hM : n2 ≤ 1099511627776) (hx : Lits w a xs) (hy : Lits w a2 ys) :
    Calls Try.prog 37 #[.agg #[.int .i64 id, .slice a n c, .bool red], .agg #[.int .i64 id2, .slice a2 n2 c2, .bool red2]] w fun e w' => e = .returned (.bool (decide (id2 ≠ id) && Bas.sub ys xs)) ∧ Below w.heap.size w w' := by
  have hB1 := below_box w (.cells #[.int .i64 id, .slice a n c, .bool red] 32)
  have hx1 := heap_alloc_new w (.cells #[.int .i64 id, .slice a n c, .bool red] 32)
  generalize hW1 : w.alloc (.cells #[.int .i64 id, .slice a n c, .bool red] 32) = W1 at hB1 hx1
  have hB2 := below_box W1 (.cells #[.int .i64 id2, .slice a2 n2 c2, .bool red2] 32)
  have hx2 := heap_alloc_new W1 (.cells #[.int .i64 id2, .slice a2 n2 c2, .bool red2] 32)
  generalize hW2 : W1.alloc (.cells #[.int .i64 id2, .slice a2 n2 c2, .bool red2] 32) = W2 at hB2 hx2
  have hs1 : W1.heap.size = w.heap.size + 1 := by rw [← hW1]; simp
  have hxx := (hB2.block w.heap.size (by omega)).trans hx1
  have x0 : W2.cell? ⟨w.heap.size, 0, none⟩ = some (.int .i64 id) := row_cell hxx 0
  have x1 : W2.cell? ⟨w.heap.size, 1, none⟩ = some (.slice a n c) := row_cell hxx 1
  have y0 : W2.cell? ⟨W1.heap.size, 0, none⟩ = some (.int .i64 id2) := row_cell hx2 0
  have y1 : W2.cell? ⟨W1.heap.size, 1, none⟩ = some (.slice a2 n2 c2) := row_cell hx2 1
  rw [hs1] at y0 y1
  have hB := hB1.trans (hB2.mono hB1.size)
  have HC := hid (subsumes27_few a2 a n2 c2 n c ys xs W2 hf hm hn hM hN (hy.below hB) (hx.below hB))
  have HB := hid hB
  have hz' : (id2 == 0) = false := by simpa using hz
  clear hxx hx1 hx2 hn hm hx hy hf hB hB1 hB2 hz
  generalize Bas.sub ys xs = r at HC ⊢
  by_cases hi : id2 = id
  · subst hi
    have hne : (id2 != id2) = false := by simp
    have hd : (decide (id2 ≠ id2) && r) = false := by simp
    rw [hd]
    go_enter Try.func37, Try.ntmps37
    go_wp2_with fail
    go_ret
    exact ⟨rfl, HB.out⟩
  · have hne : (id2 != id) = true := by simpa using hi
    have hd : (decide (id2 ≠ id) && r) = r := by simp [hi]
    rw [hd]
    go_enter Try.func37, Try.ntmps37
    go_wp2_with (go_at_call 27; refine HC.out.mono ?_; rintro e w3 ⟨rfl, hw⟩; rw [hw]; clear hw)
    go_ret
    exact ⟨rfl, HB.out⟩
end Go.Proofs.Ythpebfojkpnojaa
