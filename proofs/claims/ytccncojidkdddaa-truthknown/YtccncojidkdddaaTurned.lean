/- A clause turned into its two masks. -/
import Derived.Test.YtccncojidkdddaaMask
import Derived.Deep.RegionWith
namespace Tru
theorem mask_take (xs : List Int) (k : Nat) (h : k < xs.length) : mask (xs.take (k + 1)) = turn (mask (xs.take k)) (xs.getD k 0) := by
  unfold mask
  rw [Cnf.take_snoc xs k h, List.foldl_append]
  rfl
end Tru
namespace Go.Proofs.Ytccncojidkdddaa
open Go.RowKit
set_option linter.unusedVariables false

theorem row_frozen {W : World} {b : Nat} {cs : Array Value} {t : TypeId} (h : W.heap[b]? = some (.cells cs t (0, 0))) (k : Nat) : W.frozen? ⟨b, k, none⟩ = false := by
  simp [World.frozen?, h]

theorem heap_other (W : World) {b k x : Nat} (u : Value) (hne : x ≠ b) : (W.setCell ⟨b, k, none⟩ u).heap[x]? = W.heap[x]? := Below.heap_setCell W ⟨b, k, none⟩ u x hne
theorem heap_set_row {W : World} {b k : Nat} {cs : Array Value} {t : TypeId} {fr : Nat × Nat} (h : W.heap[b]? = some (.cells cs t fr)) (v : Value) : (W.setCell ⟨b, k, none⟩ v).heap[b]? = some (.cells (cs.setIfInBounds k v) t fr) := by
  simp [World.setCell, Array.getElem?_modify, h]

set_option maxRecDepth 100000 in
set_option maxHeartbeats 4000000 in
theorem turned28 (a : Option Addr) (n cap : Nat) (xs : List Int) (w : World) (hn : xs.length = n) (hb : n ≤ 1099511627776) (hx : Lits w a xs) (hv : ∀ l ∈ xs, 1 ≤ Cnf.vr l ∧ Cnf.vr l ≤ 16) :
    Calls Try.prog 28 #[.slice a n cap] w fun e w' => e = .returned (.agg #[.int .u32 (Tru.mask xs).1, .int .u32 (Tru.mask xs).2]) ∧ Below w.heap.size w w' := by
  have HX := hid hx
  have HN := hid hn
  have HV := hid hv
  obtain ⟨W2, hW2⟩ : ∃ W2, (w.alloc (.cells #[.int .u32 0, .int .u32 0] 56)).alloc (.cells #[.int .u32 0, .int .u32 0] 56) = W2 := ⟨_, rfl⟩
  have hB2 : Below w.heap.size w W2 := by rw [← hW2]; exact (below_box _ _).trans ((below_box _ _).mono (by simp))
  have h0 : W2.heap[w.heap.size]? = some (.cells #[.int .u32 0, .int .u32 0] 56 (0, 0)) := by rw [← hW2, Below.heap_alloc _ _ _ (by simp)]; exact World.alloc_heap_new w _
  have h1 : W2.heap[w.heap.size + 1]? = some (.cells #[.int .u32 ((0 : Nat) : Int), .int .u32 ((0 : Nat) : Int)] 56 (0, 0)) := by rw [← hW2]; exact heap_new2 w _ _
  have H0 := hid h0
  have H1 := hid h1
  have HB2 := hid hB2
  have HW := hid hW2
  clear hx hn hv hB2 h0 h1 hW2
  go_enter Try.func28, Try.ntmps28
  go_wp2
  rw [HW.out]
  clear HW
  go_loopw [9] (fun i wr => ∃ (k : Nat) (p q : Nat), k ≤ n ∧ i = .int .i64 k ∧ Hid ((p, q) = Tru.mask (xs.take k)) ∧ p < 65536 ∧ q < 65536 ∧ Hid (wr.heap[w.heap.size]? = some (.cells #[.int .u32 0, .int .u32 0] 56 (0, 0))) ∧ Hid (wr.heap[w.heap.size + 1]? = some (.cells #[.int .u32 p, .int .u32 q] 56 (0, 0))) ∧ Hid (Below w.heap.size w wr)) (fun i _ => n - (intOf i).toNat)
  case atStart => exact ⟨0, 0, 0, Nat.zero_le _, rfl, hid rfl, by decide, by decide, H0, H1, HB2⟩
  case round =>
    clear H0 H1 HB2
    obtain ⟨k, p, q, hk, rfl, HP, hp, hq, H0, H1, HB⟩ := hrel
    have x0 := row_cell H1.out 0
    have x1 := row_cell H1.out 1
    simp only [List.getElem?_toArray, List.getElem?_cons_zero, List.getElem?_cons_succ] at x0 x1
    have f0 := row_frozen H1.out 0
    have f1 := row_frozen H1.out 1
    by_cases hlt : k < n
    · obtain ⟨b1, o1, rfl, hc1, hx1, hx2⟩ := HX.out.at (k := k) (by rw [HN.out]; exact hlt)
      have hc := (HB.out.cell (p := ⟨b1, o1 + k, none⟩) (World.block_lt_of_cell? w _ hc1)).trans hc1
      have HT := hid (Tru.mask_take xs k (by rw [HN.out]; exact hlt))
      have hvl := HV.out _ (Cnf.getD_mem xs k (by rw [HN.out]; exact hlt))
      generalize xs.getD k 0 = l at hc hx1 hx2 HT hvl
      have hlt' : (k : Int) < n := by omega
      have C27 := hid (fun (W : World) => var27 l W hx1 hx2)
      obtain ⟨d, hd⟩ : ∃ d : Nat, Cnf.vr l = (d : Int) + 1 := ⟨(Cnf.vr l - 1).toNat, by omega⟩
      rw [hd] at C27
      have hd15 : d ≤ 15 := by omega
      have hbit : Tru.bit l = 2 ^ d := by unfold Tru.bit; rw [hd]; congr 1; omega
      have HBT := hid hbit
      have hw2 : IntKind.u32.wrap ((2 : Int) ^ d) = ((2 ^ d : Nat) : Int) := by
        have h2 : 2 ^ d < 65536 := Nat.lt_of_le_of_lt (Nat.pow_le_pow_right (by decide) hd15) (by decide)
        have e : ((2 : Int) ^ d) = ((2 ^ d : Nat) : Int) := by simp
        rw [e, IntKind.wrap_u32]
        omega
      have hp2 : 2 ^ d < 65536 := Nat.lt_of_le_of_lt (Nat.pow_le_pow_right (by decide) hd15) (by decide)
      have o0 := or32 p (2 ^ d) (by omega) (by omega)
      have o1' := or32 q (2 ^ d) (by omega) (by omega)
      have c1 : (d : Int) + 1 - 1 = d := by omega
      have hwr : IntKind.i64.wrap (d : Int) = d := by rw [IntKind.wrap_i64]; omega
      clear hc1 hbit hvl hd
      generalize (2 ^ d : Nat) = D at hw2 o0 o1' hp2 HBT
      have HOR := hid (show p ||| D < 65536 ∧ q ||| D < 65536 from ⟨Nat.or_lt_two_pow (n := 16) hp hp2, Nat.or_lt_two_pow (n := 16) hq hp2⟩)
      by_cases hl : 0 < l
      · go_wp2
        go_region_with (go_at_call 27; refine (C27.out _).mono ?_; rintro e W7 ⟨rfl, rfl⟩)
        all_goals
          go_wp2
          go_roundw
          case rel => exact ⟨k + 1, p, q ||| D, by omega, by go_num, hid (by rw [HT.out, ← HP.out]; unfold Tru.turn; rw [if_pos hl, HBT.out]), hp, HOR.out.2, hid ((heap_other _ _ (by omega)).trans H0.out), hid (heap_set_row H1.out _), hid (HB.out.setCell (p := ⟨w.heap.size + 1, 1, none⟩) (by dsimp only; omega) _).drew⟩
          case measure => simp [intOf]; omega
      · go_wp2
        go_region_with (go_at_call 27; refine (C27.out _).mono ?_; rintro e W7 ⟨rfl, rfl⟩)
        all_goals
          go_wp2
          go_roundw
          case rel => exact ⟨k + 1, p ||| D, q, by omega, by go_num, hid (by rw [HT.out, ← HP.out]; unfold Tru.turn; rw [if_neg (by omega), HBT.out]), HOR.out.1, hq, hid ((heap_other _ _ (by omega)).trans H0.out), hid (heap_set_row H1.out _), hid (HB.out.setCell (p := ⟨w.heap.size + 1, 0, none⟩) (by dsimp only; omega) _).drew⟩
          case measure => simp [intOf]; omega
    · have hge : ¬ (k : Int) < n := by omega
      have y0 := row_cell H0.out 0
      have y1 := row_cell H0.out 1
      simp only [List.getElem?_toArray, List.getElem?_cons_zero, List.getElem?_cons_succ] at y0 y1
      have g0 := row_frozen H0.out 0
      have g1 := row_frozen H0.out 1
      have HM := hid (show (p, q) = Tru.mask xs by rw [HP.out, List.take_of_length_le (by rw [HN.out]; omega)])
      go_wp2
      refine bodyPost_ret (results_cell_row rfl _ _ w.heap.size 56 #[.int .u32 p, .int .u32 q] (0, 0) _ rfl (heap_set_row (heap_set_row H0.out _) _) Try.underlying56 rfl (by kernel_rfl)) rfl ?_
      refine ⟨?_, (HB.out.setCell (p := ⟨w.heap.size, 0, none⟩) (Nat.le_refl _) _).setCell (p := ⟨w.heap.size, 1, none⟩) (Nat.le_refl _) _⟩
      rw [← HM.out]
end Go.Proofs.Ytccncojidkdddaa
