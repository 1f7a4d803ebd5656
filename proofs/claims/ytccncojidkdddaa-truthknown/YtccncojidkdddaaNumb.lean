/- The k-th model, by the program. -/
import Derived.Test.YtccncojidkdddaaTurned
import Derived.Laws.MakeOwn
namespace Go.Proofs.Ytccncojidkdddaa
open Go.RowKit
set_option linter.unusedVariables false

theorem info4 : (Try.prog.info? 4).map (fun i => (i.zero, i.size, i.bytes)) = some (some (.bool false), 1, 1) := by kernel_rfl

theorem bit_at (k j : Nat) (hk : k < 65536) : (bits .and .i64 ((k : Int) / 2 ^ j) 1 == 1) = k.testBit j := by
  have e : ((k : Int) / 2 ^ j) = ((k / 2 ^ j : Nat) : Int) := by simp
  have hl : k / 2 ^ j < 2 ^ 63 := Nat.lt_of_le_of_lt (Nat.div_le_self _ _) (by omega)
  rw [e, show (1 : Int) = ((1 : Nat) : Int) from rfl, (bits_nat .i64 63 (by decide) (fun n h0 h1 => by rw [IntKind.wrap_i64]; omega) (k / 2 ^ j) 1 hl (by decide)).1, Nat.testBit_eq_decide_div_mod_eq, Nat.and_one_is_mod]
  generalize k / 2 ^ j = x
  rw [Bool.eq_iff_iff, beq_iff_eq, decide_eq_true_eq]
  omega
/-- A model in a row, told. -/
def ModelOut (n k : Nat) (e : Ending) (w : World) : Prop := ∃ a cap, e = .returned (.slice a n cap) ∧ Bools w a (Tru.model n k)

set_option maxRecDepth 100000 in
set_option maxHeartbeats 4000000 in
theorem numbered23 (k n : Nat) (w : World) (hk : k < 65536) (hn : n ≤ 16) :
    Calls Try.prog 23 #[.int .i64 k, .int .i64 n] w fun e w' => ModelOut n k e w' ∧ Below w.heap.size w w' := by
  have hn0 : (0 : Int) ≤ n := by omega
  have hn1 : (n : Int) ≤ 16 := by omega
  obtain ⟨i0, hi, hz⟩ := Option.map_eq_some_iff.1 info4
  simp only [Prod.mk.injEq] at hz
  have hmk := run_makeSlice (P := Try.prog) w 27 4 i0 (.bool false) Try.underlying27 hi hz.1 .i64 .i64 (n : Int) (n : Int) (by omega) (Int.le_refl _) (by rw [hz.2.1]; omega) (by rw [hz.2.2]; omega) (by omega)
  rw [hz.2.1, Nat.mul_one, Int.toNat_natCast] at hmk
  obtain ⟨A0, hA0⟩ : ∃ A0, madeCells (Value.bool false).cells n = A0 := ⟨_, rfl⟩
  have hsz : A0.size = n := by rw [← hA0]; exact size_madeCells _ _
  rw [hA0] at hmk
  obtain ⟨W1, hW1⟩ : ∃ W1, w.alloc (.cells A0 4) = W1 := ⟨_, rfl⟩
  have hh : W1.heap[w.heap.size]? = some (.cells A0 4 (0, 0)) := by rw [← hW1]; exact World.alloc_heap_new w _
  have hB : Below w.heap.size w W1 := by rw [← hW1]; exact below_box _ _
  rw [hW1] at hmk
  have HH := hid hh
  have HB := hid hB
  have HK := hid hk
  clear hi hz hA0 hW1 hh hB hk hn1
  go_enter Try.func23, Try.ntmps23
  go_wp2
  go_loopw [11] (fun i wr => ∃ (j : Nat) (A : Array Value), j ≤ n ∧ i = .int .i64 j ∧ Hid (wr.heap[w.heap.size]? = some (.cells A 4 (0, 0))) ∧ A.size = n ∧ Hid (∀ t, t < j → A[t]? = some (.bool (k.testBit t))) ∧ Hid (Below w.heap.size w wr)) (fun i _ => n - (intOf i).toNat)
  case atStart => exact ⟨0, A0, Nat.zero_le _, rfl, HH, hsz, hid (fun t ht => absurd ht (Nat.not_lt_zero t)), HB⟩
  case round =>
    clear HH HB
    obtain ⟨j, A, hj, rfl, HH, hsA, HA, HB⟩ := hrel
    by_cases hlt : j < n
    · have hlt' : (j : Int) < n := by omega
      have hj0 : (0 : Int) ≤ j := by omega
      have x0 := row_cell HH.out j
      rw [Array.getElem?_eq_getElem (by omega)] at x0
      generalize A[j] = old at x0
      have f0 := row_frozen HH.out j
      have hbt := bit_at k j HK.out
      go_wp2
      go_roundw
      case rel =>
        refine ⟨j + 1, A.setIfInBounds j (.bool (k.testBit j)), by omega, by go_num, hid (heap_set_row HH.out _), by simp [hsA], hid (fun t ht => ?_), hid (HB.out.setCell (p := ⟨w.heap.size, j, none⟩) (Nat.le_refl _) _)⟩
        by_cases htj : t = j
        · subst htj; rw [Array.getElem?_setIfInBounds_self_of_lt (by omega)]
        · rw [Array.getElem?_setIfInBounds_ne (by omega)]; exact HA.out t (by omega)
      case measure => simp [intOf]; omega
    · have hge : ¬ (j : Int) < n := by omega
      obtain rfl : j = n := by omega
      go_wp2
      go_ret
      refine ⟨⟨_, _, rfl, ?_⟩, HB.out⟩
      rcases Nat.eq_zero_or_pos j with h0 | hp
      · left; subst h0; rfl
      · right
        refine ⟨w.heap.size, 0, rfl, (Array.getElem?_eq_some_iff.1 HH.out).1, fun t ht => ?_⟩
        rw [Tru.model_len] at ht
        rw [Nat.zero_add, row_cell HH.out t, HA.out t ht, Tru.model_get j k t ht]
end Go.Proofs.Ytccncojidkdddaa
