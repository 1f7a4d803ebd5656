/- The methods of a clause's two masks. -/
import Derived.Test.YtccncojidkdddaaSmall
import Derived.Laws.BitsLemmas
namespace Go.Proofs.Ytccncojidkdddaa
open Go.RowKit
set_option linter.unusedVariables false

theorem wraps_u32 (n : Int) (h0 : 0 ≤ n) (h1 : n < 2 ^ 32) : IntKind.u32.wrap n = n := by rw [IntKind.wrap_u32]; omega
theorem and32 (a b : Nat) (ha : a < 4294967296) (hb : b < 4294967296) : bits .and .u32 (a : Int) (b : Int) = ((a &&& b : Nat) : Int) := (bits_nat .u32 32 (by decide) wraps_u32 a b ha hb).1
theorem or32 (a b : Nat) (ha : a < 4294967296) (hb : b < 4294967296) : bits .or .u32 (a : Int) (b : Int) = ((a ||| b : Nat) : Int) := (bits_nat .u32 32 (by decide) wraps_u32 a b ha hb).2
theorem xor32 (a b : Nat) (ha : a < 4294967296) (hb : b < 4294967296) : bits .xor .u32 (a : Int) (b : Int) = ((a ^^^ b : Nat) : Int) := by
  have hx : a ^^^ b < 2 ^ 32 := Nat.xor_lt_two_pow (by omega) (by omega)
  have h1 : (BitVec.ofInt 32 (a : Int)).toNat = a := by
    rw [BitVec.ofInt_natCast, BitVec.toNat_ofNat]; exact Nat.mod_eq_of_lt (by omega)
  have h2 : (BitVec.ofInt 32 (b : Int)).toNat = b := by
    rw [BitVec.ofInt_natCast, BitVec.toNat_ofNat]; exact Nat.mod_eq_of_lt (by omega)
  show IntKind.u32.wrap ((BitVec.ofInt 32 (a : Int) ^^^ BitVec.ofInt 32 (b : Int)).toNat : Int) = _
  rw [BitVec.toNat_xor, h1, h2, IntKind.wrap_u32]
  omega

theorem nat_bne (n : Nat) : ((n : Int) != 0) = (n != 0) := by
  rw [Bool.eq_iff_iff, bne_iff_ne, bne_iff_ne]
  omega

set_option maxHeartbeats 2000000 in
theorem mholds29 (a b k : Nat) (w : World) (ha : a < 65536) (hb : b < 65536) (hk : k < 65536) :
    Calls Try.prog 29 #[.agg #[.int .u32 a, .int .u32 b], .int .i64 k] w fun e w' => e = .returned (.bool (Tru.mh (a, b) k)) ∧ Below w.heap.size w w' := by
  have hx : bits .xor .u32 IntKind.u32.max (k : Int) = ((4294967295 ^^^ k : Nat) : Int) := xor32 4294967295 k (by decide) (by omega)
  have hx2 : 4294967295 ^^^ k < 2 ^ 32 := Nat.xor_lt_two_pow (by decide) (by omega)
  have e1 : bits .and .u32 (bits .xor .u32 IntKind.u32.max (k : Int)) a = (((4294967295 ^^^ k) &&& a : Nat) : Int) := by rw [hx]; exact and32 _ a (by omega) (by omega)
  have e2 : bits .and .u32 (k : Int) b = ((k &&& b : Nat) : Int) := and32 k b (by omega) (by omega)
  have hm : Tru.mh (a, b) k = (((4294967295 ^^^ k) &&& a) != 0 || (k &&& b) != 0) := rfl
  generalize (4294967295 ^^^ k) &&& a = P at e1 hm
  generalize k &&& b = Q at e2 hm
  have HM := hid hm
  have hk0 : (0 : Int) ≤ k := by omega
  have hk2 : (k : Int) < 4294967296 := by omega
  clear hx hx2 hm ha hb hk
  generalize (k : Int) = K at e1 e2 hk0 hk2
  generalize (a : Int) = A at e1
  generalize (b : Int) = B at e2
  by_cases hP : P = 0
  · have hP' : (P : Int) = 0 := by omega
    have HM2 := hid (show Tru.mh (a, b) k = ((Q : Int) != 0) by rw [HM.out, hP, nat_bne]; rfl)
    clear HM hP
    go_enter Try.func29, Try.ntmps29
    go_wp2
    go_ret
    exact ⟨ret_bool HM2.out.symm, below_box _ _⟩
  · have hP' : ¬ (P : Int) = 0 := by omega
    have HM2 := hid (show Tru.mh (a, b) k = true by rw [HM.out]; simp [hP])
    clear HM hP
    go_enter Try.func29, Try.ntmps29
    go_wp2
    go_ret
    exact ⟨ret_bool HM2.out.symm, below_box _ _⟩

set_option maxHeartbeats 2000000 in
theorem always36 (a b : Nat) (w : World) (ha : a < 65536) (hb : b < 65536) :
    Calls Try.prog 36 #[.agg #[.int .u32 a, .int .u32 b]] w fun e w' => e = .returned (.bool (Tru.always (a, b))) ∧ Below w.heap.size w w' := by
  have e1 : bits .and .u32 (a : Int) b = ((a &&& b : Nat) : Int) := and32 a b (by omega) (by omega)
  have hm : Tru.always (a, b) = ((a &&& b) != 0) := rfl
  generalize a &&& b = P at e1 hm
  have HM := hid hm
  clear hm ha hb
  go_enter Try.func36, Try.ntmps36
  go_wp2
  go_ret
  exact ⟨ret_bool (by rw [HM.out, nat_bne]), below_box _ _⟩

theorem heap_new2 (w : World) (o o' : Obj) : ((w.alloc o).alloc o').heap[w.heap.size + 1]? = some o' := by
  have := World.alloc_heap_new (w.alloc o) o'
  simpa using this

set_option maxHeartbeats 2000000 in
theorem high48 (a b : Nat) (w : World) (ha : a < 65536) (hb : b < 65536) :
    Calls Try.prog 48 #[.agg #[.int .u32 a, .int .u32 b]] w fun e w' => e = .returned (.agg #[.int .u32 (Tru.high (a, b)).1, .int .u32 (Tru.high (a, b)).2]) ∧ Below w.heap.size w w' := by
  have ha' : (a : Int) < 65536 := by omega
  have hb' : (b : Int) < 65536 := by omega
  clear ha hb
  go_enter Try.func48, Try.ntmps48
  go_wp2
  refine bodyPost_ret (results_cell_row rfl _ _ (w.heap.size + 1) 56 #[.int .u32 ((a : Int) / 256 * 256), .int .u32 ((b : Int) / 256 * 256)] (0, 0) _ rfl (heap_new2 w _ _) Try.underlying56 rfl (by kernel_rfl)) rfl ?_
  refine ⟨?_, (below_box _ _).trans ((below_box _ _).mono (by simp))⟩
  show _ = Ending.returned (.agg #[.int .u32 ((a / 256 * 256 : Nat) : Int), .int .u32 ((b / 256 * 256 : Nat) : Int)])
  rw [show ((a / 256 * 256 : Nat) : Int) = (a : Int) / 256 * 256 by omega, show ((b / 256 * 256 : Nat) : Int) = (b : Int) / 256 * 256 by omega]
end Go.Proofs.Ytccncojidkdddaa
