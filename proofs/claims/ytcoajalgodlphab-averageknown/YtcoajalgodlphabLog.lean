/- Logarithms, powers, the row's numbers: the program's and the document's. -/
import Derived.Test.YtcoajalgodlphabMem
import Derived.Test.YtcoajalgodlphabShelf
namespace Go.Proofs.Ytcoajalgodlphab
open Go.RowKit Go.Maps Av
set_option linter.unusedVariables false
set_option maxRecDepth 100000

theorem len40 (n : Nat) (w : World) (h : 1 ≤ n) (h2 : n < 9223372036854775808) :
    Calls Try.prog 23 #[.int .u64 (n : Int)] w fun e w' => e = .returned (.int .i64 ((Nat.log2 n + 1 : Nat) : Int)) ∧ w' = w := by
  have := Any.bits_Len64 Try.len64L (n : Int) w (by omega) (by omega)
  rw [Int.toNat_natCast, bitLen_log (by omega) (by omega)] at this
  exact this
theorem log_bd {n : Nat} (h : 1 ≤ n) (h2 : n < 9223372036854775808) : Nat.log2 n ≤ 62 := by
  have := log_lt (k := 63) h (by omega)
  omega
theorem log36 (n : Nat) (w : World) (h : 1 ≤ n) (h2 : n < 9223372036854775808) :
    Calls Try.prog 20 #[.int .i64 (n : Int)] w fun e w' => e = .returned (.int .i64 ((Nat.log2 n : Nat) : Int)) ∧ w' = w := by
  have C := hid (len40 n w h h2)
  have hw : IntKind.u64.wrap (n : Int) = n := by rw [IntKind.wrap_u64]; omega
  have hb := log_bd h h2
  generalize Nat.log2 n = k at *
  obtain ⟨z, hz⟩ : ∃ z : Int, z = ((k + 1 : Nat) : Int) := ⟨_, rfl⟩
  rw [← hz] at C
  have e1 : z - 1 = (k : Int) := by omega
  have wk : wrap64 (k : Int) = k := by unfold wrap64; omega
  have HZ := hid hz
  clear hz h h2 hb
  go_enter Try.func20, Try.ntmps20
  go_wp2_with (go_at_call 23; refine C.out.mono ?_; rintro e w4 ⟨rfl, hw4⟩; rw [hw4]; clear hw4)
  go_ret
  exact ⟨by rw [wk]; rfl, rfl⟩
theorem meas {q m : Nat} (h : q < m) : (intOf (.int .i64 (q : Int))).toNat < (intOf (.int .i64 (m : Int))).toNat := by simpa [intOf] using h
theorem shl1 {k : Nat} (h : k ≤ 62) : wrap64 (2 ^ k) = ((2 ^ k : Nat) : Int) := by
  have h2 : (2 : Nat) ^ k ≤ 2 ^ 62 := Nat.pow_le_pow_right (by omega) h
  have h3 : (2 : Int) ^ k = ((2 ^ k : Nat) : Int) := by simp
  rw [h3]
  generalize 2 ^ k = z at *
  unfold wrap64
  omega
theorem power38 (n : Nat) (w : World) (h : 1 ≤ n) (h2 : n < 9223372036854775808) :
    Calls Try.prog 21 #[.int .i64 (n : Int)] w fun e w' => e = .returned (.int .i64 ((2 ^ Nat.log2 n : Nat) : Int)) ∧ w' = w := by
  have C := hid (log36 n w h h2)
  have hb := log_bd h h2
  have hs := shl1 hb
  generalize Nat.log2 n = k at *
  clear h h2
  go_enter Try.func21, Try.ntmps21
  go_wp2_with (go_at_call 20; refine C.out.mono ?_; rintro e w4 ⟨rfl, hw4⟩; rw [hw4]; clear hw4)
  go_ret
  exact ⟨by rw [hs]; rfl, rfl⟩
end Go.Proofs.Ytcoajalgodlphab
