/- Does the sum come to what the document says? -/
import Derived.Test.YtcoajalgodlphaaNum
import Derived.Laws.Bits64b
namespace Go.Proofs.Ytcoajalgodlphaa
open Go.RowKit Go.Maps Av
set_option linter.unusedVariables false
set_option linter.unusedSimpArgs false
set_option maxRecDepth 100000

theorem row33 (w : World) : Calls Try.prog 33 #[] w fun e w' => e = .returned (.func (.func 39) #[] #[]) ∧ w' = w := by
  go_enter Try.func33, Try.ntmps33
  go_wp2
  go_ret
  exact ⟨rfl, rfl⟩
theorem shl1m {k : Nat} (h : k ≤ 62) : wrap64 (2 ^ min k 64) = ((2 ^ k : Nat) : Int) := by rw [show min k 64 = k by omega]; exact shl1 h
theorem pow_le_log {j k : Nat} (h : 1 ≤ k) : 2 ^ j ≤ k ↔ j ≤ Nat.log2 k := (Nat.le_log2 (by omega)).symm
set_option maxHeartbeats 4000000 in
theorem comes34 (k : Nat) (w : World) (h1 : 1 ≤ k) (h2 : k < 1002) (h : k &&& (k + 1) = 0) :
    Calls Try.prog 34 #[.int .i64 (k : Int), .int .i64 ((sm k : Nat) : Int)] w fun e w' => e = .returned (.bool true) ∧ w' = w := by
  rw [sm_ones k h1 h2 h]
  have HK := hid (fun (j : Nat) => pow_le_log (j := j) h1)
  have hL : Nat.log2 k < 10 := log_lt h1 (by omega)
  obtain ⟨L, hLL⟩ : ∃ L, Nat.log2 k = L := ⟨_, rfl⟩
  rw [hLL] at HK hL ⊢
  have HL := hid hL
  clear h h1 h2 hLL hL
  go_enter Try.func34, Try.ntmps34
  go_wp2
  go_loop [5] (fun jv => ∃ j : Nat, Hid (j ≤ L + 1) ∧ jv = .int .i64 (j : Int)) (fun jv => L + 1 - (intOf jv).toNat)
  case atStart => exact ⟨0, hid (Nat.zero_le _), rfl⟩
  case round =>
    obtain ⟨j, HJ, rfl⟩ := hrel
    have hjb : j ≤ 62 := by have := HJ.out; have := HL.out; omega
    have hs := shl1 hjb
    have hn0 : ¬ (j : Int) < 0 := by omega
    by_cases hc : 2 ^ j ≤ k
    · have hjL := (HK.out j).1 hc
      have HJ2 := hid hjL
      have hle : ((2 ^ j : Nat) : Int) ≤ (k : Int) := by omega
      have hwj : wrap64 ((j : Int) + 1) = (j : Int) + 1 := by unfold wrap64; omega
      obtain ⟨z, hz⟩ : ∃ z : Int, ((2 ^ j : Nat) : Int) = z := ⟨_, rfl⟩
      rw [hz] at hs hle
      clear hc hjL hz
      go_wp2
      go_round
      case rel => exact ⟨j + 1, hid (Nat.succ_le_succ HJ2.out), by go_num⟩
      case measure => have := HJ2.out; simp [intOf]; omega
    · have hjL : ¬ j ≤ L := fun hh => hc ((HK.out j).2 hh)
      have hj1 : j = L + 1 := by have := HJ.out; omega
      have hle : ¬ ((2 ^ j : Nat) : Int) ≤ (k : Int) := by omega
      have hs2 := shl1m (k := L) (by have := HL.out; omega)
      have hs3 := shl1m hjb
      obtain ⟨z, hz⟩ : ∃ z : Int, ((2 ^ j : Nat) : Int) = z := ⟨_, rfl⟩
      rw [hz] at hs hle hs3
      have hjm : (j : Int) - 1 = (L : Int) := by omega
      have hwL : wrap64 (L : Int) = (L : Int) := by unfold wrap64; omega
      have hL0 : ¬ (L : Int) < 0 := by omega
      have hm : (j : Int) * ((2 ^ L : Nat) : Int) = (((L + 1) * 2 ^ L : Nat) : Int) := by rw [hj1, Int.natCast_mul]
      have hb : (L + 1) * 2 ^ L ≤ 10 * 2 ^ 9 := Nat.mul_le_mul (by have := HL.out; omega) (Nat.pow_le_pow_right (by omega) (by have := HL.out; omega))
      have hwm : wrap64 (((L + 1) * 2 ^ L : Nat) : Int) = (((L + 1) * 2 ^ L : Nat) : Int) := by
        generalize (L + 1) * 2 ^ L = q at hb
        unfold wrap64
        omega
      generalize (L + 1) * 2 ^ L = q at *
      generalize ((2 ^ L : Nat) : Int) = p at *
      obtain ⟨qI, hq⟩ : ∃ qI : Int, (q : Int) = qI := ⟨_, rfl⟩
      rw [hq] at hm hwm ⊢
      clear hc hjL hj1 hz hb hjb hq
      go_wp2
      go_ret
      exact ⟨by simp [hs2, hm, hwm], rfl⟩
end Go.Proofs.Ytcoajalgodlphaa
