/- The row's numbers: the program's and the document's. -/
import Derived.Test.YtcoajalgodlphabLog
namespace Go.Proofs.Ytcoajalgodlphab
open Go.RowKit Go.Maps Av
set_option linter.unusedVariables false
set_option maxRecDepth 100000
set_option linter.unusedSimpArgs false

theorem number32 (n : Nat) (w : World) (h : 1 ≤ n) (h2 : n < 9223372036854775808) :
    Calls Try.prog 16 #[.int .i64 (n : Int)] w fun e w' => e = .returned (.int .i64 ((lby n : Nat) : Int)) ∧ w' = w := by
  have C := hid (power38 n w h h2)
  have CC := hid (fun (m : Nat) (h : 1 ≤ m ∧ m < 9223372036854775808) => power38 m w h.1 h.2)
  have HN := hid (And.intro h h2)
  obtain ⟨L, hL⟩ : ∃ L, lby n = L := ⟨_, rfl⟩
  have HL := hid hL
  rw [hL]
  clear h h2 hL
  go_enter Try.func16, Try.ntmps16
  go_wp2_with (go_at_call 21; refine C.out.mono ?_; rintro e w4 ⟨rfl, hw4⟩; rw [hw4]; clear hw4)
  clear C
  go_loop [0, 3] (fun x k => ∃ (m : Nat), Hid ((1 ≤ m ∧ m < 9223372036854775808) ∧ lby m = L) ∧ x = .int .i64 (m : Int) ∧ k = .int .i64 ((2 ^ Nat.log2 m : Nat) : Int)) (fun x _ => (intOf x).toNat)
  case atStart => exact ⟨n, hid ⟨HN.out, HL.out⟩, rfl, rfl⟩
  case round =>
    obtain ⟨m, HM, rfl, rfl⟩ := hrel
    have hp1 := pw_le HM.out.1.1
    have hp2 := pw_lt m
    rw [Nat.pow_succ] at hp2
    have hp3 := pw_pos (Nat.log2 m)
    by_cases hm : m + 1 = 2 ^ (Nat.log2 m + 1)
    · have HT := hid (lby_top HM.out.1.1 hm)
      rw [Nat.pow_succ] at hm
      generalize 2 ^ Nat.log2 m = P at hp1 hp2 hp3 hm HT ⊢
      obtain ⟨t, ht⟩ : ∃ t : Int, (P : Int) - 1 = t := ⟨_, rfl⟩
      have ht2 : (m : Int) - P = t := by omega
      have hm63 := HM.out.1.2
      have wt : wrap64 t = t := by unfold wrap64; omega
      have HE := hid (show P = L from by rw [← HT.out]; exact HM.out.2)
      clear hm hp1 hp2 hp3 HT hm63
      go_wp2
      go_ret
      exact ⟨by rw [HE.out]; rfl, rfl⟩
    · have HT := hid (lby_less HM.out.1.1 hm)
      obtain ⟨a1, a2, _⟩ := less HM.out.1.1 hm
      rw [Nat.pow_succ] at hm
      generalize 2 ^ Nat.log2 m = P at hp1 hp2 hp3 hm HT a1 a2 ⊢
      obtain ⟨q, hq⟩ : ∃ q, m - P + 1 = q := ⟨_, rfl⟩
      rw [hq] at a1 a2 HT
      obtain ⟨t, ht⟩ : ∃ t : Int, (P : Int) - 1 = t := ⟨_, rfl⟩
      obtain ⟨d, hd⟩ : ∃ d : Int, (m : Int) - P = d := ⟨_, rfl⟩
      have hm63 := HM.out.1.2
      have wt : wrap64 t = t := by unfold wrap64; omega
      have wd : wrap64 d = d := by unfold wrap64; omega
      have hne : (d != t) = true := by simp; omega
      have hqe : (m : Int) - t = (q : Int) := by omega
      have wq : wrap64 (q : Int) = q := by unfold wrap64; omega
      have HQ := hid (show (1 ≤ q ∧ q < 9223372036854775808) ∧ lby q = L from ⟨⟨a1, Nat.lt_trans a2 hm63⟩, by rw [← HT.out]; exact HM.out.2⟩)
      have HQ2 := hid a2
      have C := hid (CC.out q HQ.out.1)
      clear hm hp1 hp2 hp3 hm63 hq a1 a2
      go_wp2_with (go_at_call 21; refine C.out.mono ?_; rintro e w4 ⟨rfl, hw4⟩; rw [hw4]; clear hw4)
      go_round
      case rel => exact ⟨q, HQ, rfl, rfl⟩
      case measure => exact meas HQ2.out
def lubyV (i : Int) : Int := if i < 1 then 0 else ((lby i.toNat : Nat) : Int)
def lubyE (i : Int) : Int := if i < 1 then 2 else 0
theorem luby19 (i : Int) (w : World) (h2 : i ≤ 9223372036854775807) :
    Calls Try.prog 8 #[.int .i64 i] w fun e w' => e = .returned (.tuple #[.int .i64 (lubyV i), .int .i64 (lubyE i)]) ∧ w' = w := by
  unfold lubyV lubyE
  by_cases h : i < 1
  · rw [if_pos h, if_pos h]
    clear h2
    go_enter Try.func8, Try.ntmps8
    go_wp2
    go_ret2
    exact ⟨rfl, rfl⟩
  · rw [if_neg h, if_neg h]
    obtain ⟨n, rfl⟩ : ∃ n : Nat, i = n := ⟨i.toNat, by omega⟩
    rw [Int.toNat_natCast]
    have C := hid (number32 n w (by omega) (by omega))
    generalize lby n = L at *
    generalize (n : Int) = z at *
    clear h2
    go_enter Try.func8, Try.ntmps8
    go_wp2_with (go_at_call 16; refine C.out.mono ?_; rintro e w4 ⟨rfl, hw4⟩; rw [hw4]; clear hw4)
    go_ret2
    exact ⟨rfl, rfl⟩
end Go.Proofs.Ytcoajalgodlphab
