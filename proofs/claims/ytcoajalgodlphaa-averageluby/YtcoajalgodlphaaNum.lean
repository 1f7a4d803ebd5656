/- The row's numbers: the program's and the document's. -/
import Derived.Test.YtcoajalgodlphaaLog
import Derived.Test.YtcoajalgodlphaaRef
namespace Go.Proofs.Ytcoajalgodlphaa
open Go.RowKit Go.Maps Av
set_option linter.unusedVariables false
set_option maxRecDepth 100000
set_option linter.unusedSimpArgs false

theorem number32 (n : Nat) (w : World) (h : 1 ≤ n) (h2 : n < 9223372036854775808) :
    Calls Try.prog 32 #[.int .i64 (n : Int)] w fun e w' => e = .returned (.int .i64 ((lby n : Nat) : Int)) ∧ w' = w := by
  have C := hid (power38 n w h h2)
  have CC := hid (fun (m : Nat) (h : 1 ≤ m ∧ m < 9223372036854775808) => power38 m w h.1 h.2)
  have HN := hid (And.intro h h2)
  obtain ⟨L, hL⟩ : ∃ L, lby n = L := ⟨_, rfl⟩
  have HL := hid hL
  rw [hL]
  clear h h2 hL
  go_enter Try.func32, Try.ntmps32
  go_wp2_with (go_at_call 38; refine C.out.mono ?_; rintro e w4 ⟨rfl, hw4⟩; rw [hw4]; clear hw4)
  clear C
  go_loop [0, 3] (fun x k => ∃ (m : Nat), Hid ((1 ≤ m ∧ m < 9223372036854775808) ∧ lby m = L) ∧ x = .int .i64 (m : Int) ∧ k = .int .i64 ((2 ^ Nat.log2 m : Nat) : Int)) (fun x _ => (intOf x).toNat)
  case atStart => exact ⟨n, hid ⟨HN.out, HL.out⟩, rfl, rfl⟩
  case round =>
    obtain ⟨m, HM, rfl, rfl⟩ := hrel
    have hp1 := pw_le HM.out.1.1
    have hp2 := pw_lt m
    rw [Nat.pow_succ] at hp2
    have hp3 := pw_pos (Nat.log2 m)
    by_cases hm : m + 1 = 2 ^ (Nat.log2 m + 1)
    · have HT := hid (lby_top HM.out.1.1 hm)
      rw [Nat.pow_succ] at hm
      generalize 2 ^ Nat.log2 m = P at hp1 hp2 hp3 hm HT ⊢
      obtain ⟨t, ht⟩ : ∃ t : Int, (P : Int) - 1 = t := ⟨_, rfl⟩
      have ht2 : (m : Int) - P = t := by omega
      have hm63 := HM.out.1.2
      have wt : wrap64 t = t := by unfold wrap64; omega
      have HE := hid (show P = L from by rw [← HT.out]; exact HM.out.2)
      clear hm hp1 hp2 hp3 HT hm63
      go_wp2
      go_ret
      exact ⟨by rw [HE.out]; rfl, rfl⟩
    · have HT := hid (lby_less HM.out.1.1 hm)
      obtain ⟨a1, a2, _⟩ := less HM.out.1.1 hm
      rw [Nat.pow_succ] at hm
      generalize 2 ^ Nat.log2 m = P at hp1 hp2 hp3 hm HT a1 a2 ⊢
      obtain ⟨q, hq⟩ : ∃ q, m - P + 1 = q := ⟨_, rfl⟩
      rw [hq] at a1 a2 HT
      obtain ⟨t, ht⟩ : ∃ t : Int, (P : Int) - 1 = t := ⟨_, rfl⟩
      obtain ⟨d, hd⟩ : ∃ d : Int, (m : Int) - P = d := ⟨_, rfl⟩
      have hm63 := HM.out.1.2
      have wt : wrap64 t = t := by unfold wrap64; omega
      have wd : wrap64 d = d := by unfold wrap64; omega
      have hne : (d != t) = true := by simp; omega
      have hqe : (m : Int) - t = (q : Int) := by omega
      have wq : wrap64 (q : Int) = q := by unfold wrap64; omega
      have HQ := hid (show (1 ≤ q ∧ q < 9223372036854775808) ∧ lby q = L from ⟨⟨a1, Nat.lt_trans a2 hm63⟩, by rw [← HT.out]; exact HM.out.2⟩)
      have HQ2 := hid a2
      have C := hid (CC.out q HQ.out.1)
      clear hm hp1 hp2 hp3 hm63 hq a1 a2
      go_wp2_with (go_at_call 38; refine C.out.mono ?_; rintro e w4 ⟨rfl, hw4⟩; rw [hw4]; clear hw4)
      go_round
      case rel => exact ⟨q, HQ, rfl, rfl⟩
      case measure => exact meas HQ2.out
def lubyV (i : Int) : Int := if i < 1 then 0 else ((lby i.toNat : Nat) : Int)
def lubyE (i : Int) : Int := if i < 1 then 2 else 0
theorem luby19 (i : Int) (w : World) (h2 : i ≤ 9223372036854775807) :
    Calls Try.prog 19 #[.int .i64 i] w fun e w' => e = .returned (.tuple #[.int .i64 (lubyV i), .int .i64 (lubyE i)]) ∧ w' = w := by
  unfold lubyV lubyE
  by_cases h : i < 1
  · rw [if_pos h, if_pos h]
    clear h2
    go_enter Try.func19, Try.ntmps19
    go_wp2
    go_ret2
    exact ⟨rfl, rfl⟩
  · rw [if_neg h, if_neg h]
    obtain ⟨n, rfl⟩ : ∃ n : Nat, i = n := ⟨i.toNat, by omega⟩
    rw [Int.toNat_natCast]
    have C := hid (number32 n w (by omega) (by omega))
    generalize lby n = L at *
    generalize (n : Int) = z at *
    clear h2
    go_enter Try.func19, Try.ntmps19
    go_wp2_with (go_at_call 32; refine C.out.mono ?_; rintro e w4 ⟨rfl, hw4⟩; rw [hw4]; clear hw4)
    go_ret2
    exact ⟨rfl, rfl⟩
theorem ne_top {m P : Nat} {pI t s : Int} (hm : ¬ m + 1 = P * 2) (h1 : (P : Int) = pI) (h2 : pI - 1 = t) (h3 : t + pI = s) : ((m : Int) == s) = false := by
  have : (m : Int) ≠ s := by omega
  simpa using this
theorem pw62 {m : Nat} (h : 1 ≤ m) (h2 : m < 9223372036854775808) : 2 ^ Nat.log2 m ≤ 4611686018427387904 := by
  have := log_bd h h2
  exact Nat.pow_le_pow_right (n := 2) (by omega) this
set_option maxHeartbeats 4000000 in
theorem luby20_ok (n : Nat) (w : World) (h : 1 ≤ n) (h2 : n < 9223372036854775808) :
    Calls Try.prog 20 #[.int .i64 (n : Int)] w fun e w' => e = .returned (.tuple #[.int .i64 ((lby n : Nat) : Int), .int .i64 0]) ∧ Drawn w w' := by
  have CC := hid (fun (m : Nat) (W : World) (h : 1 ≤ m ∧ m < 9223372036854775808) => log29 m W h.1 h.2)
  have HN := hid (And.intro h h2)
  obtain ⟨L, hL⟩ : ∃ L, lby n = L := ⟨_, rfl⟩
  have HL := hid hL
  have hn1 : ¬ (n : Int) < 1 := by omega
  have hn2 : ¬ n < 1 := by omega
  rw [hL]
  clear h h2 hL
  go_enter Try.func20, Try.ntmps20
  go_wp2
  clear hn1 hn2
  go_loopw [0] (fun x wr => ∃ (m : Nat), Hid ((1 ≤ m ∧ m < 9223372036854775808) ∧ lby m = L) ∧ x = .int .i64 (m : Int) ∧ Hid (Drawn w wr)) (fun x _ => (intOf x).toNat)
  case atStart => exact ⟨n, hid ⟨HN.out, HL.out⟩, rfl, hid (Drawn.refl w)⟩
  case round =>
    obtain ⟨m, HM, rfl, HW⟩ := hrel
    have C := hid (CC.out m wr HM.out.1)
    have hp1 := pw_le HM.out.1.1
    have hp2 := pw_lt m
    have hp62 := pw62 HM.out.1.1 HM.out.1.2
    rw [Nat.pow_succ] at hp2
    have hp3 := pw_pos (Nat.log2 m)
    have hs := shl1 (log_bd HM.out.1.1 HM.out.1.2)
    by_cases hm : m + 1 = 2 ^ (Nat.log2 m + 1)
    · have HT := hid (lby_top HM.out.1.1 hm)
      rw [Nat.pow_succ] at hm
      have hlb := log_bd HM.out.1.1 HM.out.1.2
      generalize Nat.log2 m = k at *
      generalize 2 ^ k = P at hp1 hp2 hp3 hm HT hp62 hs
      obtain ⟨pI, hpI⟩ : ∃ pI : Int, (P : Int) = pI := ⟨_, rfl⟩
      rw [hpI] at hs
      obtain ⟨t, ht⟩ : ∃ t : Int, pI - 1 = t := ⟨_, rfl⟩
      have ht2 : t + pI = (m : Int) := by omega
      have hm63 := HM.out.1.2
      have wt : wrap64 t = t := by unfold wrap64; omega
      have wm : wrap64 (m : Int) = m := by unfold wrap64; omega
      have HE := hid (show pI = (L : Int) from by rw [← hpI, ← HT.out, HM.out.2])
      have hk0 : ¬ (k : Int) < 0 := by omega
      clear hm hp1 hp2 hp3 HT hm63 hp62 CC hpI
      go_wp2_with (go_at_call 29; refine C.out.mono ?_; rintro e w4 ⟨rfl, hw4⟩; rw [hw4]; clear hw4)
      clear C
      go_quiet (fail)
      go_wp2
      go_ret2
      exact ⟨by rw [hs, HE.out]; rfl, HW.out.drewN _⟩
    · have HT := hid (lby_less HM.out.1.1 hm)
      obtain ⟨a1, a2, a3⟩ := less HM.out.1.1 hm
      clear a3
      rw [Nat.pow_succ] at hm
      have hlb := log_bd HM.out.1.1 HM.out.1.2
      generalize Nat.log2 m = k at *
      generalize 2 ^ k = P at hp1 hp2 hp3 hm HT hp62 hs a1 a2
      obtain ⟨pI, hpI⟩ : ∃ pI : Int, (P : Int) = pI := ⟨_, rfl⟩
      rw [hpI] at hs
      have HS := hid hs
      clear hs
      obtain ⟨q, hq⟩ : ∃ q, m - P + 1 = q := ⟨_, rfl⟩
      rw [hq] at a1 a2 HT
      obtain ⟨t, ht⟩ : ∃ t : Int, pI - 1 = t := ⟨_, rfl⟩
      obtain ⟨s, hs2⟩ : ∃ s : Int, t + pI = s := ⟨_, rfl⟩
      obtain ⟨d, hd⟩ : ∃ d : Int, (m : Int) - pI = d := ⟨_, rfl⟩
      have hd2 : d + 1 = (q : Int) := by omega
      have hm63 := HM.out.1.2
      have wt : wrap64 t = t := by unfold wrap64; omega
      have wd : wrap64 d = d := by unfold wrap64; omega
      have ws : wrap64 s = s := by unfold wrap64; omega
      have wq : wrap64 (q : Int) = q := by unfold wrap64; omega
      have hne : ((m : Int) == s) = false := ne_top hm hpI ht hs2
      have hk0 : ¬ (k : Int) < 0 := by omega
      have HQ := hid (show (1 ≤ q ∧ q < 9223372036854775808) ∧ lby q = L from ⟨⟨a1, Nat.lt_trans a2 hm63⟩, by rw [← HT.out]; exact HM.out.2⟩)
      have HQ2 := hid a2
      clear hm hp1 hp2 hp3 HT hm63 hp62 CC hpI hq a1 a2
      have hs := HS.out
      go_wp2_with (go_at_call 29; refine C.out.mono ?_; rintro e w4 ⟨rfl, hw4⟩; rw [hw4]; clear hw4)
      clear C
      go_quiet (fail)
      go_wp2
      simp only [wq]
      go_roundw
      case rel => exact ⟨q, HQ, rfl, hid (HW.out.drewN _)⟩
      case measure => exact meas HQ2.out
theorem luby20_no (i : Int) (w : World) (h : i < 1) :
    Calls Try.prog 20 #[.int .i64 i] w fun e w' => e = .returned (.tuple #[.int .i64 0, .int .i64 2]) ∧ Drawn w w' := by
  go_enter Try.func20, Try.ntmps20
  go_wp2
  go_ret2
  exact ⟨rfl, Drawn.refl w⟩
theorem luby20 (i : Int) (w : World) (h2 : i ≤ 9223372036854775807) :
    Calls Try.prog 20 #[.int .i64 i] w fun e w' => e = .returned (.tuple #[.int .i64 (lubyV i), .int .i64 (lubyE i)]) ∧ Drawn w w' := by
  unfold lubyV lubyE
  by_cases h : i < 1
  · rw [if_pos h, if_pos h]
    exact luby20_no i w h
  · rw [if_neg h, if_neg h]
    obtain ⟨n, rfl⟩ : ∃ n : Nat, i = n := ⟨i.toNat, by omega⟩
    rw [Int.toNat_natCast]
    exact luby20_ok n w (by omega) (by omega)
end Go.Proofs.Ytcoajalgodlphaa
