/- The document's log and down. -/
import Derived.Test.YtcoajalgodlphaaMem
namespace Go.Proofs.Ytcoajalgodlphaa
open Go.RowKit Go.Maps Av
set_option linter.unusedVariables false
set_option maxRecDepth 100000
set_option linter.unusedSimpArgs false

theorem meas {q m : Nat} (h : q < m) : (intOf (.int .i64 (q : Int))).toNat < (intOf (.int .i64 (m : Int))).toNat := by simpa [intOf] using h
theorem half_facts {m : Nat} (h : 1 < m) (h2 : m < 9223372036854775808) : (m : Int) / 2 = ((m / 2 : Nat) : Int) := by omega
theorem log29 (n : Nat) (w : World) (h : 1 ≤ n) (h2 : n < 9223372036854775808) :
    Calls Try.prog 29 #[.int .i64 (n : Int)] w fun e w' => e = .returned (.int .i64 ((Nat.log2 n : Nat) : Int)) ∧ w' = w := by
  have hb : Nat.log2 n < 63 := log_lt h (by omega)
  have HN := hid (And.intro h h2)
  obtain ⟨L, hL⟩ : ∃ L, Nat.log2 n = L := ⟨_, rfl⟩
  have HB := hid hb
  rw [hL] at HB
  have HL := hid hL
  rw [hL]
  clear h h2 hb hL
  go_enter Try.func29, Try.ntmps29
  go_wp2
  go_loop [0, 3] (fun x k => ∃ (m j : Nat), Hid (1 ≤ m ∧ m < 9223372036854775808 ∧ Nat.log2 m + j = L) ∧ x = .int .i64 (m : Int) ∧ k = .int .i64 (j : Int)) (fun x _ => (intOf x).toNat)
  case atStart => exact ⟨n, 0, hid ⟨HN.out.1, HN.out.2, HL.out⟩, rfl, rfl⟩
  case round =>
    obtain ⟨m, j, HM, rfl, rfl⟩ := hrel
    by_cases hm : 1 < m
    · obtain ⟨q, hq⟩ : ∃ q, m / 2 = q := ⟨_, rfl⟩
      have hlog := log2_two m hm
      rw [hq] at hlog
      have hd : (m : Int) / 2 = (q : Int) := by omega
      have hj : wrap64 ((j : Int) + 1) = (j : Int) + 1 := by
        have := HM.out.2.2; have := HB.out; unfold wrap64; omega
      have ht : (1 : Int) < m := by omega
      have hqw : wrap64 (q : Int) = q := by have := HM.out.2.1; unfold wrap64; omega
      have hge : (0 : Int) ≤ m := by omega
      have HQ := hid (show 1 ≤ q ∧ q < m ∧ Nat.log2 q + (j + 1) = L from ⟨by omega, by omega, by have := HM.out.2.2; omega⟩)
      clear hlog hq hm
      have HQ2 := hid (show q < 9223372036854775808 from Nat.lt_trans HQ.out.2.1 HM.out.2.1)
      go_wp2
      simp only [hqw, hj]
      go_round
      case rel => exact ⟨q, j + 1, hid ⟨HQ.out.1, HQ2.out, HQ.out.2.2⟩, rfl, rfl⟩
      case measure => exact meas HQ.out.2.1
    · have ht : ¬ (1 : Int) < m := by omega
      have HJ : Hid ((j : Int) = (L : Int)) := hid (by have := HM.out.2.2; rw [log2_one m (by omega)] at this; omega)
      go_wp2
      go_ret
      exact ⟨by rw [HJ.out]; rfl, rfl⟩
theorem down28 (a : Int) (p : Nat) (w : World) (hp : 1 ≤ p) (hp2 : p ≤ 4611686018427387904) (ha : -4611686018427387904 ≤ a) (ha2 : a ≤ 4611686018427387904) :
    Calls Try.prog 28 #[.int .i64 a, .int .i64 (p : Int)] w fun e w' => e = .returned (.int .i64 (a / (p : Int))) ∧ w' = w := by
  have E := hid (down_eq a p (by omega))
  have hd := ediv_mid a p (by omega)
  have hq : -4611686018427387904 ≤ a / (p : Int) ∧ a / (p : Int) ≤ 4611686018427387904 := by
    rcases Int.le_total 0 a with h | h
    · have := hd.1 h; omega
    · have := hd.2 h; omega
  have HQ := hid hq
  have hp0 : ((p : Int) == 0) = false := by simp; omega
  have hp1 : ¬ ((p : Int) = 0) := by omega
  have hpp : (0 : Int) < p := by omega
  have hb : -4611686018427387904 ≤ a.tdiv p ∧ a.tdiv p ≤ 4611686018427387904 ∧ (a.tmod p < 0 → -4611686018427387904 ≤ a.tdiv p - 1) := by
    have := E.out
    split at this
    · next hneg =>
      have e : a.tdiv p = a / p + 1 := by omega
      refine ⟨by omega, ?_, fun _ => by omega⟩
      rcases Int.lt_or_le a 0 with h' | h'
      · have := (hd.2 (by omega)).2
        omega
      · have := Int.tmod_nonneg (p : Int) h'
        omega
    · next hneg => exact ⟨by omega, by omega, fun h => absurd h hneg⟩
  obtain ⟨q, hq'⟩ : ∃ q, a.tdiv p = q := ⟨_, rfl⟩
  obtain ⟨r, hr'⟩ : ∃ r, a.tmod p = r := ⟨_, rfl⟩
  rw [hq', hr'] at hb
  have w1 : wrap64 q = q := by unfold wrap64; omega
  rw [hq', hr'] at E
  generalize (p : Int) = pp at *
  generalize a / pp = z at *
  clear hd hq hp hp2
  by_cases hr : r < 0
  · have w2 : wrap64 z = z := by have := HQ.out; unfold wrap64; omega
    have E2 : Hid (q - 1 = z) := hid (by have := E.out; rw [if_pos hr] at this; exact this)
    clear hb E HQ ha ha2
    go_enter Try.func28, Try.ntmps28
    go_wp2
    go_ret
    exact ⟨by simp only [w1, w2, E2.out]; rfl, rfl⟩
  · have E2 : Hid (q = z) := hid (by have := E.out; rw [if_neg hr] at this; exact this)
    clear hb E HQ ha ha2
    go_enter Try.func28, Try.ntmps28
    go_wp2
    go_ret
    exact ⟨by simp only [w1, E2.out]; rfl, rfl⟩
end Go.Proofs.Ytcoajalgodlphaa
