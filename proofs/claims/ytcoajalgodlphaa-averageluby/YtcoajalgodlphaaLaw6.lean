/- The law of the row. -/
import Derived.Test.YtcoajalgodlphaaRws
import Derived.Test.YtcoajalgodlphaaLaw8
namespace Go.Proofs.Ytcoajalgodlphaa
open Go.RowKit Go.Maps Av
set_option linter.unusedVariables false
set_option linter.unusedSimpArgs false
set_option maxRecDepth 100000

theorem rem1000 {t : Int} (h0 : 0 ≤ t) : ∃ N : Nat, N < 1000 ∧ t % 1000 = (N : Int) ∧ t.tmod 1000 = (N : Int) ∧ IntKind.i64.wrap (N : Int) = (N : Int) := by
  refine ⟨(t % 1000).toNat, by omega, by omega, ?_, ?_⟩
  · rw [Int.tmod_eq_emod_of_nonneg h0]; omega
  · rw [IntKind.wrap_i64]; omega
/-- What is asked of a number of the row. -/
theorem pow_facts {i : Int} (h1 : 1 ≤ i) (h2 : i ≤ 9223372036854775807) : 1 ≤ lubyV i ∧ wrap64 (lubyV i - 1) = lubyV i - 1 ∧ bits .and .i64 (lubyV i) (lubyV i - 1) = 0 := by
  unfold lubyV
  rw [if_neg (by omega)]
  obtain ⟨k, hk, hle⟩ := lby_pow i.toNat (by omega)
  have hp := pw_pos k
  rw [hk]
  have e : ((2 ^ k : Nat) : Int) - 1 = ((2 ^ k - 1 : Nat) : Int) := by omega
  refine ⟨by omega, by unfold wrap64; omega, ?_⟩
  rw [e, and_i64_nat (2 ^ k) (2 ^ k - 1) (by omega) (by omega), Nat.and_two_pow_sub_one_eq_mod, Nat.mod_self]
  rfl
set_option maxHeartbeats 4000000 in
theorem law6 {i t : Int} {W : World} (ht : 0 ≤ t ∧ t ≤ 65535) (hi : i ≤ 9223372036854775807) :
    Calls Try.prog 6 #[.int .i64 i, .int .u16 t] W fun e w' => e = .returned (.bool true) ∧ Below W.heap.size W w' := by
  have C19 := hid (luby19 i W hi)
  have C20 := hid (luby20 i W hi)
  obtain ⟨N, n1, n2, n3, n4⟩ := rem1000 ht.1
  have C21 := hid (fun (w : World) => rows21 N w n1)
  have C9 := hid (fun (w : World) => works9 w)
  have hq : (1 ≤ i ∧ lubyE i = 0 ∧ 1 ≤ lubyV i ∧ wrap64 (lubyV i - 1) = lubyV i - 1 ∧ bits .and .i64 (lubyV i) (lubyV i - 1) = 0) ∨ (lubyE i = 2) := by
    by_cases h : i < 1
    · right; unfold lubyE; rw [if_pos h]
    · left
      have := pow_facts (i := i) (by omega) hi
      exact ⟨by omega, by unfold lubyE; rw [if_neg h], this⟩
  generalize lubyV i = V at *
  obtain ⟨E, hE⟩ : ∃ E, lubyE i = E := ⟨_, rfl⟩
  rw [hE] at C19 C20 hq
  clear hE ht hi n1
  rcases hq with ⟨_, rfl, q1, q2, q3⟩ | rfl
  · have q1' : ¬ V < 1 := by omega
    obtain ⟨U, hU⟩ : ∃ U, V - 1 = U := ⟨_, rfl⟩
    rw [hU] at q2 q3
    clear q1
    go_enter Try.func6, Try.ntmps6
    go_wp2_with (first
      | (go_at_call 19; refine C19.out.mono ?_; rintro e w1 ⟨rfl, hw1⟩; rw [hw1]; clear hw1)
      | (go_at_call 20; refine C20.out.mono ?_; rintro e w2 ⟨rfl, d2⟩; have HB2 := hid d2.below; clear d2))
    go_at_call 21
    refine (C21.out _).mono ?_
    rintro e w3 ⟨rfl, b3⟩
    have HB3 := hid (HB2.out.trans (b3.mono HB2.out.size))
    clear b3
    go_wp2_with (fail)
    go_at_call 21
    refine (C21.out _).mono ?_
    rintro e w4 ⟨rfl, b4⟩
    have HB4 := hid (HB3.out.trans (b4.mono HB3.out.size))
    clear b4
    go_wp2_with (go_at_call 9; refine (C9.out _).mono ?_; rintro e w5 ⟨rfl, b5⟩)
    go_ret
    exact ⟨rfl, HB4.out.trans (b5.mono HB4.out.size)⟩
  · go_enter Try.func6, Try.ntmps6
    go_wp2_with (first
      | (go_at_call 19; refine C19.out.mono ?_; rintro e w1 ⟨rfl, hw1⟩; rw [hw1]; clear hw1)
      | (go_at_call 20; refine C20.out.mono ?_; rintro e w2 ⟨rfl, d2⟩; have HB2 := hid d2.below; clear d2))
    go_at_call 21
    refine (C21.out _).mono ?_
    rintro e w3 ⟨rfl, b3⟩
    have HB3 := hid (HB2.out.trans (b3.mono HB2.out.size))
    clear b3
    go_wp2_with (fail)
    go_at_call 21
    refine (C21.out _).mono ?_
    rintro e w4 ⟨rfl, b4⟩
    have HB4 := hid (HB3.out.trans (b4.mono HB3.out.size))
    clear b4
    go_wp2_with (go_at_call 9; refine (C9.out _).mono ?_; rintro e w5 ⟨rfl, b5⟩)
    go_ret
    exact ⟨rfl, HB4.out.trans (b5.mono HB4.out.size)⟩
end Go.Proofs.Ytcoajalgodlphaa
