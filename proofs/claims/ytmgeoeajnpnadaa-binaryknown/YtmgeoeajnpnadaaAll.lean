/- May a step be: the program's own functions. -/
import Derived.Test.YtmgeoeajnpnadaaBase
namespace Go.Proofs.Ytmgeoeajnpnadaa
open Go.RowKit
set_option linter.unusedVariables false

set_option maxRecDepth 100000 in
set_option maxHeartbeats 4000000 in
theorem all31_32 (a : Option Addr) (n c : Nat) (xs : List Int) (w : World) (hn : xs.length = n) (hb : n ≤ 35184372088832) (hx : Hnts w a xs) :
    Calls Try.prog 31 #[.slice a n c, .func (.func 32) #[] #[]] w fun e w' => e = .returned (.bool (xs.all Lra.hint)) ∧ w' = w := by
  have HX := hid hx
  have HN := hid hn
  obtain ⟨r, hr⟩ : ∃ r, xs.all Lra.hint = r := ⟨_, rfl⟩
  have HR := hid hr
  rw [hr]
  have hsh := hx.shape
  rw [hn] at hsh
  clear hx hn hr
  rcases hsh with h0 | ⟨b, off, rfl⟩
  · subst h0
    have HF := hid (show r = true by rw [← HR.out, List.eq_nil_of_length_eq_zero HN.out]; rfl)
    go_enter Try.func31, Try.ntmps31
    go_wp2
    go_loop [9] (fun i => i = .int .i64 0) (fun _ => 0)
    case atStart => rfl
    case round =>
      subst hrel
      go_wp2
      go_ret
      exact ⟨by rw [HF.out]; rfl, rfl⟩
  go_enter Try.func31, Try.ntmps31
  go_wp2
  go_loop [9] (fun i => ∃ k : Nat, i = .int .i64 k ∧ k ≤ n ∧ Hid ((xs.take k).all Lra.hint = true)) (fun i => n - (intOf i).toNat)
  case atStart => exact ⟨0, rfl, by omega, hid (by simp)⟩
  case round =>
    obtain ⟨k, rfl, hk, HI⟩ := hrel
    by_cases hlt : k < n
    · have hlt' : (k : Int) < n := by omega
      obtain ⟨b', off', e, _, hc, h1, h2⟩ := HX.out.at (j := k) (by rw [HN.out]; exact hlt)
      cases e
      have HT := hid (fun h => Lra.all_take Lra.hint xs k (by rw [HN.out]; exact hlt) HI.out h)
      have HZ := hid (fun h => Lra.all_false Lra.hint xs k (by rw [HN.out]; exact hlt) h)
      generalize xs.getD k 0 = x at hc h1 h2 HT HZ
      have C := hid (hint32 x w)
      cases hp : Lra.hint x
      · have HRF := hid (show r = false by rw [← HR.out]; exact HZ.out hp)
        rw [hp] at C
        clear HT HZ hp
        go_wp2_with (go_at_call 32; refine C.out.mono ?_; clear C; rintro e W ⟨rfl, rfl⟩)
        go_ret
        exact ⟨by rw [HRF.out]; rfl, rfl⟩
      · have HK := hid (HT.out hp)
        rw [hp] at C
        clear HT HZ hp
        go_wp2_with (go_at_call 32; refine C.out.mono ?_; clear C; rintro e W ⟨rfl, rfl⟩)
        go_round
        case rel => exact ⟨k + 1, by go_num, by omega, HK⟩
        case measure => simp [intOf]; omega
    · have hlt' : ¬ (k : Int) < n := by omega
      have HRF := hid (show r = true by
        rw [← HR.out]
        have := HI.out
        rwa [List.take_of_length_le (by rw [HN.out]; omega)] at this)
      go_wp2
      go_ret
      exact ⟨by rw [HRF.out]; rfl, rfl⟩
set_option maxRecDepth 100000 in
set_option maxHeartbeats 4000000 in
theorem all31_28 (a : Option Addr) (n c : Nat) (xs : List Int) (w : World) (hn : xs.length = n) (hb : n ≤ 35184372088832) (hx : Hnts w a xs) :
    Calls Try.prog 31 #[.slice a n c, .func (.func 28) #[] #[]] w fun e w' => e = .returned (.bool (xs.all Lra.added)) ∧ w' = w := by
  have HX := hid hx
  have HN := hid hn
  obtain ⟨r, hr⟩ : ∃ r, xs.all Lra.added = r := ⟨_, rfl⟩
  have HR := hid hr
  rw [hr]
  have hsh := hx.shape
  rw [hn] at hsh
  clear hx hn hr
  rcases hsh with h0 | ⟨b, off, rfl⟩
  · subst h0
    have HF := hid (show r = true by rw [← HR.out, List.eq_nil_of_length_eq_zero HN.out]; rfl)
    go_enter Try.func31, Try.ntmps31
    go_wp2
    go_loop [9] (fun i => i = .int .i64 0) (fun _ => 0)
    case atStart => rfl
    case round =>
      subst hrel
      go_wp2
      go_ret
      exact ⟨by rw [HF.out]; rfl, rfl⟩
  go_enter Try.func31, Try.ntmps31
  go_wp2
  go_loop [9] (fun i => ∃ k : Nat, i = .int .i64 k ∧ k ≤ n ∧ Hid ((xs.take k).all Lra.added = true)) (fun i => n - (intOf i).toNat)
  case atStart => exact ⟨0, rfl, by omega, hid (by simp)⟩
  case round =>
    obtain ⟨k, rfl, hk, HI⟩ := hrel
    by_cases hlt : k < n
    · have hlt' : (k : Int) < n := by omega
      obtain ⟨b', off', e, _, hc, h1, h2⟩ := HX.out.at (j := k) (by rw [HN.out]; exact hlt)
      cases e
      have HT := hid (fun h => Lra.all_take Lra.added xs k (by rw [HN.out]; exact hlt) HI.out h)
      have HZ := hid (fun h => Lra.all_false Lra.added xs k (by rw [HN.out]; exact hlt) h)
      generalize xs.getD k 0 = x at hc h1 h2 HT HZ
      have C := hid (added28 x w)
      cases hp : Lra.added x
      · have HRF := hid (show r = false by rw [← HR.out]; exact HZ.out hp)
        rw [hp] at C
        clear HT HZ hp
        go_wp2_with (go_at_call 28; refine C.out.mono ?_; clear C; rintro e W ⟨rfl, rfl⟩)
        go_ret
        exact ⟨by rw [HRF.out]; rfl, rfl⟩
      · have HK := hid (HT.out hp)
        rw [hp] at C
        clear HT HZ hp
        go_wp2_with (go_at_call 28; refine C.out.mono ?_; clear C; rintro e W ⟨rfl, rfl⟩)
        go_round
        case rel => exact ⟨k + 1, by go_num, by omega, HK⟩
        case measure => simp [intOf]; omega
    · have hlt' : ¬ (k : Int) < n := by omega
      have HRF := hid (show r = true by
        rw [← HR.out]
        have := HI.out
        rwa [List.take_of_length_le (by rw [HN.out]; omega)] at this)
      go_wp2
      go_ret
      exact ⟨by rw [HRF.out]; rfl, rfl⟩
set_option maxRecDepth 100000 in
set_option maxHeartbeats 4000000 in
theorem all29_30 (a : Option Addr) (n c : Nat) (xs : List Int) (w : World) (hn : xs.length = n) (hb : n ≤ 35184372088832) (hx : Lits w a xs) :
    Calls Try.prog 29 #[.slice a n c, .func (.func 30) #[] #[]] w fun e w' => e = .returned (.bool (xs.all Lra.literal)) ∧ w' = w := by
  have HX := hid hx
  have HN := hid hn
  obtain ⟨r, hr⟩ : ∃ r, xs.all Lra.literal = r := ⟨_, rfl⟩
  have HR := hid hr
  rw [hr]
  have hsh := hx.shape
  rw [hn] at hsh
  clear hx hn hr
  rcases hsh with h0 | ⟨b, off, rfl⟩
  · subst h0
    have HF := hid (show r = true by rw [← HR.out, List.eq_nil_of_length_eq_zero HN.out]; rfl)
    go_enter Try.func29, Try.ntmps29
    go_wp2
    go_loop [9] (fun i => i = .int .i64 0) (fun _ => 0)
    case atStart => rfl
    case round =>
      subst hrel
      go_wp2
      go_ret
      exact ⟨by rw [HF.out]; rfl, rfl⟩
  go_enter Try.func29, Try.ntmps29
  go_wp2
  go_loop [9] (fun i => ∃ k : Nat, i = .int .i64 k ∧ k ≤ n ∧ Hid ((xs.take k).all Lra.literal = true)) (fun i => n - (intOf i).toNat)
  case atStart => exact ⟨0, rfl, by omega, hid (by simp)⟩
  case round =>
    obtain ⟨k, rfl, hk, HI⟩ := hrel
    by_cases hlt : k < n
    · have hlt' : (k : Int) < n := by omega
      obtain ⟨b', off', e, _, hc, h1, h2⟩ := HX.out.at (j := k) (by rw [HN.out]; exact hlt)
      cases e
      have HT := hid (fun h => Lra.all_take Lra.literal xs k (by rw [HN.out]; exact hlt) HI.out h)
      have HZ := hid (fun h => Lra.all_false Lra.literal xs k (by rw [HN.out]; exact hlt) h)
      generalize xs.getD k 0 = x at hc h1 h2 HT HZ
      have C := hid (literal30 x w)
      cases hp : Lra.literal x
      · have HRF := hid (show r = false by rw [← HR.out]; exact HZ.out hp)
        rw [hp] at C
        clear HT HZ hp
        go_wp2_with (go_at_call 30; refine C.out.mono ?_; clear C; rintro e W ⟨rfl, rfl⟩)
        go_ret
        exact ⟨by rw [HRF.out]; rfl, rfl⟩
      · have HK := hid (HT.out hp)
        rw [hp] at C
        clear HT HZ hp
        go_wp2_with (go_at_call 30; refine C.out.mono ?_; clear C; rintro e W ⟨rfl, rfl⟩)
        go_round
        case rel => exact ⟨k + 1, by go_num, by omega, HK⟩
        case measure => simp [intOf]; omega
    · have hlt' : ¬ (k : Int) < n := by omega
      have HRF := hid (show r = true by
        rw [← HR.out]
        have := HI.out
        rwa [List.take_of_length_le (by rw [HN.out]; omega)] at this)
      go_wp2
      go_ret
      exact ⟨by rw [HRF.out]; rfl, rfl⟩
end Go.Proofs.Ytmgeoeajnpnadaa
