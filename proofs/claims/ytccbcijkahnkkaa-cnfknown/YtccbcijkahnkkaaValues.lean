/- The statement's own function CnfValues answers true: the walk. -/
import Derived.Test.YtccbcijkahnkkaaWorks
namespace Go.Proofs.Ytccbcijkahnkkaa
open Go.RowKit
set_option linter.unusedVariables false

set_option maxHeartbeats 2000000 in
theorem values5 (a am : Option Addr) (n cap nm capm : Nat) (xs : List Int) (m : List Bool) (w : World) (hn : xs.length = n) (hnm : m.length = nm) (hx : Lits w a xs) (hm : Bools w am m) :
    Calls Try.prog 5 #[.slice a n cap, .slice am nm capm] w fun e w' => e = .returned (.bool true) ∧ Below w.heap.size w w' := by
  by_cases h1 : 3000 < n
  · have h1' : (3000 : Int) < (n : Int) := by omega
    clear hx hm hn hnm
    go_enter Try.func5, Try.ntmps5
    go_wp2
    go_ret
    exact ⟨rfl, Below.refl _ _⟩
  by_cases h2 : 3000 < nm
  · have h2' : (3000 : Int) < (nm : Int) := by omega
    have h1' : ¬ (3000 : Int) < (n : Int) := by omega
    clear hx hm hn hnm
    go_enter Try.func5, Try.ntmps5
    go_wp2
    go_ret
    exact ⟨rfl, Below.refl _ _⟩
  have h1' : ¬ (3000 : Int) < (n : Int) := by omega
  have h2' : ¬ (3000 : Int) < (nm : Int) := by omega
  have HX := hid hx
  have HM := hid hm
  have HN := hid hn
  have HNM := hid hnm
  clear hx hm hn hnm
  go_enter Try.func5, Try.ntmps5
  go_wp2
  go_loopw [5] (fun i wr => ∃ k : Nat, k ≤ n ∧ i = .int .i64 k ∧ Drawn w wr) (fun i _ => n - (intOf i).toNat)
  case atStart => exact ⟨0, Nat.zero_le _, rfl, Drawn.refl _⟩
  case round =>
    obtain ⟨k, hk, rfl, HD⟩ := hrel
    by_cases hlt : k < n
    · obtain ⟨b, off, rfl, hc, hx1, hx2⟩ := HX.out.at (k := k) (by rw [HN.out]; exact hlt)
      rw [← HD.cell] at hc
      generalize xs.getD k 0 = x at hc hx1 hx2
      have hi1 : (k : Int) < (n : Int) := by omega
      have CX : Hid (∀ W, Calls Try.prog 25 #[.int .i32 x] W fun e w' => e = .returned (.int .i64 (Cnf.vr x)) ∧ w' = W) := fun W => var25 x W hx1 hx2
      have CY : Hid (∀ W, Calls Try.prog 26 #[.int .i32 x] W fun e w' => e = .returned (.int .i64 (Cnf.vr x)) ∧ w' = W) := fun W => var26 x W hx1 hx2
      generalize Cnf.vr x = v at CX CY
      go_wp2
      go_quiet (first | (go_at_call 25; exact Calls.quiet_of_same (CX.out _)) | (go_at_call 26; exact Calls.quiet_of_same (CY.out _)))
      go_wp2
      go_roundw
      case rel => exact ⟨k + 1, by omega, by go_num, HD.drewN _⟩
      case measure => simp [intOf]; omega
    · have CX := hid (value27 a am n cap nm capm xs m wr HN.out (by omega) HNM.out (by omega) (HD.lits HX.out) (HD.bools HM.out))
      have CY := hid (value28 a am n cap nm capm xs m wr HN.out (by omega) HNM.out (by omega) (HD.lits HX.out) (HD.bools HM.out))
      generalize Cnf.val xs m = r at CX CY
      go_wp2_with fail
      refine CX.out.mono ?_
      rintro e w' ⟨rfl, rfl⟩
      go_wp2_with fail
      refine CY.out.mono ?_
      rintro e w' ⟨rfl, rfl⟩
      go_wp2_with fail
      refine (works14 _).mono ?_
      rintro e w2 ⟨rfl, hb⟩
      have HB := hid (HD.below'.trans (hb.mono HD.below'.size))
      clear hb
      go_wp2
      go_ret
      exact ⟨rfl, HB.out⟩

end Go.Proofs.Ytccbcijkahnkkaa
