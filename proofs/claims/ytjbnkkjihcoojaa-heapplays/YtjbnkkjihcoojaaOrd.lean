/- Order, of few. -/
import Derived.Test.YtjbnkkjihcoojaaShelf
import Derived.Test.YtjbnkkjihcoojaaSo
import Derived.Test.YtjbnkkjihcoojaaNw
namespace Go.Proofs.Ytjbnkkjihcoojaa
open Go.RowKit Go.Maps
set_option linter.unusedVariables false
set_option maxRecDepth 100000

theorem len55 (n : Nat) (w : World) (hn : n ≤ 1048576) : Calls Try.prog 55 #[.int .u64 (n : Nat)] w fun e w' => e = .returned (.int .i64 (Lib.bitLen n : Nat)) ∧ w' = w := by
  have h := Any.bits_Len Try.bitsLenL (n : Int) w (by omega) (by omega)
  rwa [Int.toNat_natCast] at h
set_option maxHeartbeats 1000000 in
theorem pdq54_few {B : World} {blk cap : Nat} {sv : Value} {n : Nat} {sc : List Int} {ds : List Nat} {W : World} (h : So B blk cap sv n sc ds W) (hn : n ≤ 1048576) {a b m : Nat} (hm : ds.length = m) (hml : m ≤ 1048576) (ha : a ≤ b) (hb : b ≤ m) (h12 : b ≤ a + 12) (lim : Nat) :
    Calls Try.prog 54 #[.slice (some ⟨blk, 0, none⟩) m cap, .int .i64 a, .int .i64 b, .int .i64 lim, cmpv sv] W fun e w' => e = .returned (.tuple #[]) ∧ InsOut B blk cap sv n sc ds a b w' := by
  have C := hid (ins61 h hn hm hml ha hb)
  have h1 : (b : Int) - a ≤ 12 := by omega
  clear h
  go_enter Try.func54, Try.ntmps54
  go_wp2
  go_loopw [1, 2] (fun av bv wr => av = .int .i64 (a : Nat) ∧ bv = .int .i64 (b : Nat) ∧ wr = W) (fun _ _ _ => 0)
  case atStart => exact ⟨rfl, rfl, rfl⟩
  case round =>
    obtain ⟨rfl, rfl, hw⟩ := hrel
    rw [hw]
    clear hw
    go_wp2_with (go_at_call 61; refine C.out.mono ?_; rintro e w4 ⟨rfl, h4⟩; have H4 := hid h4; clear h4)
    refine bodyPost_ret (results_none rfl _ _ _) rfl ?_
    exact ⟨rfl, H4.out⟩
set_option maxHeartbeats 1000000 in
theorem sort45_few {B : World} {blk cap : Nat} {sv : Value} {n : Nat} {sc : List Int} {ds : List Nat} {W : World} (h : So B blk cap sv n sc ds W) (hn : n ≤ 1048576) {m : Nat} (hm : ds.length = m) (h12 : m ≤ 12) :
    Calls Try.prog 45 #[.slice (some ⟨blk, 0, none⟩) m cap, cmpv sv] W fun e w' => e = .returned (.tuple #[]) ∧ InsOut B blk cap sv n sc ds 0 m w' := by
  have CL := hid (len55 m W (by omega))
  have C := hid (pdq54_few h hn (a := 0) (b := m) hm (by omega) (Nat.zero_le _) (Nat.le_refl _) (by omega) (Lib.bitLen m))
  have w1 : IntKind.u64.wrap (m : Int) = m := by rw [IntKind.wrap_u64]; omega
  generalize Lib.bitLen m = lm at *
  clear h
  go_enter Try.func45, Try.ntmps45
  go_wp2_with (first
    | (go_at_call 55; refine CL.out.mono ?_; rintro e w4 ⟨rfl, hw4⟩; rw [hw4]; clear hw4)
    | (go_at_call 54; refine C.out.mono ?_; rintro e w4 ⟨rfl, h4⟩; have H4 := hid h4; clear h4))
  go_end0
  exact ⟨rfl, H4.out⟩
end Go.Proofs.Ytjbnkkjihcoojaa
