/- The document's Kind, New. -/
import Derived.Test.YtkodfojccodoaaaDcG
namespace Go.Proofs.Ytkodfojccodoaaa
open Go.RowKit Go.Maps
set_option linter.unusedVariables false
set_option linter.unusedSimpArgs false
set_option maxRecDepth 100000
def KinO (k : Nat) (W : World) (e : Ending) (w' : World) : Prop := e = .returned (.int .u8 ((Ph.knd k : Nat) : Int)) ∧ Below W.heap.size W w'
theorem tab_at (q : Nat) (h : q < 6) : (#[.int .u8 2, .int .u8 3, .int .u8 0, .int .u8 2, .int .u8 4, .int .u8 1] : Array Value)[q]? = some (.int .u8 (([2, 3, 0, 2, 4, 1].getD q 0 : Nat) : Int)) := by
  have : q = 0 ∨ q = 1 ∨ q = 2 ∨ q = 3 ∨ q = 4 ∨ q = 5 := by omega
  rcases this with rfl | rfl | rfl | rfl | rfl | rfl <;> rfl
theorem kind44 (k : Nat) (hk : k ≤ 100000) (W : World) : Calls Try.prog 44 #[.int .i64 (k : Int)] W fun e w' => KinO k W e w' := by
  by_cases h : k < 2
  · have h' : (k : Int) < 2 := by omega
    have hw : IntKind.u8.wrap (k : Int) = (k : Int) := by simp [IntKind.wrap, IntKind.bits, IntKind.signed]; omega
    have HO := hid (show KinO k W (.returned (.int .u8 (k : Int))) W from ⟨by unfold Ph.knd; rw [if_pos h], Below.refl _ _⟩)
    clear h
    go_enter Try.func44, Try.ntmps44
    go_wp2
    go_ret
    exact HO.out
  · have h' : ¬ (k : Int) < 2 := by omega
    obtain ⟨q, hq⟩ : ∃ q, (k - 2) % 6 = q := ⟨_, rfl⟩
    have hq6 : q < 6 := by rw [← hq]; exact Nat.mod_lt _ (by omega)
    have hw : wrap64 ((k : Int) - 2) = (k : Int) - 2 := by unfold wrap64; omega
    have ht : ((k : Int) - 2).tmod 6 = (q : Int) := by rw [Int.tmod_eq_emod_of_nonneg (by omega)]; omega
    have hm : ((k : Int) - 2) % 6 = (q : Int) := by omega
    have hwq : wrap64 (q : Int) = (q : Int) := by unfold wrap64; omega
    have hb := below_box W (.cells #[.int .u8 2, .int .u8 3, .int .u8 0, .int .u8 2, .int .u8 4, .int .u8 1] 5)
    have x0 : (W.alloc (.cells #[.int .u8 2, .int .u8 3, .int .u8 0, .int .u8 2, .int .u8 4, .int .u8 1] 5)).cell? ⟨W.heap.size, q, none⟩ = some (.int .u8 (([2, 3, 0, 2, 4, 1].getD q 0 : Nat) : Int)) := (row_cell (heap_alloc_new W _) q).trans (tab_at q hq6)
    have HO := hid (show KinO k W (.returned (.int .u8 (([2, 3, 0, 2, 4, 1].getD q 0 : Nat) : Int))) (W.alloc (.cells #[.int .u8 2, .int .u8 3, .int .u8 0, .int .u8 2, .int .u8 4, .int .u8 1] 5)) from ⟨by unfold Ph.knd; rw [if_neg h, hq], hb⟩)
    have hq6' : (q : Int) < 6 := by omega
    generalize ([2, 3, 0, 2, 4, 1].getD q 0 : Nat) = z at *
    clear h hq hb
    go_enter Try.func44, Try.ntmps44
    go_wp2
    go_ret
    exact HO.out
end Go.Proofs.Ytkodfojccodoaaa
