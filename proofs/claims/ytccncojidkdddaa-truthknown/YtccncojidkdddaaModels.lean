/- The iterator over a formula's models, made. -/
import Derived.Test.YtccncojidkdddaaHolds
namespace Go.Proofs.Ytccncojidkdddaa
open Go.RowKit Go.Lib Go.Sort Go.Shelf
set_option linter.unusedVariables false

set_option maxHeartbeats 1000000 in
theorem models20 (u T : Nat) (w : World) :
    Calls Try.prog 20 #[.int .i64 u, .func (.func 22) #[.pointer (some ⟨T, 0, none⟩)] #[]] w fun e w' => e = .returned (.func (.func 35) #[] #[.pointer (some ⟨w.heap.size, 0, none⟩), .pointer (some ⟨w.heap.size + 1, 0, none⟩)]) ∧ w' = (w.alloc (.cells #[.int .i64 u] 3)).alloc (.cells #[.func (.func 22) #[.pointer (some ⟨T, 0, none⟩)] #[]] 49) := by
  go_enter Try.func20, Try.ntmps20
  go_wp2
  go_ret
  exact ⟨rfl, rfl⟩
end Go.Proofs.Ytccncojidkdddaa
