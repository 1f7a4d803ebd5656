/- The document's Turn, whatever its kind. -/
import Derived.Test.YtkodfojccodoaaaDcT2
import Derived.Test.YtkodfojccodoaaaDcT3
import Derived.Test.YtkodfojccodoaaaDcT4
namespace Go.Proofs.Ytkodfojccodoaaa
open Go.RowKit Go.Maps
set_option linter.unusedVariables false
theorem kndLt (t : Nat) : Ph.knd t < 5 := by
  rw [knd_nx]
  have := nx_lt t
  have h : nx t = 0 ∨ nx t = 1 ∨ nx t = 2 ∨ nx t = 3 ∨ nx t = 4 ∨ nx t = 5 ∨ nx t = 6 ∨ nx t = 7 := by omega
  rcases h with h | h | h | h | h | h | h | h <;> (rw [h]; decide)
theorem turn31 {D : Da} {P : Ph.St} {W : World} (H : Dm D P W) (hk : P.k ≤ 100000) (hus : Us P.s) :
    Calls Try.prog 31 #[.pointer (some ⟨D.qb, 0, none⟩)] W fun e w' => TrnD D P W e w' := by
  have := kndLt P.k
  have h : Ph.knd P.k = 0 ∨ Ph.knd P.k = 1 ∨ Ph.knd P.k = 2 ∨ Ph.knd P.k = 3 ∨ Ph.knd P.k = 4 := by omega
  rcases h with h | h | h | h | h
  · exact turn31_0 H hk h
  · exact turn31_1 H hk h
  · exact turn31_2 H hk h
  · exact turn31_3 H hk hus h
  · exact turn31_4 H hk hus h
end Go.Proofs.Ytkodfojccodoaaa
