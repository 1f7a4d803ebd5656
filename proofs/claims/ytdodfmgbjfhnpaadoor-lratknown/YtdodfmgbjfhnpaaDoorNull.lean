/- A row cut to nothing. -/
import Derived.Test.YtdodfmgbjfhnpaaDoorOne
namespace Go.Proofs.YtdodfmgbjfhnpaaDoor
open Go.RowKit
set_option linter.unusedVariables false
set_option linter.unusedSimpArgs false

/-- A row that is cut to nothing. -/
theorem own_cut {W : World} {base n e : Nat} {o : Option Addr} {c : Nat} {xs : List Value} (h : W.ownsRow base e 1 (.slice o n c) n xs) : W.ownsRow base e 1 (.slice o 0 c) 0 [] := by
  refine ⟨by simp, ?_⟩
  rcases h.2 with ⟨e1, _⟩ | ⟨g, cp, cur, e1, h1, h2, h3⟩
  · cases e1; exact .inl ⟨rfl, rfl⟩
  · cases e1
    exact .inr ⟨g, c, cur, rfl, h1, h2, Nat.zero_le _, h3.2.1, h3.2.2.1, by simp⟩

end Go.Proofs.YtdodfmgbjfhnpaaDoor
