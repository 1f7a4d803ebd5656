/- Worlds that differ by draws alone. -/
import Derived.Test.YtjakfgpgcnbclaaForm
namespace Go.Proofs.Ytjakfgpgcnbclaa
open Go.RowKit
set_option linter.unusedVariables false

def Drawn (w w' : World) : Prop := ∃ q, w' = w.drewN q
theorem Drawn.refl (w : World) : Drawn w w := ⟨0, rfl⟩
theorem Drawn.drewN {w w' : World} (h : Drawn w w') (n : Nat) : Drawn w (w'.drewN n) := by obtain ⟨q, rfl⟩ := h; exact ⟨q + n, by rw [World.drewN_drewN]⟩
theorem Drawn.trans {w w' w'' : World} (h : Drawn w w') (k : Drawn w' w'') : Drawn w w'' := by obtain ⟨q, rfl⟩ := k; exact h.drewN q
theorem Drawn.cell {w w' : World} (h : Drawn w w') (a : Addr) : w'.cell? a = w.cell? a := by obtain ⟨q, rfl⟩ := h; rfl
theorem Drawn.below {B : Nat} {a w w' : World} (h : Drawn w w') (hb : Below B a w) : Below B a w' := by obtain ⟨q, rfl⟩ := h; exact ⟨hb.os, hb.tape, hb.output, hb.size, hb.block⟩
theorem Drawn.owns {w w' : World} (h : Drawn w w') {base : Nat} {e : TypeId} {size : Nat} {v : Value} {n : Nat} {xs : List Value} (ho : w.ownsRow base e size v n xs) : w'.ownsRow base e size v n xs := by obtain ⟨q, rfl⟩ := h; exact ho
theorem Drawn.lits {w w' : World} (h : Drawn w w') {a : Option Addr} {xs : List Int} (hx : Lits w a xs) : Lits w' a xs := hx.below (h.below (Below.refl _ _))
theorem Drawn.bools {w w' : World} (h : Drawn w w') {a : Option Addr} {xs : List Bool} (hx : Bools w a xs) : Bools w' a xs := hx.below (h.below (Below.refl _ _))
theorem Drawn.below' {w w' : World} (h : Drawn w w') : Below w.heap.size w w' := h.below (Below.refl _ _)
end Go.Proofs.Ytjakfgpgcnbclaa
