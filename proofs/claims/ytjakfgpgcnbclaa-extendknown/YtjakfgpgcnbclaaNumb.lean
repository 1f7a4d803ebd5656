/- Models by their number. -/
import Derived.Test.YtjakfgpgcnbclaaDrawn
import Derived.Laws.BitsLemmas
import Derived.RangeFuncBox
namespace Tru
/-- The k-th model of n variables. -/
def model (n k : Nat) : List Bool := (List.range n).map (fun i => k.testBit i)
theorem model_len (n k : Nat) : (model n k).length = n := by simp [model]
theorem model_get (n k i : Nat) (h : i < n) : (model n k).getD i false = k.testBit i := by
  simp [model, List.getD, h]
end Tru
namespace Go.Proofs.Ytjakfgpgcnbclaa
open Go.RowKit
set_option linter.unusedVariables false

theorem box_below (w : World) (o : Obj) {w' : World} (h : Below (w.alloc o).heap.size (w.alloc o) w') : Below w.heap.size w w' := (below_box w o).trans (h.mono (by simp))
theorem row_cell {W : World} {b : Nat} {cs : Array Value} {t : TypeId} {fr : Nat × Nat} (h : W.heap[b]? = some (.cells cs t fr)) (k : Nat) : W.cell? ⟨b, k, none⟩ = cs[k]? := by
  simp [World.cell?, h]

theorem info4 : (Try.prog.info? 4).map (fun i => (i.zero, i.size, i.bytes)) = some (some (.bool false), 1, 1) := by kernel_rfl

theorem bit_at (k j : Nat) (hk : k < 65536) : (bits .and .i64 ((k : Int) / 2 ^ j) 1 == 1) = k.testBit j := by
  have e : ((k : Int) / 2 ^ j) = ((k / 2 ^ j : Nat) : Int) := by simp
  have hl : k / 2 ^ j < 2 ^ 63 := Nat.lt_of_le_of_lt (Nat.div_le_self _ _) (by omega)
  rw [e, show (1 : Int) = ((1 : Nat) : Int) from rfl, (bits_nat .i64 63 (by decide) (fun n h0 h1 => by rw [IntKind.wrap_i64]; omega) (k / 2 ^ j) 1 hl (by decide)).1, Nat.testBit_eq_decide_div_mod_eq, Nat.and_one_is_mod]
  generalize k / 2 ^ j = x
  rw [Bool.eq_iff_iff, beq_iff_eq, decide_eq_true_eq]
  omega
/-- A model in a row, told. -/
def ModelOut (n k : Nat) (e : Ending) (w : World) : Prop := ∃ a cap, e = .returned (.slice a n cap) ∧ Bools w a (Tru.model n k)
end Go.Proofs.Ytjakfgpgcnbclaa
