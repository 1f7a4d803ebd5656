/- The call of Values: a model's values, line by line. -/
import Derived.Test.YtlhpnkgdnmnclaaDoorPut
namespace Dim
def pages : List UInt8 × Nat → List Int → List UInt8 × Nat
  | s, [] => s
  | s, i :: r => pages (putX s.1 s.2 i, putL s.1 s.2 i) r
def valI (m : List Bool) (k : Nat) : Int := if m.getD k false then (k : Int) + 1 else -((k : Int) + 1)
def valInts (m : List Bool) : List Int := (List.range m.length).map (valI m)
def valuesB (m : List Bool) : List UInt8 := (pages ([118], 0) (valInts m ++ [0])).1 ++ [10]

theorem pages_snoc (s : List UInt8 × Nat) (r : List Int) (i : Int) : pages s (r ++ [i]) = (putX (pages s r).1 (pages s r).2 i, putL (pages s r).1 (pages s r).2 i) := by
  induction r generalizing s with
  | nil => rfl
  | cons x xs ih => exact ih _
theorem putX_len (xs : List UInt8) (l : Nat) (i : Int) (h0 : -9223372036854775808 ≤ i) (h1 : i ≤ 9223372036854775807) : xs.length ≤ (putX xs l i).length ∧ (putX xs l i).length ≤ xs.length + 24 := by
  have := Go.Lib.itoa_length_le i h0 h1
  unfold putX
  split <;> simp <;> omega
theorem putL_le (xs : List UInt8) (l : Nat) (i : Int) (h : l ≤ xs.length) : putL xs l i ≤ (putX xs l i).length := by
  unfold putL putX
  split <;> simp <;> omega
theorem valInts_take (m : List Bool) (k : Nat) (h : k < m.length) : (valInts m).take (k + 1) = (valInts m).take k ++ [valI m k] := by
  have hl : k < (valInts m).length := by simp [valInts]; exact h
  rw [List.take_succ_eq_append_getElem hl]
  simp [valInts]
theorem pages_inv (m : List Bool) (k : Nat) (hk : k ≤ m.length) (hm : m.length ≤ 4294967296) : 0 < (pages ([118], 0) ((valInts m).take k)).1.length ∧ (pages ([118], 0) ((valInts m).take k)).2 ≤ (pages ([118], 0) ((valInts m).take k)).1.length ∧ (pages ([118], 0) ((valInts m).take k)).1.length ≤ 1 + 24 * k := by
  induction k with
  | zero => simp [pages]
  | succ k ih =>
    obtain ⟨h1, h2, h3⟩ := ih (by omega)
    rw [valInts_take m k (by omega), pages_snoc]
    have hv : -9223372036854775808 ≤ valI m k ∧ valI m k ≤ 9223372036854775807 := by unfold valI; split <;> omega
    have hx := putX_len (pages ([118], 0) ((valInts m).take k)).1 (pages ([118], 0) ((valInts m).take k)).2 (valI m k) hv.1 hv.2
    exact ⟨by show 0 < (putX _ _ _).length; omega, putL_le _ _ _ h2, by show (putX _ _ _).length ≤ _; omega⟩
end Dim
namespace Go.Proofs.YtlhpnkgdnmnclaaDoor
open Go.RowKit
set_option linter.unusedVariables false

/-- A row of Booleans. -/
def Bools (w : World) (a : Option Addr) (xs : List Bool) : Prop :=
  xs = [] ∨ ∃ b off, a = some ⟨b, off, none⟩ ∧ b < w.heap.size ∧ ∀ j, j < xs.length → w.cell? ⟨b, off + j, none⟩ = some (.bool (xs.getD j false))
theorem Bools.below {w w' : World} {a : Option Addr} {xs : List Bool} (h : Bools w a xs) (hb : Below w.heap.size w w') : Bools w' a xs := by
  rcases h with h | ⟨b, off, e, hl, hc⟩
  · exact .inl h
  · exact .inr ⟨b, off, e, Nat.lt_of_lt_of_le hl hb.size, fun j hj => (hb.cell (p := ⟨b, off + j, none⟩) hl).trans (hc j hj)⟩
theorem Bools.at {w : World} {a : Option Addr} {xs : List Bool} (h : Bools w a xs) {k : Nat} (hk : k < xs.length) :
    ∃ b off, a = some ⟨b, off, none⟩ ∧ w.cell? ⟨b, off + k, none⟩ = some (.bool (xs.getD k false)) := by
  rcases h with rfl | ⟨b, off, e, hl, hc⟩
  · simp at hk
  · exact ⟨b, off, e, hc k hk⟩

/-- A row of bytes as a string. -/
theorem row_string {W : World} {base n : Nat} {v : Value} {xs : List UInt8} (h : W.ownsRow base 5 1 v n (Lib.byteCells xs)) (hn : 0 < n) : (convert 22 9 v).run Tryd.prog W = .ok (.string ⟨xs.toArray⟩) W := by
  have hl : xs.length = n := by have := h.1; simp [Lib.byteCells] at this; omega
  rcases h.2 with ⟨_, h0⟩ | ⟨g, cap, cur, rfl, h1, h2, h3, h4, h5, h6⟩
  · omega
  · have hb : Lib.BytesIn W (some ⟨g, 0, none⟩) n (xs.map fun b => (b.toNat : Int)) := fun _ => ⟨g, 0, rfl, fun i hi => by
      rw [Nat.zero_add, row_cell h2 i, ← Array.getElem?_toList]
      have := congrArg (fun l : List Value => l[i]?) h6
      simp only [Nat.mul_one] at this
      rw [List.getElem?_take_of_lt hi] at this
      rw [this]
      simp [Lib.byteCells, List.getD, List.getElem?_eq_getElem (show i < xs.length by omega)]⟩
    rw [hb.convert (by simp [hl]) cap 22 5 9 Tryd.underlying22 Tryd.underlying5 Tryd.underlying9]
    have : strOfNums (xs.map fun b => (b.toNat : Int)) = ⟨xs.toArray⟩ := by
      unfold strOfNums
      congr 2
      rw [List.map_map]
      conv => rhs; rw [← List.map_id xs]
      exact List.map_congr_left (fun b _ => by simp)
    rw [this]

end Go.Proofs.YtlhpnkgdnmnclaaDoor
