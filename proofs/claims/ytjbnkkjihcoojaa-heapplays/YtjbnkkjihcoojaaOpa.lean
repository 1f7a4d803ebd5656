/- A row of calls that was handed in. -/
import Derived.Test.YtjbnkkjihcoojaaLws
namespace Go.Proofs.Ytjbnkkjihcoojaa
open Go.RowKit Go.Maps
set_option linter.unusedVariables false
set_option maxRecDepth 100000

structure Opr where
  kind : Int
  v : Int
  by_ : Int
def oval (s : Opr) : List Value := [.int .u8 s.kind, .int .i64 s.v, .int .i64 s.by_]
structure OpOk (s : Opr) : Prop where
  kind : 0 ≤ s.kind ∧ s.kind ≤ 255
  v : I64 s.v
  by_ : I64 s.by_
def Ops (W : World) (a : Option Addr) (ss : List Opr) : Prop :=
  ss = [] ∨ ∃ b off, a = some ⟨b, off, none⟩ ∧ b < W.heap.size ∧ ∀ j (hj : j < ss.length), OpOk ss[j] ∧ ∀ t v, (oval ss[j])[t]? = some v → W.cell? ⟨b, off + j * 3 + t, none⟩ = some v
theorem Ops.below {W W' : World} {a : Option Addr} {ss : List Opr} (h : Ops W a ss) (hb : Below W.heap.size W W') : Ops W' a ss := by
  rcases h with h | ⟨b, off, e, hl, hc⟩
  · exact .inl h
  · refine .inr ⟨b, off, e, Nat.lt_of_lt_of_le hl hb.size, fun j hj => ?_⟩
    obtain ⟨h1, h2⟩ := hc j hj
    exact ⟨h1, fun t v hv => (hb.cell (p := ⟨b, off + j * 3 + t, none⟩) hl).trans (h2 t v hv)⟩
theorem Ops.shape {w : World} {a : Option Addr} {ss : List Opr} (h : Ops w a ss) : ss.length = 0 ∨ ∃ b off, a = some ⟨b, off, none⟩ := by
  rcases h with h' | ⟨b, off, e, _⟩
  · left; rw [h']; rfl
  · exact .inr ⟨b, off, e⟩
theorem Ops.at {W : World} {b off : Nat} {ss : List Opr} (h : Ops W (some ⟨b, off, none⟩) ss) {j : Nat} (hj : j < ss.length) : OpOk ss[j] ∧ b < W.heap.size ∧ W.cell? ⟨b, off + j * 3, none⟩ = some (.int .u8 ss[j].kind) ∧ W.cell? ⟨b, off + j * 3 + 1, none⟩ = some (.int .i64 ss[j].v) ∧ W.cell? ⟨b, off + j * 3 + 2, none⟩ = some (.int .i64 ss[j].by_) := by
  rcases h with h | ⟨b', off', e, hl, hc⟩
  · rw [h] at hj; simp at hj
  · cases e
    obtain ⟨h1, h2⟩ := hc j hj
    exact ⟨h1, hl, h2 0 _ rfl, h2 1 _ rfl, h2 2 _ rfl⟩
end Go.Proofs.Ytjbnkkjihcoojaa
