/- Rows of clauses, of truth values, of calls: how they lie. -/
import Derived.Test.YtblogmelmpkfhaaArm
namespace Arn
/-- A call, as the statements have it. -/
structure Stp where
  kind : Int
  id : Int
  lits : List Int
  red : Bool
  r : Int
  loose : Bool
  i : Int
  k : Int
end Arn
namespace Go.Proofs.Ytblogmelmpkfhaa
open Go.RowKit Go.Maps
set_option linter.unusedVariables false

/-- A row of Booleans. -/
def Bools (w : World) (a : Option Addr) (xs : List Bool) : Prop :=
  xs = [] ∨ ∃ b off, a = some ⟨b, off, none⟩ ∧ b < w.heap.size ∧ ∀ j, j < xs.length → w.cell? ⟨b, off + j, none⟩ = some (.bool (xs.getD j false))
theorem Bools.below {w w' : World} {a : Option Addr} {xs : List Bool} (h : Bools w a xs) (hb : Below w.heap.size w w') : Bools w' a xs := by
  rcases h with h | ⟨b, off, e, hl, hc⟩
  · exact .inl h
  · exact .inr ⟨b, off, e, Nat.lt_of_lt_of_le hl hb.size, fun j hj => (hb.cell (p := ⟨b, off + j, none⟩) hl).trans (hc j hj)⟩
theorem Bools.at {w : World} {a : Option Addr} {xs : List Bool} (h : Bools w a xs) {k : Nat} (hk : k < xs.length) :
    ∃ b off, a = some ⟨b, off, none⟩ ∧ w.cell? ⟨b, off + k, none⟩ = some (.bool (xs.getD k false)) := by
  rcases h with rfl | ⟨b, off, e, hl, hc⟩
  · simp at hk
  · exact ⟨b, off, e, hc k hk⟩
/-- A row of clauses. -/
def Cls (w : World) (a : Option Addr) (cs : List (List Int)) : Prop :=
  (∀ c ∈ cs, c.length ≤ 35184372088832) ∧ (cs = [] ∨ ∃ b off, a = some ⟨b, off, none⟩ ∧ b < w.heap.size ∧ ∀ j, j < cs.length → ∃ a' cap', w.cell? ⟨b, off + j, none⟩ = some (.slice a' (cs.getD j []).length cap') ∧ Lits w a' (cs.getD j []))
theorem getD_cls (cs : List (List Int)) (k : Nat) (h : k < cs.length) : cs.getD k [] ∈ cs := by simp [List.getD, List.getElem?_eq_getElem h]
theorem Cls.below {w w' : World} {a : Option Addr} {cs : List (List Int)} (h : Cls w a cs) (hb : Below w.heap.size w w') : Cls w' a cs := by
  refine ⟨h.1, ?_⟩
  rcases h.2 with h | ⟨b, off, e, hl, hc⟩
  · exact .inl h
  · refine .inr ⟨b, off, e, Nat.lt_of_lt_of_le hl hb.size, fun j hj => ?_⟩
    obtain ⟨a', cap', h1, h2⟩ := hc j hj
    exact ⟨a', cap', (hb.cell (p := ⟨b, off + j, none⟩) hl).trans h1, h2.below hb⟩
theorem Cls.at {w : World} {a : Option Addr} {cs : List (List Int)} (h : Cls w a cs) {k : Nat} (hk : k < cs.length) :
    ∃ b off a' cap', a = some ⟨b, off, none⟩ ∧ b < w.heap.size ∧ w.cell? ⟨b, off + k, none⟩ = some (.slice a' (cs.getD k []).length cap') ∧ Lits w a' (cs.getD k []) ∧ (cs.getD k []).length ≤ 35184372088832 := by
  rcases h.2 with rfl | ⟨b, off, e, hl, hc⟩
  · simp at hk
  · obtain ⟨a', cap', h1, h2⟩ := hc k hk
    exact ⟨b, off, a', cap', e, hl, h1, h2, h.1 _ (getD_cls cs k hk)⟩
/-- A call's eight cells. -/
def sval (s : Arn.Stp) (a : Option Addr) (cap : Nat) : List Value := [.int .i64 s.kind, .int .i64 s.id, .slice a s.lits.length cap, .bool s.red, .int .i64 s.r, .bool s.loose, .int .i64 s.i, .int .i64 s.k]
structure StpOk (W : World) (s : Arn.Stp) (a : Option Addr) : Prop where
  lits : Lits W a s.lits
  len : s.lits.length ≤ 35184372088832
  id : I64 s.id
  r : I64 s.r
  i : I64 s.i
  k : I64 s.k
  kind : I64 s.kind
theorem StpOk.below {W W' : World} {s : Arn.Stp} {a : Option Addr} (h : StpOk W s a) (hb : Below W.heap.size W W') : StpOk W' s a := ⟨h.lits.below hb, h.len, h.id, h.r, h.i, h.k, h.kind⟩
/-- A row of calls. -/
def Stps (W : World) (a : Option Addr) (ss : List Arn.Stp) : Prop :=
  ss = [] ∨ ∃ b off, a = some ⟨b, off, none⟩ ∧ b < W.heap.size ∧ ∀ j (hj : j < ss.length), ∃ a' cap', StpOk W ss[j] a' ∧ ∀ t v, (sval ss[j] a' cap')[t]? = some v → W.cell? ⟨b, off + j * 8 + t, none⟩ = some v
theorem Stps.below {W W' : World} {a : Option Addr} {ss : List Arn.Stp} (h : Stps W a ss) (hb : Below W.heap.size W W') : Stps W' a ss := by
  rcases h with h | ⟨b, off, e, hl, hc⟩
  · exact .inl h
  · refine .inr ⟨b, off, e, Nat.lt_of_lt_of_le hl hb.size, fun j hj => ?_⟩
    obtain ⟨a', cap', h1, h2⟩ := hc j hj
    exact ⟨a', cap', h1.below hb, fun t v hv => (hb.cell (p := ⟨b, off + j * 8 + t, none⟩) hl).trans (h2 t v hv)⟩
end Go.Proofs.Ytblogmelmpkfhaa
