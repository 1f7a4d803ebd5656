/- The closed statement: the rows of clauses and of models that it goes through. -/
import Derived.Test.YtccbcijkahnkkaaClauses4
import Derived.Test.YtccbcijkahnkkaaRes7
import Derived.Test.YtccbcijkahnkkaaNorm6
import Derived.Test.YtccbcijkahnkkaaValues
import Derived.Test.YtccbcijkahnkkaaRights3
namespace Go.Proofs.Ytccbcijkahnkkaa
open Go.RowKit
set_option linter.unusedVariables false

def knownCs : List (List Int) := [[], [1], [-1], [0], [1, -1], [3, -1, 3, 2], [1, 2], [2, 1, 2], [-1, 3], [-1, -2], [-2147483648, 2147483647], [2147483647, -2147483647], [0, 0], [5, 4, 3, 2, 1, -5]]
def knownMs : List (List Bool) := [[], [true], [false], [true, true], [false, true, true], [true, false, true, false, true]]

/-- A row of models. -/
def Mods (w : World) (a : Option Addr) (ms : List (List Bool)) : Prop :=
  ∃ b off, a = some ⟨b, off, none⟩ ∧ b < w.heap.size ∧ ∀ j, j < ms.length → ∃ a' cap', w.cell? ⟨b, off + j, none⟩ = some (.slice a' (ms.getD j []).length cap') ∧ Bools w a' (ms.getD j [])
theorem Mods.below {w w' : World} {a : Option Addr} {ms : List (List Bool)} (h : Mods w a ms) (hb : Below w.heap.size w w') : Mods w' a ms := by
  obtain ⟨b, off, e, hl, hc⟩ := h
  refine ⟨b, off, e, Nat.lt_of_lt_of_le hl hb.size, fun j hj => ?_⟩
  obtain ⟨a', cap', h1, h2⟩ := hc j hj
  exact ⟨a', cap', (hb.cell (p := ⟨b, off + j, none⟩) hl).trans h1, h2.below hb⟩

/-- A row of numbers. -/
def Nums (w : World) (g n : Nat) : Prop := g < w.heap.size ∧ ∀ j, j < n → ∃ v, w.cell? ⟨g, j, none⟩ = some (.int .i64 v)
theorem Nums.below {w w' : World} {g n : Nat} (h : Nums w g n) (hb : Below w.heap.size w w') : Nums w' g n :=
  ⟨Nat.lt_of_lt_of_le h.1 hb.size, fun j hj => (h.2 j hj).imp fun v hv => (hb.cell (p := ⟨g, j, none⟩) h.1).trans hv⟩

theorem lits_new' (w : World) (xs : List Int) (g : Nat) (hg : w.heap.size = g) (hb : ∀ x ∈ xs, -2147483648 ≤ x ∧ x ≤ 2147483647) : Lits (w.alloc (.cells (xs.map (Value.int .i32)).toArray 40)) (some ⟨g, 0, none⟩) xs := by
  subst hg; exact lits_new w xs hb
theorem bools_new' (w : World) (xs : List Bool) (g : Nat) (hg : w.heap.size = g) : Bools (w.alloc (.cells (xs.map Value.bool).toArray 4)) (some ⟨g, 0, none⟩) xs := by
  subst hg; exact bools_new w xs
theorem Lits.alloc {w : World} {a : Option Addr} {xs : List Int} (h : Lits w a xs) (o : Obj) : Lits (w.alloc o) a xs := h.below (below_new w o)
theorem Bools.alloc {w : World} {a : Option Addr} {xs : List Bool} (h : Bools w a xs) (o : Obj) : Bools (w.alloc o) a xs := h.below (below_new w o)

theorem cls_new (w : World) (g : Nat) (hg : w.heap.size = g) (rows : List (Option Addr × Nat × List Int)) (h : ∀ r ∈ rows, Lits w r.1 r.2.2 ∧ r.2.2.length ≤ 35184372088832) :
    Cls (w.alloc (.cells (rows.map fun r => Value.slice r.1 r.2.2.length r.2.1).toArray 33)) (some ⟨g, 0, none⟩) (rows.map fun r => r.2.2) := by
  subst hg
  refine ⟨fun c hc => ?_, .inr ⟨w.heap.size, 0, rfl, by simp, fun j hj => ?_⟩⟩
  · obtain ⟨r, hr, rfl⟩ := List.mem_map.1 hc
    exact (h r hr).2
  · have hj' : j < rows.length := by simpa using hj
    have hh : (w.alloc (.cells (rows.map fun r => Value.slice r.1 r.2.2.length r.2.1).toArray 33)).heap[w.heap.size]? = some (.cells (rows.map fun r => Value.slice r.1 r.2.2.length r.2.1).toArray 33) := heap_alloc_new w _
    have hr := h rows[j] (List.getElem_mem hj')
    have e : (rows.map fun r => r.2.2).getD j [] = rows[j].2.2 := by simp [List.getD, hj']
    rw [e]
    refine ⟨rows[j].1, rows[j].2.1, ?_, hr.1.alloc _⟩
    simp only [World.cell?, hh]
    simp [hj']
theorem mods_new (w : World) (g : Nat) (hg : w.heap.size = g) (rows : List (Option Addr × Nat × List Bool)) (h : ∀ r ∈ rows, Bools w r.1 r.2.2) :
    Mods (w.alloc (.cells (rows.map fun r => Value.slice r.1 r.2.2.length r.2.1).toArray 26)) (some ⟨g, 0, none⟩) (rows.map fun r => r.2.2) := by
  subst hg
  refine ⟨w.heap.size, 0, rfl, by simp, fun j hj => ?_⟩
  have hj' : j < rows.length := by simpa using hj
  have hh : (w.alloc (.cells (rows.map fun r => Value.slice r.1 r.2.2.length r.2.1).toArray 26)).heap[w.heap.size]? = some (.cells (rows.map fun r => Value.slice r.1 r.2.2.length r.2.1).toArray 26) := heap_alloc_new w _
  have hr := h rows[j] (List.getElem_mem hj')
  have e : (rows.map fun r => r.2.2).getD j [] = rows[j].2.2 := by simp [List.getD, hj']
  rw [e]
  refine ⟨rows[j].1, rows[j].2.1, ?_, hr.alloc _⟩
  simp only [World.cell?, hh]
  simp [hj']
theorem nums_new (w : World) (vs : List Int) (t : TypeId) : Nums (w.alloc (.cells (vs.map (Value.int .i64)).toArray t)) w.heap.size vs.length := by
  refine ⟨by simp, fun j hj => ⟨vs[j], ?_⟩⟩
  have hh : (w.alloc (.cells (vs.map (Value.int .i64)).toArray t)).heap[w.heap.size]? = some (.cells (vs.map (Value.int .i64)).toArray t) := heap_alloc_new w _
  simp only [World.cell?, hh]
  simp [hj]

end Go.Proofs.Ytccbcijkahnkkaa
