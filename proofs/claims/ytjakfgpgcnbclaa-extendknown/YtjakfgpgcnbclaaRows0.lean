/- Rows as they are laid. -/
import Derived.Test.YtjakfgpgcnbclaaRefModel
namespace Go.Proofs.Ytjakfgpgcnbclaa
open Go.RowKit
set_option linter.unusedVariables false
theorem lits_new' (w : World) (xs : List Int) (g : Nat) (t : TypeId) (hg : w.heap.size = g) (hb : ∀ x ∈ xs, -2147483648 ≤ x ∧ x ≤ 2147483647) : Lits (w.alloc (.cells (xs.map (Value.int .i32)).toArray t)) (some ⟨g, 0, none⟩) xs := by
  subst hg
  refine ⟨hb, .inr ⟨w.heap.size, 0, rfl, by simp, fun j hj => ?_⟩⟩
  rw [Nat.zero_add, row_cell (World.alloc_heap_new w _) j]
  simp [hj, List.getD]
theorem bools_new' (w : World) (xs : List Bool) (g : Nat) (t : TypeId) (hg : w.heap.size = g) : Bools (w.alloc (.cells (xs.map Value.bool).toArray t)) (some ⟨g, 0, none⟩) xs := by
  subst hg
  refine .inr ⟨w.heap.size, 0, rfl, by simp, fun j hj => ?_⟩
  rw [Nat.zero_add, row_cell (World.alloc_heap_new w _) j]
  simp [hj, List.getD]
theorem Cls.zero (w : World) (a : Option Addr) : Cls w a [] := ⟨fun c hc => (by cases hc), Or.inl rfl⟩
theorem Lits.alloc {w : World} {a : Option Addr} {xs : List Int} (h : Lits w a xs) (o : Obj) : Lits (w.alloc o) a xs := h.below (below_box w o)
theorem Bools.alloc {w : World} {a : Option Addr} {xs : List Bool} (h : Bools w a xs) (o : Obj) : Bools (w.alloc o) a xs := h.below (below_box w o)
theorem Cls.alloc {w : World} {a : Option Addr} {xs : List (List Int)} (h : Cls w a xs) (o : Obj) : Cls (w.alloc o) a xs := h.below (below_box w o)
theorem cls_new' (w : World) (g : Nat) (t : TypeId) (hg : w.heap.size = g) (rows : List (Option Addr × Nat × List Int)) (h : ∀ r ∈ rows, Lits w r.1 r.2.2 ∧ r.2.2.length ≤ 35184372088832) :
    Cls (w.alloc (.cells (rows.map fun r => Value.slice r.1 r.2.2.length r.2.1).toArray t)) (some ⟨g, 0, none⟩) (rows.map fun r => r.2.2) := by
  subst hg
  refine ⟨fun c hc => ?_, .inr ⟨w.heap.size, 0, rfl, by simp, fun j hj => ?_⟩⟩
  · obtain ⟨r, hr, rfl⟩ := List.mem_map.1 hc
    exact (h r hr).2
  · have hj' : j < rows.length := by simpa using hj
    have hr := h rows[j] (List.getElem_mem hj')
    have e : (rows.map fun r => r.2.2).getD j [] = rows[j].2.2 := by simp [List.getD, hj']
    rw [e]
    refine ⟨rows[j].1, rows[j].2.1, ?_, hr.1.alloc _⟩
    rw [Nat.zero_add, row_cell (World.alloc_heap_new w _) j]
    simp [hj']
end Go.Proofs.Ytjakfgpgcnbclaa
