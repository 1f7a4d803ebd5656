/- A new base: its memory. -/
import Derived.Test.YthpebfojkpnojaaRgt
namespace Bas
theorem start_snoc (f : List (List Int)) (c : List Int) (i : Int) : start (f ++ [c]) i = start f i ++ [⟨i + f.length, c, false⟩] := by
  unfold start
  rw [List.zipIdx_append, List.map_append]
  simp
theorem start_ids (f : List (List Int)) (i : Int) : ∀ e ∈ start f i, i ≤ e.id ∧ e.id < i + f.length := by
  intro e he
  unfold start at he
  obtain ⟨⟨c, j⟩, hj, rfl⟩ := List.mem_map.1 he
  have := List.mem_zipIdx hj
  dsimp only
  omega
/-- A base while its clauses come. -/
def part (vars : Int) (cs : List (List Int)) (k : Nat) : S := ⟨vars, cs.length, k, start (cs.take k) 1, [], []⟩
theorem part_zero (vars : Int) (cs : List (List Int)) : part vars cs 0 = ⟨vars, cs.length, 0, [], [], []⟩ := rfl
end Bas
namespace Go.Proofs.Ythpebfojkpnojaa
open Go.RowKit Go.Maps
set_option linter.unusedVariables false
set_option linter.unusedSimpArgs false
theorem alloc_get (w : World) (o : Obj) (k : Nat) : (w.alloc o).heap[k]? = if k = w.heap.size then some o else w.heap[k]? := by
  by_cases h : k = w.heap.size
  · rw [if_pos h, h]; exact heap_alloc_new w o
  · rw [if_neg h]
    rcases Nat.lt_or_ge k w.heap.size with h2 | h2
    · exact (below_box w o).block k h2
    · rw [Array.getElem?_eq_none (by simp; omega), Array.getElem?_eq_none h2]
theorem mp_empty {W : World} {b : Nat} (h : W.heap[b]? = some (.map #[] 0)) : Mp W b 0 (fun _ => none) := by
  obtain ⟨D, ⟨es, cl, hh, r⟩, h2⟩ := Mp.new W
  rw [heap_alloc_new] at hh
  injection hh with hh
  injection hh with h3 h4
  exact ⟨D, ⟨es, cl, by rw [h, h3, h4], r⟩, h2⟩
theorem mr_empty {W : World} {b : Nat} (h : W.heap[b]? = some (.map #[] 0)) : Mr W b 0 (fun _ => none) := by
  obtain ⟨D, ⟨es, cl, hh, r⟩, h2⟩ := Mr.new W
  rw [heap_alloc_new] at hh
  injection hh with hh
  injection hh with h3 h4
  exact ⟨D, ⟨es, cl, by rw [h, h3, h4], r⟩, h2⟩
theorem Bs.new {M : Nat → Prop} {bb bm br gt : Nat} {vars : Int} {cs : List (List Int)} {W : World} (hv : 0 ≤ vars ∧ vars ≤ 1048576) (hb : W.heap[bb]? = some (.cells #[.int .i64 vars, .int .i64 cs.length, .int .i64 0, .map (some bm), .map (some br), .slice none 0 0, .int .i64 0, .slice none 0 0, .slice (some ⟨gt, 0, none⟩) (vars.toNat + 1) (vars.toNat + 1)] 78 (0, 0)))
    (hm : W.heap[bm]? = some (.map #[] 0)) (hr : W.heap[br]? = some (.map #[] 0)) (hg : W.heap[gt]? = some (.cells (madeCells #[.int .i32 0] (vars.toNat + 1)) 45 (0, 0))) (hne : bm ≠ br) (m1 : M bb) (m2 : M bm) (m3 : M br) (m4 : M gt) : Bs M bb 0 (Bas.part vars cs 0) W := by
  refine ⟨hv, bm, br, 0, 0, fun _ => none, fun _ => none, .slice none 0 0, .slice none 0 0, .slice (some ⟨gt, 0, none⟩) (vars.toNat + 1) (vars.toNat + 1), [], [], fun _ => 0, fun _ => [], fun _ => .slice none 0 0, hb, m1, m2, m3, hne, ⟨mp_empty hm, Nat.le_refl _, fun id _ => rfl⟩, ⟨mr_empty hr, Nat.le_refl _, (fun l v h => (by cases h)), (fun l _ => rfl), (fun l l' v v' h => (by cases h))⟩, ⟨⟨World.ownsRow_nil _ _ _ _, (fun g h => (by cases h))⟩, rfl, (fun q h => (by cases h))⟩, ⟨⟨World.ownsRow_nil _ _ _ _, (fun g h => (by cases h))⟩, rfl, (fun q h => (by cases h))⟩, ?_, ?_⟩
  · refine own_mk (Nat.zero_le _) hg (Nat.le_refl _) (by unfold maxLen; have := hv.2; omega) (by rw [size_madeCells]) ?_
    rw [toList_madeCells_one, List.take_of_length_le (by simp)]
    rfl
  · intro g h
    cases h
    exact m4
end Go.Proofs.Ythpebfojkpnojaa
