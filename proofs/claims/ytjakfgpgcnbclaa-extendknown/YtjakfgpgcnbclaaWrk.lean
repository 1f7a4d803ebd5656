/- The statements' own trial; rows of witnesses as they are laid. -/
import Derived.Test.YtjakfgpgcnbclaaPrg
namespace Ext
def outL (n : Nat) (m : List Bool) (s : List Wt) : List Bool := if okS n s then ext m s else []
def outE (n : Nat) (s : List Wt) : Int := if okS n s then 0 else 4
theorem outL_len {n : Nat} {m : List Bool} (s : List Wt) (h : m.length = n) : (outL n m s).length ≤ n := by
  unfold outL; split
  · rw [ext_len, h]; exact Nat.le_refl _
  · exact Nat.zero_le _
theorem two_at {α β : Type} (f g : α → β) : ∀ (rows : List α) (j : Nat) (h : j < rows.length), (rows.flatMap fun r => [f r, g r])[j * 2]? = some (f rows[j]) ∧ (rows.flatMap fun r => [f r, g r])[j * 2 + 1]? = some (g rows[j])
  | [], j, h => by simp at h
  | r :: rows, 0, h => by simp
  | r :: rows, j + 1, h => by
    have := two_at f g rows j (by simpa using h)
    simp only [List.flatMap_cons, List.cons_append, List.nil_append, List.getElem_cons_succ]
    rw [show (j + 1) * 2 = j * 2 + 1 + 1 by omega, List.getElem?_cons_succ, List.getElem?_cons_succ, show j * 2 + 1 + 1 + 1 = (j * 2 + 1) + 1 + 1 by omega, List.getElem?_cons_succ, List.getElem?_cons_succ]
    exact this
end Ext
namespace Go.Proofs.Ytjakfgpgcnbclaa
open Go.RowKit
set_option linter.unusedVariables false
set_option linter.unusedSimpArgs false

theorem ExtOut.out {w : World} {n : Nat} {m : List Bool} {s : List Ext.Wt} {e : Ending} {w' : World} (h : ExtOut w n m s e w') (hm : m.length = n) :
    ∃ o c, e = .returned (.tuple #[.slice o (Ext.outL n m s).length c, .int .i64 (Ext.outE n s)]) ∧ MOwn w.heap.size w' o (Ext.outL n m s).length (Ext.outL n m s) := by
  rcases h with ⟨h, rfl⟩ | ⟨h, o, c, rfl, hM⟩
  · exact ⟨none, 0, by simp [Ext.outL, Ext.outE, h], by simp [Ext.outL, h]; exact ⟨rfl, .inl rfl⟩⟩
  · have hl : (Ext.outL n m s) = Ext.ext m s := by simp [Ext.outL, h]
    have he : Ext.outE n s = 0 := by simp [Ext.outE, h]
    have hn : (Ext.ext m s).length = n := (Ext.ext_len m s).trans hm
    rw [hl, he, hn]
    exact ⟨o, c, rfl, hM⟩
theorem wits_new (w : World) (g : Nat) (t : TypeId) (hg : w.heap.size = g) (rows : List (Ext.Wt × (Option Addr × Nat) × (Option Addr × Nat))) (h : ∀ r ∈ rows, (Lits w r.2.1.1 r.1.1 ∧ r.1.1.length ≤ 35184372088832) ∧ Lits w r.2.2.1 r.1.2 ∧ r.1.2.length ≤ 35184372088832) :
    Wits (w.alloc (.cells (rows.flatMap fun r => [Value.slice r.2.1.1 r.1.1.length r.2.1.2, Value.slice r.2.2.1 r.1.2.length r.2.2.2]).toArray t)) (some ⟨g, 0, none⟩) (rows.map fun r => r.1) := by
  subst hg
  refine .inr ⟨w.heap.size, 0, rfl, fun j hj => ?_⟩
  have hj' : j < rows.length := by simpa using hj
  have hr := h rows[j] (List.getElem_mem hj')
  have e : (rows.map fun r => r.1).getD j ([], []) = rows[j].1 := by simp [List.getD, hj']
  obtain ⟨t0, t1⟩ := Ext.two_at (fun r : Ext.Wt × (Option Addr × Nat) × (Option Addr × Nat) => Value.slice r.2.1.1 r.1.1.length r.2.1.2) (fun r => Value.slice r.2.2.1 r.1.2.length r.2.2.2) rows j hj'
  rw [e]
  refine ⟨rows[j].2.1.1, rows[j].2.1.2, rows[j].2.2.1, rows[j].2.2.2, ?_, ?_, hr.1.1.alloc _, hr.2.1.alloc _, hr.1.2, hr.2.2⟩
  · rw [Nat.zero_add, row_cell (World.alloc_heap_new w _)]
    simpa using t0
  · rw [Nat.zero_add, row_cell (World.alloc_heap_new w _)]
    simpa using t1
theorem Wits.alloc {w : World} {a : Option Addr} {s : List Ext.Wt} (h : Wits w a s) (o : Obj) : Wits (w.alloc o) a s := h.below (below_box w o)
theorem works_two : Ext.outL 2 [false, false] [([2], [1, 2]), ([1, -2], [1])] = [true, false] ∧ Ext.outE 2 [([2], [1, 2]), ([1, -2], [1])] = 0 := by decide
theorem works_one : Ext.outL 2 [false, false] [([2], [1, 2])] = [false, true] ∧ Ext.outE 2 [([2], [1, 2])] = 0 := by decide

set_option maxRecDepth 100000 in
set_option maxHeartbeats 8000000 in
theorem works10 (w : World) : Calls Try.prog 10 #[] w fun e w' => e = .returned (.bool true) ∧ Below w.heap.size w w' := by
  go_enter Try.func10, Try.ntmps10
  go_wp2_with fail
  have l1 := lits_new' (w.alloc (.cells #[.bool false, .bool false] 4)) [2] (w.heap.size + 1) 47 (by simp) (by decide)
  have l2 := lits_new' ((w.alloc (.cells #[.bool false, .bool false] 4)).alloc (.cells #[.int .i32 2] 47)) [1, 2] (w.heap.size + 1 + 1) 47 (by simp) (by decide)
  have l3 := lits_new' (((w.alloc (.cells #[.bool false, .bool false] 4)).alloc (.cells #[.int .i32 2] 47)).alloc (.cells #[.int .i32 1, .int .i32 2] 47)) [1, -2] (w.heap.size + 1 + 1 + 1) 47 (by simp) (by decide)
  have l4 := lits_new' ((((w.alloc (.cells #[.bool false, .bool false] 4)).alloc (.cells #[.int .i32 2] 47)).alloc (.cells #[.int .i32 1, .int .i32 2] 47)).alloc (.cells #[.int .i32 1, .int .i32 (-2)] 47)) [1] (w.heap.size + 1 + 1 + 1 + 1) 47 (by simp) (by decide)
  have lm := bools_new' w [false, false] w.heap.size 4 rfl
  have hw1 := wits_new (((((w.alloc (.cells #[.bool false, .bool false] 4)).alloc (.cells #[.int .i32 2] 47)).alloc (.cells #[.int .i32 1, .int .i32 2] 47)).alloc (.cells #[.int .i32 1, .int .i32 (-2)] 47)).alloc (.cells #[.int .i32 1] 47)) (w.heap.size + 1 + 1 + 1 + 1 + 1) 42 (by simp)
    [(([2], [1, 2]), (some ⟨w.heap.size + 1, 0, none⟩, 1), (some ⟨w.heap.size + 1 + 1, 0, none⟩, 2)), (([1, -2], [1]), (some ⟨w.heap.size + 1 + 1 + 1, 0, none⟩, 2), (some ⟨w.heap.size + 1 + 1 + 1 + 1, 0, none⟩, 1))] (by
      intro r hr
      simp only [List.mem_cons, List.not_mem_nil, or_false] at hr
      rcases hr with rfl | rfl
      · exact ⟨⟨((l1.alloc _).alloc _).alloc _, by simp⟩, (l2.alloc _).alloc _, by simp⟩
      · exact ⟨⟨l3.alloc _, by simp⟩, l4, by simp⟩)
  refine (ext7 (some ⟨w.heap.size, 0, none⟩) (some ⟨w.heap.size + 1 + 1 + 1 + 1 + 1, 0, none⟩) 2 2 2 2 [false, false] [([2], [1, 2]), ([1, -2], [1])] _ rfl (by omega) (((((lm.alloc _).alloc _).alloc _).alloc _).alloc _) rfl (by omega) hw1).mono ?_
  rintro e w1 ⟨ho, hb⟩
  obtain ⟨o1, c1, rfl, hM⟩ := ho.out rfl
  rw [works_two.1, works_two.2] at *
  have B1 := hid (show Below w.heap.size w w1 from ((((((((Below.refl _ w).alloc (Nat.le_refl _) _).alloc (by simp) _).alloc (by simp; omega) _).alloc (by simp; omega) _).alloc (by simp; omega) _).alloc (by simp; omega) _)).trans (hb.mono (by simp; omega)))
  have HB1 := hid hM.bools
  clear l1 l2 l3 l4 lm hw1 hb hM ho
  rw [show ([true, false] : List Bool).length = 2 from rfl]
  go_wp2_with fail
  have l1 := lits_new' (w1.alloc (.cells #[.bool false, .bool false] 4)) [2] (w1.heap.size + 1) 47 (by simp) (by decide)
  have l2 := lits_new' ((w1.alloc (.cells #[.bool false, .bool false] 4)).alloc (.cells #[.int .i32 2] 47)) [1, 2] (w1.heap.size + 1 + 1) 47 (by simp) (by decide)
  have lm := bools_new' w1 [false, false] w1.heap.size 4 rfl
  have hw1 := wits_new (((w1.alloc (.cells #[.bool false, .bool false] 4)).alloc (.cells #[.int .i32 2] 47)).alloc (.cells #[.int .i32 1, .int .i32 2] 47)) (w1.heap.size + 1 + 1 + 1) 42 (by simp)
    [(([2], [1, 2]), (some ⟨w1.heap.size + 1, 0, none⟩, 1), (some ⟨w1.heap.size + 1 + 1, 0, none⟩, 2))] (by
      intro r hr
      simp only [List.mem_cons, List.not_mem_nil, or_false] at hr
      rcases hr with rfl
      exact ⟨⟨l1.alloc _, by simp⟩, l2, by simp⟩)
  refine (ext7 (some ⟨w1.heap.size, 0, none⟩) (some ⟨w1.heap.size + 1 + 1 + 1, 0, none⟩) 2 2 1 1 [false, false] [([2], [1, 2])] _ rfl (by omega) (((lm.alloc _).alloc _).alloc _) rfl (by omega) hw1).mono ?_
  rintro e w2 ⟨ho, hb⟩
  obtain ⟨o2, c2, rfl, hM⟩ := ho.out rfl
  rw [works_one.1, works_one.2] at *
  have B2 := hid (show Below w1.heap.size w1 w2 from (((((Below.refl _ w1).alloc (Nat.le_refl _) _).alloc (by simp) _).alloc (by simp; omega) _).alloc (by simp; omega) _).trans (hb.mono (by simp; omega)))
  have HB2 := hid hM.bools
  have B12 := hid (B1.out.trans (B2.out.mono B1.out.size))
  clear l1 l2 lm hw1 hb hM ho
  rw [show ([false, true] : List Bool).length = 2 from rfl]
  go_wp2_with fail
  refine (sameModel9 o1 _ 2 2 c1 2 [true, false] [true, false] _ rfl rfl (by omega) (by omega) ((HB1.out.below B2.out).alloc _) (bools_new' w2 [true, false] _ 4 rfl)).mono ?_
  rintro e w4 ⟨rfl, hd4⟩
  have B4 := hid (show Below w2.heap.size w2 w4 from (below_box w2 _).trans (hd4.below'.mono (by simp)))
  clear hd4
  simp only [decide_true]
  go_wp2_with fail
  refine (sameModel9 o2 _ 2 2 c2 2 [false, true] [false, true] _ rfl rfl (by omega) (by omega) ((HB2.out.below B4.out).alloc _) (bools_new' w4 [false, true] _ 4 rfl)).mono ?_
  rintro e w5 ⟨rfl, hd5⟩
  have B5 := hid (show Below w4.heap.size w4 w5 from (below_box w4 _).trans (hd5.below'.mono (by simp)))
  have BF := hid ((B12.out.trans (B4.out.mono B12.out.size)).trans (B5.out.mono (Nat.le_trans B12.out.size B4.out.size)))
  clear hd5
  simp only [decide_true]
  go_wp2
  go_ret
  exact ⟨rfl, BF.out⟩
end Go.Proofs.Ytjakfgpgcnbclaa
