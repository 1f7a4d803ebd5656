/- Two clauses' masks compared: the order by which the table is sorted. -/
import Derived.Test.YtccncojidkdddaaRefImp
import Derived.Deep.RegionHeld3
namespace Tru
def cmp1 (x y : Int) : Int := if x < y then -1 else if y < x then 1 else 0
def or2 (x y : Int) : Int := if x = 0 then y else x
def cmpM (p q : Nat × Nat) : Int := or2 (cmp1 p.1 q.1) (cmp1 p.2 q.2)
end Tru
namespace Go.Proofs.Ytccncojidkdddaa
open Go.RowKit
set_option linter.unusedVariables false

set_option maxHeartbeats 1000000 in
theorem isNaN47 (x : Int) (w : World) : Calls Try.prog 47 #[.int .u32 x] w fun e w' => e = .returned (.bool false) ∧ w' = w := by
  have hx : (x != x) = false := by simp
  go_enter Try.func47, Try.ntmps47
  go_wp2
  go_ret
  exact ⟨by simp, rfl⟩

set_option maxHeartbeats 1000000 in
theorem compare40 (x y : Int) (w : World) : Calls Try.prog 40 #[.int .u32 x, .int .u32 y] w fun e w' => e = .returned (.int .i64 (Tru.cmp1 x y)) ∧ w' = w := by
  have C := hid (fun (z : Int) (W : World) => isNaN47 z W)
  unfold Tru.cmp1
  by_cases h1 : x < y
  · rw [if_pos h1]
    go_enter Try.func40, Try.ntmps40
    go_wp2_with (go_at_call 47; refine (C.out _ _).mono ?_; rintro e W2 ⟨rfl, hw⟩; obtain rfl := hw.symm)
    go_ret
    exact ⟨rfl, rfl⟩
  · rw [if_neg h1]
    by_cases h2 : y < x
    · rw [if_pos h2]
      go_enter Try.func40, Try.ntmps40
      go_wp2_with (go_at_call 47; refine (C.out _ _).mono ?_; rintro e W2 ⟨rfl, hw⟩; obtain rfl := hw.symm)
      go_ret
      exact ⟨rfl, rfl⟩
    · rw [if_neg h2]
      go_enter Try.func40, Try.ntmps40
      go_wp2_with (go_at_call 47; refine (C.out _ _).mono ?_; rintro e W2 ⟨rfl, hw⟩; obtain rfl := hw.symm)
      go_ret
      exact ⟨rfl, rfl⟩

set_option maxHeartbeats 1000000 in
theorem or39 (b : Nat) (x y : Int) (w : World) (h0 : w.cell? ⟨b, 0, none⟩ = some (.int .i64 x)) (h1 : w.cell? ⟨b, 1, none⟩ = some (.int .i64 y)) :
    Calls Try.prog 39 #[.slice (some ⟨b, 0, none⟩) 2 2] w fun e w' => e = .returned (.int .i64 (Tru.or2 x y)) ∧ w' = w := by
  by_cases hx : x = 0
  · have hx' : (x != 0) = false := by simp [hx]
    have HO := hid (show Tru.or2 x y = y by unfold Tru.or2; rw [if_pos hx])
    by_cases hy : y = 0
    · have hy' : (y != 0) = false := by simp [hy]
      have HY := hid hy
      clear hx hy
      go_enter Try.func39, Try.ntmps39
      go_wp2
      refine wp_loop_rounds 3 ?_
      rw [rounds_succ]
      go_wp2
      rw [rounds_succ]
      go_wp2
      rw [rounds_succ]
      go_wp2
      go_ret
      exact ⟨ret_num (by rw [HO.out, HY.out]), rfl⟩
    · have hy' : (y != 0) = true := by simp [hy]
      clear hx hy
      go_enter Try.func39, Try.ntmps39
      go_wp2
      refine wp_loop_rounds 2 ?_
      rw [rounds_succ]
      go_wp2
      rw [rounds_succ]
      go_wp2
      go_ret
      exact ⟨ret_num HO.out.symm, rfl⟩
  · have hx' : (x != 0) = true := by simp [hx]
    have HO := hid (show Tru.or2 x y = x by unfold Tru.or2; rw [if_neg hx])
    clear hx
    go_enter Try.func39, Try.ntmps39
    go_wp2
    refine wp_loop_rounds 1 ?_
    rw [rounds_succ]
    go_wp2
    go_ret
    exact ⟨ret_num HO.out.symm, rfl⟩

set_option maxRecDepth 100000 in
set_option maxHeartbeats 4000000 in
theorem less38 (p q : Nat × Nat) (w : World) :
    Calls Try.prog 38 #[.agg #[.int .u32 p.1, .int .u32 p.2], .agg #[.int .u32 q.1, .int .u32 q.2]] w fun e w' => e = .returned (.int .i64 (Tru.cmpM p q)) ∧ w' = (((w.alloc (.cells #[.int .u32 p.1, .int .u32 p.2] 56)).alloc (.cells #[.int .u32 q.1, .int .u32 q.2] 56)).alloc (.cells #[.int .i64 (Tru.cmp1 p.1 q.1), .int .i64 (Tru.cmp1 p.2 q.2)] 3)).drewN 1 := by
  obtain ⟨p1, p2⟩ := p
  obtain ⟨q1, q2⟩ := q
  have HM := hid (show Tru.cmpM (p1, p2) (q1, q2) = Tru.or2 (Tru.cmp1 p1 q1) (Tru.cmp1 p2 q2) from rfl)
  have C1 := hid (fun (W : World) => compare40 (p1 : Int) (q1 : Int) W)
  have C2 := hid (fun (W : World) => compare40 (p2 : Int) (q2 : Int) W)
  dsimp only
  generalize Tru.cmp1 (p1 : Int) (q1 : Int) = r1 at C1 HM
  generalize Tru.cmp1 (p2 : Int) (q2 : Int) = r2 at C2 HM
  obtain ⟨W2, hW2⟩ : ∃ W2, (w.alloc (.cells #[.int .u32 p1, .int .u32 p2] 56)).alloc (.cells #[.int .u32 q1, .int .u32 q2] 56) = W2 := ⟨_, rfl⟩
  have s2 : W2.heap.size = w.heap.size + 1 + 1 := by rw [← hW2]; simp
  have b0 : W2.heap[w.heap.size]? = some (.cells #[.int .u32 p1, .int .u32 p2] 56 (0, 0)) := by rw [← hW2, Below.heap_alloc _ _ _ (by simp)]; exact World.alloc_heap_new w _
  have b1 : W2.heap[w.heap.size + 1]? = some (.cells #[.int .u32 q1, .int .u32 q2] 56 (0, 0)) := by rw [← hW2]; exact heap_new2 w _ _
  have S1 : ∀ W : World, W.heap[w.heap.size]? = W2.heap[w.heap.size]? → W.heap[w.heap.size + 1]? = W2.heap[w.heap.size + 1]? → W.cell? ⟨w.heap.size, 0, none⟩ = some (.int .u32 p1) ∧ W.cell? ⟨w.heap.size, 1, none⟩ = some (.int .u32 p2) ∧ W.cell? ⟨w.heap.size + 1, 0, none⟩ = some (.int .u32 q1) ∧ W.cell? ⟨w.heap.size + 1, 1, none⟩ = some (.int .u32 q2) := fun W h0 h1 => ⟨row_cell (h0.trans b0) 0, row_cell (h0.trans b0) 1, row_cell (h1.trans b1) 0, row_cell (h1.trans b1) 1⟩
  have KA := hid (S1 W2.drew rfl rfl)
  have KB := hid (S1 (W2.alloc (.cells #[.int .i64 r1, .int .i64 r2] 3)).drew (Below.heap_alloc W2 _ _ (by omega)) (Below.heap_alloc W2 _ _ (by omega)))
  have hc0 : ((W2.alloc (.cells #[.int .i64 r1, .int .i64 r2] 3)).drew).heap[W2.heap.size]? = some (.cells #[.int .i64 r1, .int .i64 r2] 3 (0, 0)) := World.alloc_heap_new W2 _
  have C39 := hid (or39 W2.heap.size r1 r2 _ (row_cell hc0 0) (row_cell hc0 1))
  have HW := hid hW2
  clear hc0 S1 b0 b1 s2 hW2
  go_enter Try.func38, Try.ntmps38
  go_wp2
  rw [HW.out]
  go_region_held3 (fun W => W.cell? ⟨w.heap.size, 0, none⟩ = some (.int .u32 p1) ∧ W.cell? ⟨w.heap.size, 1, none⟩ = some (.int .u32 p2) ∧ W.cell? ⟨w.heap.size + 1, 0, none⟩ = some (.int .u32 q1) ∧ W.cell? ⟨w.heap.size + 1, 1, none⟩ = some (.int .u32 q2))
    (first | exact KA.out | exact KB.out)
    (first
      | (go_at_call_of 40 (Value.int IntKind.u32 (p1 : Int)); refine (C1.out _).mono ?_; rintro e W7 ⟨rfl, rfl⟩)
      | (go_at_call 40; refine (C2.out _).mono ?_; rintro e W8 ⟨rfl, rfl⟩)
      | (go_at_call 39; refine C39.out.mono ?_; rintro e W9 ⟨rfl, rfl⟩))
  go_wp2
  go_ret
  exact ⟨ret_num HM.out.symm, by rw [HW.out]; rfl⟩
end Go.Proofs.Ytccncojidkdddaa
