/- How many models there are, by the document's own function. -/
import Derived.Test.YthpebfojkpnojaaGreatJau
import Derived.Deep.RegionHeld3
import Derived.Test.YthpebfojkpnojaaGreatProg
import Derived.Shelf.SlGeneric
import Derived.Ground.SlsfProg
import Derived.Shelf.SlSortCmp.NoneTotal
/- How many models there are, by the document's own function. -/
namespace Go.Proofs.YthpebfojkpnojaaGreat.Tr
open Go.RowKit
set_option linter.unusedVariables false

end Go.Proofs.YthpebfojkpnojaaGreat.Tr

/- Whether a clause follows, by the document's own function. -/
namespace Tru
def goodC (u : Nat) (c : List Int) : Bool := c.all (fun l => decide (1 ≤ Cnt.vr l) && decide (Cnt.vr l ≤ u))
/-- Whether each of the first j models that makes the clauses true makes the clause true. -/
def impTo (cs : List (List Int)) (u : Nat) (c : List Int) : Nat → Bool
  | 0 => true
  | j + 1 => impTo cs u c j && (!sat cs u j || Cnt.val c (model u j))
theorem impTo_false (cs : List (List Int)) (u : Nat) (c : List Int) (j : Nat) (h : (!sat cs u j || Cnt.val c (model u j)) = false) : ∀ N, j < N → impTo cs u c N = false := by
  intro N
  induction N with
  | zero => intro h; omega
  | succ N ih =>
    intro hN
    rw [impTo]
    by_cases hj : j = N
    · subst hj; rw [h, Bool.and_false]
    · rw [ih (by omega)]; rfl
theorem goodC_true (u : Nat) (c : List Int) : goodC u c = true ↔ ∀ l ∈ c, 1 ≤ Cnt.vr l ∧ Cnt.vr l ≤ u := by
  unfold goodC; rw [List.all_eq_true]; simp
theorem goodC_at (u : Nat) (c : List Int) (k : Nat) (h : k < c.length) (hb : Cnt.vr (c.getD k 0) < 1 ∨ (u : Int) < Cnt.vr (c.getD k 0)) : goodC u c = false := by
  cases e : goodC u c
  · rfl
  · have := (goodC_true u c).1 e _ (Cnt.getD_mem c k h); omega
theorem vr_zero (x : Int) : Cnt.vr x < 1 ↔ x = 0 := by unfold Cnt.vr; split <;> omega
end Tru
namespace Go.Proofs.YthpebfojkpnojaaGreat.Tr
open Go.RowKit
set_option linter.unusedVariables false

/-- Whether the clause follows, told. -/
def ImpOut (u : Nat) (cs : List (List Int)) (c : List Int) (e : Ending) : Prop := e = .returned (.tuple #[.bool (Tru.goodC u c && Tru.impTo cs u c (2 ^ u)), .int .i64 (if Tru.goodC u c then 0 else 4)])
theorem ImpOut.bad {u : Nat} {cs : List (List Int)} {c : List Int} (h : Tru.goodC u c = false) : ImpOut u cs c (.returned (.tuple #[.bool false, .int .i64 4])) := by
  unfold ImpOut; rw [h]; rfl
theorem ImpOut.good {u : Nat} {cs : List (List Int)} {c : List Int} {b : Bool} (h : Tru.goodC u c = true) (hb : Tru.impTo cs u c (2 ^ u) = b) : ImpOut u cs c (.returned (.tuple #[.bool b, .int .i64 0])) := by
  unfold ImpOut; rw [h, hb]; rfl
theorem Far.drewN {w : World} {v0 v1 : Value} {W : World} (h : Far w v0 v1 W) (q : Nat) : Far w v0 v1 (W.drewN q) := ((Drawn.refl W).drewN q).below h

end Go.Proofs.YthpebfojkpnojaaGreat.Tr

/- Two clauses' masks compared: the order by which the table is sorted. -/
namespace Tru
def cmp1 (x y : Int) : Int := if x < y then -1 else if y < x then 1 else 0
def or2 (x y : Int) : Int := if x = 0 then y else x
def cmpM (p q : Nat × Nat) : Int := or2 (cmp1 p.1 q.1) (cmp1 p.2 q.2)
end Tru
namespace Go.Proofs.YthpebfojkpnojaaGreat.Tr
open Go.RowKit
set_option linter.unusedVariables false

set_option maxHeartbeats 1000000 in
theorem isNaN47 (x : Int) (w : World) : Calls Tryz.prog 117 #[.int .u32 x] w fun e w' => e = .returned (.bool false) ∧ w' = w := by
  have hx : (x != x) = false := by simp
  go_enter Tryz.func117, Tryz.ntmps117
  go_wp2
  go_ret
  exact ⟨by simp, rfl⟩

set_option maxHeartbeats 1000000 in
theorem compare40 (x y : Int) (w : World) : Calls Tryz.prog 106 #[.int .u32 x, .int .u32 y] w fun e w' => e = .returned (.int .i64 (Tru.cmp1 x y)) ∧ w' = w := by
  have C := hid (fun (z : Int) (W : World) => isNaN47 z W)
  unfold Tru.cmp1
  by_cases h1 : x < y
  · rw [if_pos h1]
    go_enter Tryz.func106, Tryz.ntmps106
    go_wp2_with (go_at_call 117; refine (C.out _ _).mono ?_; rintro e W2 ⟨rfl, hw⟩; obtain rfl := hw.symm)
    go_ret
    exact ⟨rfl, rfl⟩
  · rw [if_neg h1]
    by_cases h2 : y < x
    · rw [if_pos h2]
      go_enter Tryz.func106, Tryz.ntmps106
      go_wp2_with (go_at_call 117; refine (C.out _ _).mono ?_; rintro e W2 ⟨rfl, hw⟩; obtain rfl := hw.symm)
      go_ret
      exact ⟨rfl, rfl⟩
    · rw [if_neg h2]
      go_enter Tryz.func106, Tryz.ntmps106
      go_wp2_with (go_at_call 117; refine (C.out _ _).mono ?_; rintro e W2 ⟨rfl, hw⟩; obtain rfl := hw.symm)
      go_ret
      exact ⟨rfl, rfl⟩

set_option maxHeartbeats 1000000 in
theorem or39 (b : Nat) (x y : Int) (w : World) (h0 : w.cell? ⟨b, 0, none⟩ = some (.int .i64 x)) (h1 : w.cell? ⟨b, 1, none⟩ = some (.int .i64 y)) :
    Calls Tryz.prog 105 #[.slice (some ⟨b, 0, none⟩) 2 2] w fun e w' => e = .returned (.int .i64 (Tru.or2 x y)) ∧ w' = w := by
  by_cases hx : x = 0
  · have hx' : (x != 0) = false := by simp [hx]
    have HO := hid (show Tru.or2 x y = y by unfold Tru.or2; rw [if_pos hx])
    by_cases hy : y = 0
    · have hy' : (y != 0) = false := by simp [hy]
      have HY := hid hy
      clear hx hy
      go_enter Tryz.func105, Tryz.ntmps105
      go_wp2
      refine wp_loop_rounds 3 ?_
      rw [rounds_succ]
      go_wp2
      rw [rounds_succ]
      go_wp2
      rw [rounds_succ]
      go_wp2
      go_ret
      exact ⟨ret_num (by rw [HO.out, HY.out]), rfl⟩
    · have hy' : (y != 0) = true := by simp [hy]
      clear hx hy
      go_enter Tryz.func105, Tryz.ntmps105
      go_wp2
      refine wp_loop_rounds 2 ?_
      rw [rounds_succ]
      go_wp2
      rw [rounds_succ]
      go_wp2
      go_ret
      exact ⟨ret_num HO.out.symm, rfl⟩
  · have hx' : (x != 0) = true := by simp [hx]
    have HO := hid (show Tru.or2 x y = x by unfold Tru.or2; rw [if_neg hx])
    clear hx
    go_enter Tryz.func105, Tryz.ntmps105
    go_wp2
    refine wp_loop_rounds 1 ?_
    rw [rounds_succ]
    go_wp2
    go_ret
    exact ⟨ret_num HO.out.symm, rfl⟩

set_option maxRecDepth 100000 in
set_option maxHeartbeats 4000000 in
theorem less38 (p q : Nat × Nat) (w : World) :
    Calls Tryz.prog 104 #[.agg #[.int .u32 p.1, .int .u32 p.2], .agg #[.int .u32 q.1, .int .u32 q.2]] w fun e w' => e = .returned (.int .i64 (Tru.cmpM p q)) ∧ w' = (((w.alloc (.cells #[.int .u32 p.1, .int .u32 p.2] 122)).alloc (.cells #[.int .u32 q.1, .int .u32 q.2] 122)).alloc (.cells #[.int .i64 (Tru.cmp1 p.1 q.1), .int .i64 (Tru.cmp1 p.2 q.2)] 3)).drewN 1 := by
  obtain ⟨p1, p2⟩ := p
  obtain ⟨q1, q2⟩ := q
  have HM := hid (show Tru.cmpM (p1, p2) (q1, q2) = Tru.or2 (Tru.cmp1 p1 q1) (Tru.cmp1 p2 q2) from rfl)
  have C1 := hid (fun (W : World) => compare40 (p1 : Int) (q1 : Int) W)
  have C2 := hid (fun (W : World) => compare40 (p2 : Int) (q2 : Int) W)
  dsimp only
  generalize Tru.cmp1 (p1 : Int) (q1 : Int) = r1 at C1 HM
  generalize Tru.cmp1 (p2 : Int) (q2 : Int) = r2 at C2 HM
  obtain ⟨W2, hW2⟩ : ∃ W2, (w.alloc (.cells #[.int .u32 p1, .int .u32 p2] 122)).alloc (.cells #[.int .u32 q1, .int .u32 q2] 122) = W2 := ⟨_, rfl⟩
  have s2 : W2.heap.size = w.heap.size + 1 + 1 := by rw [← hW2]; simp
  have b0 : W2.heap[w.heap.size]? = some (.cells #[.int .u32 p1, .int .u32 p2] 122 (0, 0)) := by rw [← hW2, Below.heap_alloc _ _ _ (by simp)]; exact World.alloc_heap_new w _
  have b1 : W2.heap[w.heap.size + 1]? = some (.cells #[.int .u32 q1, .int .u32 q2] 122 (0, 0)) := by rw [← hW2]; exact heap_new2 w _ _
  have S1 : ∀ W : World, W.heap[w.heap.size]? = W2.heap[w.heap.size]? → W.heap[w.heap.size + 1]? = W2.heap[w.heap.size + 1]? → W.cell? ⟨w.heap.size, 0, none⟩ = some (.int .u32 p1) ∧ W.cell? ⟨w.heap.size, 1, none⟩ = some (.int .u32 p2) ∧ W.cell? ⟨w.heap.size + 1, 0, none⟩ = some (.int .u32 q1) ∧ W.cell? ⟨w.heap.size + 1, 1, none⟩ = some (.int .u32 q2) := fun W h0 h1 => ⟨row_cell (h0.trans b0) 0, row_cell (h0.trans b0) 1, row_cell (h1.trans b1) 0, row_cell (h1.trans b1) 1⟩
  have KA := hid (S1 W2.drew rfl rfl)
  have KB := hid (S1 (W2.alloc (.cells #[.int .i64 r1, .int .i64 r2] 3)).drew (Below.heap_alloc W2 _ _ (by omega)) (Below.heap_alloc W2 _ _ (by omega)))
  have hc0 : ((W2.alloc (.cells #[.int .i64 r1, .int .i64 r2] 3)).drew).heap[W2.heap.size]? = some (.cells #[.int .i64 r1, .int .i64 r2] 3 (0, 0)) := World.alloc_heap_new W2 _
  have C39 := hid (or39 W2.heap.size r1 r2 _ (row_cell hc0 0) (row_cell hc0 1))
  have HW := hid hW2
  clear hc0 S1 b0 b1 s2 hW2
  go_enter Tryz.func104, Tryz.ntmps104
  go_wp2
  rw [HW.out]
  go_region_held3 (fun W => W.cell? ⟨w.heap.size, 0, none⟩ = some (.int .u32 p1) ∧ W.cell? ⟨w.heap.size, 1, none⟩ = some (.int .u32 p2) ∧ W.cell? ⟨w.heap.size + 1, 0, none⟩ = some (.int .u32 q1) ∧ W.cell? ⟨w.heap.size + 1, 1, none⟩ = some (.int .u32 q2))
    (first | exact KA.out | exact KB.out)
    (first
      | (go_at_call_of 106 (Value.int IntKind.u32 (p1 : Int)); refine (C1.out _).mono ?_; rintro e W7 ⟨rfl, rfl⟩)
      | (go_at_call 106; refine (C2.out _).mono ?_; rintro e W8 ⟨rfl, rfl⟩)
      | (go_at_call 105; refine C39.out.mono ?_; rintro e W9 ⟨rfl, rfl⟩))
  go_wp2
  go_ret
  exact ⟨ret_num HM.out.symm, by rw [HW.out]; rfl⟩
end Go.Proofs.YthpebfojkpnojaaGreat.Tr

/- slices.SortFunc at masks, laid at this program's numbers. -/
namespace Go.Proofs
open Go.Shelf
def Tryz.sortL_ren : Go.Shelf.Ren := ⟨fun | 6 => 103 | 15 => 115 | 14 => 116 | 28 => 132 | 29 => 133 | 20 => 134 | 21 => 135 | 22 => 136 | 23 => 137 | 24 => 138 | 25 => 139 | 26 => 140 | 27 => 141 | 46 => 153 | 47 => 148 | 48 => 149 | 49 => 154 | 50 => 155 | 57 => 162 | n => n, fun | 22 => 147 | 24 => 122 | 25 => 151 | 3 => 3 | 39 => 155 | 0 => 0 | 53 => 120 | 55 => 183 | 4 => 4 | 46 => 174 | 45 => 173 | 50 => 179 | 5 => 5 | 9 => 9 | 66 => 193 | 70 => 197 | 76 => 203 | 77 => 204 | n => n, fun | n => n⟩
theorem Tryz.sortL : Go.Proofs.SlLaysF0.n6 Tryz.prog Tryz.sortL_ren := {
  mixed := by kernel_rfl
  f6 := ⟨Tryz.f103.name, by decide, Tryz.func103.trans (congrArg some (by kernel_rfl))⟩
  f14 := ⟨Tryz.f116.name, by decide, Tryz.func116.trans (congrArg some (by kernel_rfl))⟩
  f15 := Tryz.func115.trans (congrArg some (by kernel_rfl))
  f20 := ⟨Tryz.f134.name, by decide, Tryz.func134.trans (congrArg some (by kernel_rfl))⟩
  f21 := ⟨Tryz.f135.name, by decide, Tryz.func135.trans (congrArg some (by kernel_rfl))⟩
  f22 := ⟨Tryz.f136.name, by decide, Tryz.func136.trans (congrArg some (by kernel_rfl))⟩
  f23 := ⟨Tryz.f137.name, by decide, Tryz.func137.trans (congrArg some (by kernel_rfl))⟩
  f24 := ⟨Tryz.f138.name, by decide, Tryz.func138.trans (congrArg some (by kernel_rfl))⟩
  f25 := ⟨Tryz.f139.name, by decide, Tryz.func139.trans (congrArg some (by kernel_rfl))⟩
  f26 := ⟨Tryz.f140.name, by decide, Tryz.func140.trans (congrArg some (by kernel_rfl))⟩
  f27 := ⟨Tryz.f141.name, by decide, Tryz.func141.trans (congrArg some (by kernel_rfl))⟩
  f28 := Tryz.func132.trans (congrArg some (by kernel_rfl))
  f29 := Tryz.func133.trans (congrArg some (by kernel_rfl))
  f46 := ⟨Tryz.f153.name, by decide, Tryz.func153.trans (congrArg some (by kernel_rfl))⟩
  f47 := Tryz.func148.trans (congrArg some (by kernel_rfl))
  f48 := Tryz.func149.trans (congrArg some (by kernel_rfl))
  f49 := ⟨Tryz.f154.name, by decide, Tryz.func154.trans (congrArg some (by kernel_rfl))⟩
  f50 := ⟨Tryz.f155.name, by decide, Tryz.func155.trans (congrArg some (by kernel_rfl))⟩
  f57 := ⟨Tryz.f162.name, by decide, Tryz.func162.trans (congrArg some (by kernel_rfl))⟩
  t0 := Tryz.underlying0
  a0 := Tryz.isAgg0
  z0 := Tryz.sizeOf0
  v0 := Tryz.zeroValue0
  t3 := Tryz.underlying3
  a3 := Tryz.isAgg3
  z3 := Tryz.sizeOf3
  v3 := Tryz.zeroValue3
  t4 := Tryz.underlying4
  a4 := Tryz.isAgg4
  z4 := Tryz.sizeOf4
  v4 := Tryz.zeroValue4
  t5 := Tryz.underlying5
  a5 := Tryz.isAgg5
  z5 := Tryz.sizeOf5
  v5 := Tryz.zeroValue5
  t9 := Tryz.underlying9
  a9 := Tryz.isAgg9
  z9 := Tryz.sizeOf9
  v9 := Tryz.zeroValue9
  t22 := Tryz.underlying147
  a22 := Tryz.isAgg147
  z22 := Tryz.sizeOf147
  v22 := Tryz.zeroValue147
  t25 := Tryz.underlying151
  a25 := Tryz.isAgg151
  z25 := Tryz.sizeOf151
  v25 := Tryz.zeroValue151
  t39 := Tryz.underlying155
  a39 := Tryz.isAgg155
  z39 := Tryz.sizeOf155
  v39 := Tryz.zeroValue155
  t45 := Tryz.underlying173
  a45 := Tryz.isAgg173
  z45 := Tryz.sizeOf173
  v45 := Tryz.zeroValue173
  t46 := Tryz.underlying174
  a46 := Tryz.isAgg174
  z46 := Tryz.sizeOf174
  v46 := Tryz.zeroValue174
  t50 := Tryz.underlying179
  a50 := Tryz.isAgg179
  z50 := Tryz.sizeOf179
  v50 := Tryz.zeroValue179
  t53 := Tryz.underlying120
  a53 := Tryz.isAgg120
  z53 := Tryz.sizeOf120
  v53 := Tryz.zeroValue120
  t55 := Tryz.underlying183
  a55 := Tryz.isAgg183
  z55 := Tryz.sizeOf183
  v55 := Tryz.zeroValue183
  t66 := Tryz.underlying193
  a66 := Tryz.isAgg193
  z66 := Tryz.sizeOf193
  v66 := Tryz.zeroValue193
  t70 := Tryz.underlying197
  a70 := Tryz.isAgg197
  z70 := Tryz.sizeOf197
  v70 := Tryz.zeroValue197
  t76 := Tryz.underlying203
  a76 := Tryz.isAgg203
  z76 := Tryz.sizeOf203
  v76 := Tryz.zeroValue203
  t77 := Tryz.underlying204
  a77 := Tryz.isAgg204
  z77 := Tryz.sizeOf204
  v77 := Tryz.zeroValue204 }
end Go.Proofs

