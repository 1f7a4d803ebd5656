/-
  DERIVED: THE SHELF's CONTRACTS AT THIS DUMP, IN PLAIN WORDS (tools/lay-plain.mjs out of 'YtjjanmgeogjngaaShelf.lean', which tools/lay-shelf.mjs wrote): THE SAME DECLARATIONS UNDER THE SAME NAMES: 'import', 'namespace', 'open', 'def', 'theorem' AND NOTHING ELSE: no command of the shelf's: FOR A HAND-IN. Each laying: the table of numbers ('.._ren') and one theorem, a field a fact of the dump's own or the kernel's comparison; each contract: ONE APPLICATION.
-/
import Derived.Shelf.SlIterI.Nil
import Derived.Shelf.SortM.Plain
import Derived.Shelf.SortM.SortNone
import Derived.Ground.GgzProg
import Derived.Ground.SlgmProg
import Derived.Test.YtjjanmgeogjngaaProg
import Derived.Test.YtjjanmgeogjngaaGa
import Derived.RangeFuncBox
import Derived.RangeFuncLeaves
import Derived.RangeFuncWrites
import Derived.OwnWalkIn
import Derived.TacticsInMore
import Derived.LoopNIn
import Derived.LoopIn
import Derived.Test.YtjjanmgeogjngaaGf
import Derived.Test.YtjjanmgeogjngaaGe
import Derived.Test.YtjjanmgeogjngaaGd
import Derived.Laws.Rows
/-
  DERIVED: THE SHELF's CONTRACTS AT THIS DUMP, IN PLAIN WORDS (tools/lay-plain.mjs out of 'YtjjanmgeogjngaaShelf.lean', which tools/lay-shelf.mjs wrote): THE SAME DECLARATIONS UNDER THE SAME NAMES: 'import', 'namespace', 'open', 'def', 'theorem' AND NOTHING ELSE: no command of the shelf's: FOR A HAND-IN. Each laying: the table of numbers ('.._ren') and one theorem, a field a fact of the dump's own or the kernel's comparison; each contract: ONE APPLICATION.
-/
namespace Go.Proofs
open Go.Shelf
def Try.keysA_ren : Go.Shelf.Ren := ⟨fun | 7 => 54 | 10 => 70 | n => n, fun | 23 => 71 | 26 => 2 | 3 => 39 | 28 => 90 | 0 => 0 | 27 => 89 | 33 => 103 | 4 => 4 | n => n, fun | n => n⟩
theorem Try.keysA : Go.Proofs.SlLaysZI.n7 Try.prog Try.keysA_ren := {
  mixed := by kernel_rfl
  f7 := ⟨Try.f54.name, by decide, Try.func54.trans (congrArg some (by kernel_rfl))⟩
  f10 := ⟨Try.f70.name, by decide, Try.func70.trans (congrArg some (by kernel_rfl))⟩
  t0 := Try.underlying0
  a0 := Try.isAgg0
  z0 := Try.sizeOf0
  v0 := Try.zeroValue0
  t4 := Try.underlying4
  a4 := Try.isAgg4
  z4 := Try.sizeOf4
  v4 := Try.zeroValue4
  t23 := Try.underlying71
  a23 := Try.isAgg71
  z23 := Try.sizeOf71
  v23 := Try.zeroValue71
  t26 := Try.underlying2
  a26 := Try.isAgg2
  z26 := Try.sizeOf2
  v26 := Try.zeroValue2
  t27 := Try.underlying89
  a27 := Try.isAgg89
  z27 := Try.sizeOf89
  v27 := Try.zeroValue89
  t28 := Try.underlying90
  a28 := Try.isAgg90
  z28 := Try.sizeOf90
  v28 := Try.zeroValue90
  t33 := Try.underlying103
  a33 := Try.isAgg103
  z33 := Try.sizeOf103
  v33 := Try.zeroValue103 }
def Try.sortedA_ren : Go.Shelf.Ren := ⟨fun | 6 => 53 | 8 => 68 | 9 => 69 | 11 => 83 | 13 => 85 | 12 => 84 | 23 => 101 | 24 => 102 | 14 => 92 | 15 => 93 | 16 => 94 | 17 => 95 | 18 => 96 | 19 => 97 | 20 => 98 | 21 => 99 | 22 => 100 | 25 => 104 | 26 => 105 | 27 => 106 | 28 => 107 | 29 => 108 | 30 => 109 | 31 => 110 | n => n, fun | 26 => 2 | 28 => 90 | 24 => 42 | 0 => 0 | 3 => 3 | 37 => 118 | 48 => 135 | 50 => 137 | 4 => 4 | 40 => 127 | 39 => 126 | 45 => 132 | 5 => 5 | 9 => 9 | 51 => 139 | 55 => 143 | 57 => 145 | 58 => 146 | 33 => 103 | n => n, fun | n => n⟩
theorem Try.sortedA : Go.Proofs.SlLaysZI.n6 Try.prog Try.sortedA_ren := {
  mixed := by kernel_rfl
  f6 := ⟨Try.f53.name, by decide, Try.func53.trans (congrArg some (by kernel_rfl))⟩
  f8 := ⟨Try.f68.name, by decide, Try.func68.trans (congrArg some (by kernel_rfl))⟩
  f11 := ⟨Try.f83.name, by decide, Try.func83.trans (congrArg some (by kernel_rfl))⟩
  t0 := Try.underlying0
  a0 := Try.isAgg0
  z0 := Try.sizeOf0
  v0 := Try.zeroValue0
  t24 := Try.underlying42
  a24 := Try.isAgg42
  z24 := Try.sizeOf42
  v24 := Try.zeroValue42
  t26 := Try.underlying2
  a26 := Try.isAgg2
  z26 := Try.sizeOf2
  v26 := Try.zeroValue2
  t28 := Try.underlying90
  a28 := Try.isAgg90
  z28 := Try.sizeOf90
  v28 := Try.zeroValue90
  i26 := by kernel_rfl }
def Try.sortA_ren : Go.Shelf.Ren := ⟨fun | 5 => 69 | 8 => 85 | 7 => 84 | 19 => 101 | 20 => 102 | 10 => 92 | 11 => 93 | 12 => 94 | 13 => 95 | 14 => 96 | 15 => 97 | 16 => 98 | 17 => 99 | 18 => 100 | 30 => 104 | 31 => 105 | 32 => 106 | 33 => 107 | 34 => 108 | 35 => 109 | 40 => 110 | n => n, fun | 23 => 42 | 25 => 2 | 3 => 3 | 32 => 118 | 22 => 42 | 0 => 0 | 44 => 135 | 46 => 137 | 4 => 4 | 36 => 127 | 35 => 126 | 41 => 132 | 5 => 5 | 9 => 9 | 53 => 139 | 57 => 143 | 63 => 145 | 64 => 146 | n => n, fun | n => n⟩
theorem Try.sortA : Go.Proofs.SlLaysM.n5 Try.prog Try.sortA_ren := {
  mixed := by kernel_rfl
  f5 := ⟨Try.f69.name, by decide, Try.func69.trans (congrArg some (by kernel_rfl))⟩
  f7 := ⟨Try.f84.name, by decide, Try.func84.trans (congrArg some (by kernel_rfl))⟩
  f8 := Try.func85.trans (congrArg some (by kernel_rfl))
  f10 := ⟨Try.f92.name, by decide, Try.func92.trans (congrArg some (by kernel_rfl))⟩
  f11 := ⟨Try.f93.name, by decide, Try.func93.trans (congrArg some (by kernel_rfl))⟩
  f12 := ⟨Try.f94.name, by decide, Try.func94.trans (congrArg some (by kernel_rfl))⟩
  f13 := ⟨Try.f95.name, by decide, Try.func95.trans (congrArg some (by kernel_rfl))⟩
  f14 := ⟨Try.f96.name, by decide, Try.func96.trans (congrArg some (by kernel_rfl))⟩
  f15 := ⟨Try.f97.name, by decide, Try.func97.trans (congrArg some (by kernel_rfl))⟩
  f16 := ⟨Try.f98.name, by decide, Try.func98.trans (congrArg some (by kernel_rfl))⟩
  f17 := ⟨Try.f99.name, by decide, Try.func99.trans (congrArg some (by kernel_rfl))⟩
  f18 := ⟨Try.f100.name, by decide, Try.func100.trans (congrArg some (by kernel_rfl))⟩
  f19 := Try.func101.trans (congrArg some (by kernel_rfl))
  f20 := Try.func102.trans (congrArg some (by kernel_rfl))
  f30 := ⟨Try.f104.name, by decide, Try.func104.trans (congrArg some (by kernel_rfl))⟩
  f31 := Try.func105.trans (congrArg some (by kernel_rfl))
  f32 := Try.func106.trans (congrArg some (by kernel_rfl))
  f33 := ⟨Try.f107.name, by decide, Try.func107.trans (congrArg some (by kernel_rfl))⟩
  f34 := ⟨Try.f108.name, by decide, Try.func108.trans (congrArg some (by kernel_rfl))⟩
  f35 := ⟨Try.f109.name, by decide, Try.func109.trans (congrArg some (by kernel_rfl))⟩
  f40 := ⟨Try.f110.name, by decide, Try.func110.trans (congrArg some (by kernel_rfl))⟩
  t0 := Try.underlying0
  a0 := Try.isAgg0
  z0 := Try.sizeOf0
  v0 := Try.zeroValue0
  t3 := Try.underlying3
  a3 := Try.isAgg3
  z3 := Try.sizeOf3
  v3 := Try.zeroValue3
  t4 := Try.underlying4
  a4 := Try.isAgg4
  z4 := Try.sizeOf4
  v4 := Try.zeroValue4
  t5 := Try.underlying5
  a5 := Try.isAgg5
  z5 := Try.sizeOf5
  v5 := Try.zeroValue5
  t9 := Try.underlying9
  a9 := Try.isAgg9
  z9 := Try.sizeOf9
  v9 := Try.zeroValue9
  t22 := Try.underlying42
  a22 := Try.isAgg42
  z22 := Try.sizeOf42
  v22 := Try.zeroValue42
  t23 := Try.underlying42
  a23 := Try.isAgg42
  z23 := Try.sizeOf42
  v23 := Try.zeroValue42
  t25 := Try.underlying2
  a25 := Try.isAgg2
  z25 := Try.sizeOf2
  v25 := Try.zeroValue2
  t32 := Try.underlying118
  a32 := Try.isAgg118
  z32 := Try.sizeOf118
  v32 := Try.zeroValue118
  t35 := Try.underlying126
  a35 := Try.isAgg126
  z35 := Try.sizeOf126
  v35 := Try.zeroValue126
  t36 := Try.underlying127
  a36 := Try.isAgg127
  z36 := Try.sizeOf127
  v36 := Try.zeroValue127
  t41 := Try.underlying132
  a41 := Try.isAgg132
  z41 := Try.sizeOf132
  v41 := Try.zeroValue132
  t44 := Try.underlying135
  a44 := Try.isAgg135
  z44 := Try.sizeOf135
  v44 := Try.zeroValue135
  t46 := Try.underlying137
  a46 := Try.isAgg137
  z46 := Try.sizeOf137
  v46 := Try.zeroValue137
  t53 := Try.underlying139
  a53 := Try.isAgg139
  z53 := Try.sizeOf139
  v53 := Try.zeroValue139
  t57 := Try.underlying143
  a57 := Try.isAgg143
  z57 := Try.sizeOf143
  v57 := Try.zeroValue143
  t63 := Try.underlying145
  a63 := Try.isAgg145
  z63 := Try.sizeOf145
  v63 := Try.zeroValue145
  t64 := Try.underlying146
  a64 := Try.isAgg146
  z64 := Try.sizeOf146
  v64 := Try.zeroValue146 }
end Go.Proofs

/- slices.Values, and what is collected of it. -/
namespace Go.Proofs.Ytjjanmgeogjngaa
open Go.RowKit Go.Maps Go.Sort Go.Shelf
set_option linter.unusedVariables false

theorem values60 (a : Option Addr) (n c : Nat) (w : World) : Calls Try.prog 60 #[.slice a n c] w fun e w' => e = .returned (.func (.func 73) #[] #[.pointer (some ⟨w.heap.size, 0, none⟩)]) ∧ w' = w.alloc (.cells #[.slice a n c] 42) := by
  go_enter Try.func60, Try.ntmps60
  go_wp2
  go_ret
  exact ⟨rfl, rfl⟩

set_option maxRecDepth 100000 in
set_option maxHeartbeats 2000000 in
theorem seq73 (m : Nat) (hm : 1 ≤ m) (Bs n₀ : Nat) (a : Option Addr) (n cap : Nat) (zs : List Int) (w : World) (hBs : Bs < w.heap.size) (hc : w.cell? ⟨Bs, 0, none⟩ = some (.slice a n cap)) (hn : zs.length = n) (hx : Hnts w a zs) (hb : ∀ g off, a = some ⟨g, off, none⟩ → zs ≠ [] → g < n₀) (hl : n ≤ 1048576) :
    SeqStopsK Fence.wide m Try.prog 73 #[.pointer (some ⟨Bs, 0, none⟩)] (fun x : Int => #[Value.int .i64 x]) (Below n₀) (fun ys => ys = zs) (fun _ => True) n w := fun l J Jx W hW _ _ hY h0 => by
  have hc' := (hW.cell (p := ⟨Bs, 0, none⟩) hBs).trans hc
  have HX := hid (hx.below hW)
  have HN := hid hn
  have HB := hid hb
  clear hx hn hb hc hW
  refine callsIn_of_wp Try.func73 rfl trivial ?_ rfl
  simp only [Try.ntmps73, List.size_toArray, List.length_cons, List.length_nil, Nat.reduceAdd, Nat.reduceSub, Array.replicate_succ, Array.replicate_zero, List.push_toArray, List.append_toArray, List.nil_append, List.cons_append]
  gi_wp2
  gi_loopw [7] (fun i wr => ∃ k : Nat, k ≤ n ∧ i = .int .i64 k ∧ J (zs.take k) wr ∧ Below n₀ W wr) (fun i _ => n - (intOf i).toNat)
  case atStart => exact ⟨0, Nat.zero_le _, rfl, h0, Below.refl _ _⟩
  case round =>
    obtain ⟨k, hk, rfl, hJs, hnx⟩ := hrel
    by_cases hlt : k < n
    · have hlt' : (k : Int) < n := by omega
      have hkl : k < zs.length := by rw [HN.out]; exact hlt
      obtain ⟨b, off, rfl, _, hcl, _, _⟩ := Row.at HX.out (j := k) hkl
      have hbn : b < n₀ := HB.out b off rfl (by intro e; rw [e] at hkl; simp at hkl)
      have hcx : wr.cell? ⟨b, off + k, none⟩ = some (.int .i64 (zs.getD k 0)) := (hnx.cell (p := ⟨b, off + k, none⟩) hbn).trans hcl
      obtain ⟨fn, tmps, assign, body, hy, hR⟩ := hY _ (zs.getD k 0) wr hJs (by rw [List.length_take, Nat.min_eq_left (by omega)]; exact hlt)
      have HT := hid (Lra.take_snoc zs k hkl)
      generalize zs.getD k 0 = x at hcx hy hR HT
      gi_wp2
      refine hR.mono ?_
      rintro e W3 (⟨rfl, hJ3, hk3⟩ | ⟨rfl, hJx3⟩)
      · gi_wp2
        go_roundw
        case rel => exact ⟨k + 1, by omega, by simp, by rw [HT.out]; exact hJ3, hnx.trans hk3⟩
        case measure => simp [intOf]; omega
      · gi_wp2
        refine bodyPost_ret (results_none rfl _ _ _) rfl ?_
        exact ⟨⟨_, rfl⟩, .inr ⟨_, trivial, hJx3⟩⟩
    · have hge : ¬ (k : Int) < n := by omega
      gi_wp2
      go_end0
      rw [List.take_of_length_le (by rw [HN.out]; omega)] at hJs
      exact ⟨⟨_, rfl⟩, .inl hJs⟩

/-- What is collected so far: a slice in the box Bs that owns its row. -/
def Coll (w : World) (Bs : Nat) (pre : List Int) (W : World) : Prop :=
  (∃ v, W.heap[Bs]? = some (.cells #[v] 42 (0, 0)) ∧ W.ownsRow w.heap.size 2 1 v pre.length (pre.map (Value.int .i64))) ∧ Below w.heap.size w W
theorem coll_own (w : World) (Bs B : Nat) (hB : w.heap.size ≤ B) : OwnFrom B (Coll w Bs) := by
  rintro s W W' row ⟨⟨v, hv, ho⟩, hb⟩ hg hr
  refine ⟨⟨v, ?_, ?_⟩, hb.grown hg hb.size (fun k e => Nat.le_trans hB (hr k e).1)⟩
  · refine (hg.block Bs (Array.getElem?_eq_some_iff.1 hv).1 ?_).trans hv
    intro e
    obtain ⟨_, o, h1, h2⟩ := hr Bs e.symm
    rw [hv] at h1; cases h1; cases h2
  · refine ⟨ho.1, ho.2.imp id ?_⟩
    rintro ⟨g, c, cur, e1, h1, h2, h3⟩
    refine ⟨g, c, cur, e1, h1, (hg.block g (Array.getElem?_eq_some_iff.1 h2).1 ?_).trans h2, h3⟩
    intro e
    obtain ⟨_, o, h4, h5⟩ := hr g e.symm
    rw [h2] at h4; cases h4; cases h5
def CollOut (w : World) (zs : List Int) (e : Ending) (w' : World) : Prop := ∃ v, e = .returned v ∧ w'.ownsRow w.heap.size 2 1 v zs.length (zs.map (Value.int .i64)) ∧ Below w.heap.size w w'

set_option maxRecDepth 100000 in
set_option maxHeartbeats 2000000 in
theorem appendSeq83 (Bs : Nat) (a : Option Addr) (cap : Nat) (zs : List Int) (w : World) (hBs : Bs < w.heap.size) (hc : w.cell? ⟨Bs, 0, none⟩ = some (.slice a zs.length cap)) (hx : Hnts w a zs) (hl : zs.length ≤ 1048576) :
    Calls Try.prog 83 #[.slice none 0 0, .func (.func 73) #[] #[.pointer (some ⟨Bs, 0, none⟩)]] w fun e w' => CollOut w zs e w' := by
  obtain ⟨i0, hi, hz⟩ := Option.map_eq_some_iff.1 info2
  simp only [Prod.mk.injEq] at hz
  refine (callsIn_wide (n := 6)).1 ?_
  refine callsIn_of_wp_marks Try.func83 rfl trivial ?_ rfl
  simp only [Try.ntmps83, List.size_toArray, List.length_cons, List.length_nil, Nat.reduceAdd, Nat.reduceSub, Array.replicate_succ, Array.replicate_zero, List.push_toArray, List.append_toArray, List.nil_append, List.cons_append]
  gi_wp2
  have hB0 := below_box w (.cells #[.slice none 0 0] 42)
  have hv0 : (w.alloc (.cells #[.slice none 0 0] 42)).heap[w.heap.size]? = some (.cells #[.slice none 0 0] 42 (0, 0)) := heap_alloc_new _ _
  have hs0 : (w.alloc (.cells #[.slice none 0 0] 42)).heap.size = w.heap.size + 1 := by simp
  generalize hW0 : w.alloc (.cells #[.slice none 0 0] 42) = W0 at *
  refine wpIn_rangeFunc_ownG rfl (by omega) (gf := 73) (lb := #[.pointer (some ⟨Bs, 0, none⟩)]) rfl trivial (enters_of Try.func73 (by kernel_rfl) rfl)
    (seq73 5 (by omega) Bs w.heap.size a zs.length cap zs W0 (by omega) ((hB0.cell (p := ⟨Bs, 0, none⟩) hBs).trans hc) rfl (hx.below hB0) (fun g off e hne => by
      rcases hx.2 with h | ⟨b2, o2, e2, hb2, _⟩
      · exact absurd h hne
      · rw [e] at e2; cases e2; exact hb2) hl) belowK_t (belowK_b (by omega)) (Below.refl _ _) (fun _ => rfl)
    (Coll w w.heap.size) (fun _ _ _ => False) (coll_own w w.heap.size _ (by omega)) (fun _ _ _ _ _ h _ _ => h) ⟨⟨_, hv0, World.ownsRow_nil _ _ _ _⟩, hB0⟩
    (fun x => { tmps := #[.slice none 0 0, .func (.func 73) #[] #[.pointer (some ⟨Bs, 0, none⟩)], .pointer (some ⟨w.heap.size, 0, none⟩), undef, .slice none 0 0, .int .i64 x, .func (.func 73) #[] #[.pointer (some ⟨Bs, 0, none⟩)], .int .i64 x, undef, undef, undef, undef, undef], defers := [] }) ?assign ?body ?done ?stop
  case assign =>
    intro l x W K hK
    gi_wp2_with gi_round_op_a
    exact hK
  case body =>
    rintro l pre x W ⟨⟨v, hv, ho⟩, hB⟩ hlen
    have y0 : W.cell? ⟨w.heap.size, 0, none⟩ = some v := row_cell hv 0
    have hvl : w.heap.size < W.heap.size := (Array.getElem?_eq_some_iff.1 hv).1
    have hvo : some w.heap.size ≠ v.ownBlock := fun e => own_ne hv ho (by decide) e.symm
    gi_wp2_with (first
      | (gi_at_builtin; refine wpListIn_append_own _ rfl _ _ 42 rfl w.heap.size 2 i0 (.int .i64 0) 1 8 Try.underlying42 hi hz.1 hz.2.1 hz.2.2 rfl (by decide) _ _ _ rfl (ho.alloc _) ⟨W.heap.size, 0, none⟩ 1 1 [.int .i64 x] rfl rfl (cell_one_new _ _ _) (by simp [Value.oneCell']) (by unfold maxLen; omega) (by omega) (by have := hB.size; simp; omega) ?_; intro v' w3 hown' hg3 hnil3
         have hv3 : w3.heap[w.heap.size]? = some (.cells #[v] 42 (0, 0)) := (hg3.block w.heap.size (by simp; omega) hvo).trans ((Below.heap_alloc _ _ _ hvl).trans hv)
         have c3 := row_cell hv3 0
         have f3 := row_frozen hv3 0
         simp only [List.getElem?_toArray, List.getElem?_cons_zero] at c3
         obtain ⟨o', k', rfl⟩ := own_slc hown'
         go_frame)
      | gi_round_op_a)
    have hb1 : RowKit.Below w.heap.size W w3 := ((Below.refl _ W).alloc hB.size _).grown hg3 (by have := hB.size; simp; omega) (fun k e => (ho.lt k e).1)
    have hb2 : RowKit.Below w.heap.size W (w3.setCell ⟨w.heap.size, 0, none⟩ (.slice o' (pre.length + 1) k')) := hb1.setCell (p := ⟨w.heap.size, 0, none⟩) (Nat.le_refl _) _
    refine ⟨(((KeepsOthers.alloc W _).trans (KeepsOthers.of_grownBy hg3 (fun j o hj ho' => ?_))).trans (KeepsOthers.setCell _ _ _)).from _, hb2, ⟨⟨_, heap_set_row hv3 _, ?_⟩, hB.trans hb2⟩⟩
    · obtain ⟨_, cur, h2⟩ := own_blk (ho.alloc (.cells #[.int .i64 x] 2)) hj
      rw [h2] at ho'; cases ho'; rfl
    · have h := own_keep hown' (W' := w3.setCell ⟨w.heap.size, 0, none⟩ (.slice o' (pre.length + 1) k')) (fun g cs hg hgc => heap_other _ _ (by rintro rfl; rw [hv3] at hgc; injection hgc with h; injection h with _ h; cases h))
      simpa using h
  case done =>
    rintro D ys W hD rfl ⟨⟨v, hv, ho⟩, hB⟩ hK
    have y0 : W.cell? ⟨w.heap.size, 0, none⟩ = some v := row_cell hv 0
    gi_wp2
    refine ⟨by simp, .inl ⟨_, _, rfl, run_takeDeferred hK, ?_⟩⟩
    obtain ⟨⟨v2, hv2, ho2⟩, hB2⟩ := (coll_own w w.heap.size w.heap.size (Nat.le_refl _)).putObj (l := D) (.deferred none) (show Coll w w.heap.size ys W from ⟨⟨v, hv, ho⟩, hB⟩) (by omega) hK rfl
    have e2 : v2 = v := by
      have h : (W.putObj D (.deferred none)).heap[w.heap.size]? = some (.cells #[v] 42 (0, 0)) := (World.putObj_heap_other (by omega)).trans hv
      rw [hv2] at h
      injection h with h; injection h with h; simpa using h
    subst e2
    exact ⟨_, results_tmp rfl _ _ _, v2, rfl, ho2, hB2⟩
  case stop =>
    rintro D c pre W _ _ h _
    exact h.elim

set_option maxHeartbeats 1000000 in
theorem collect68 (Bs : Nat) (a : Option Addr) (cap : Nat) (zs : List Int) (w : World) (hBs : Bs < w.heap.size) (hc : w.cell? ⟨Bs, 0, none⟩ = some (.slice a zs.length cap)) (hx : Hnts w a zs) (hl : zs.length ≤ 1048576) :
    Calls Try.prog 68 #[.func (.func 73) #[] #[.pointer (some ⟨Bs, 0, none⟩)]] w fun e w' => CollOut w zs e w' := by
  have C := hid (appendSeq83 Bs a cap zs w hBs hc hx hl)
  clear hBs hc hx hl
  go_enter Try.func68, Try.ntmps68
  go_wp2_with (go_at_call 83; refine C.out.mono ?_; clear C; rintro e W ⟨v, rfl, ho, hB⟩; have HO := hid (show CollOut w zs (.returned v) W from ⟨v, rfl, ho, hB⟩); clear ho hB)
  go_ret
  exact HO.out
def srt (zs : List Int) : List Int := zs.mergeSort (fun x y => decide (x ≤ y))
def SortOut (w : World) (zs : List Int) (e : Ending) (w' : World) : Prop := ∃ v, e = .returned v ∧ w'.ownsRow w.heap.size 2 1 v (srt zs).length ((srt zs).map (Value.int .i64)) ∧ RowKit.Below w.heap.size w w'
set_option maxHeartbeats 1000000 in
theorem sorted53v (Bs : Nat) (a : Option Addr) (cap : Nat) (zs : List Int) (w : World) (hBs : Bs < w.heap.size) (hc : w.cell? ⟨Bs, 0, none⟩ = some (.slice a zs.length cap)) (hx : Hnts w a zs) (hl : zs.length ≤ 1048576) :
    Calls Try.prog 53 #[.func (.func 73) #[] #[.pointer (some ⟨Bs, 0, none⟩)]] w fun e w' => SortOut w zs e w' := by
  have C := hid (collect68 Bs a cap zs w hBs hc hx hl)
  have HL := hid hl
  have hsl : (srt zs).length = zs.length := List.length_mergeSort _
  clear hBs hc hx hl
  go_enter Try.func53, Try.ntmps53
  go_wp2_with (go_at_call 68; refine C.out.mono ?_; clear C; rintro e W ⟨v, rfl, ho, hB⟩)
  rcases ho.2 with ⟨rfl, h0⟩ | ⟨g, c, cur, rfl, h1, h2, h3, h4, h5, h6⟩
  · obtain rfl : zs = [] := List.eq_nil_of_length_eq_zero h0
    have C69 := hid (show Calls Try.prog 69 #[.slice none 0 0] W fun e w' => e = .returned (.tuple #[]) ∧ w' = W from AnyM.slices_Sort_int_none Try.sortA none 0 W)
    have HF : Hid (SortOut w [] (.returned (.slice none 0 0)) W) := ⟨_, rfl, by simpa [srt] using ho, hB⟩
    clear ho hB h0
    go_wp2_with (go_at_call 69; refine C69.out.mono ?_; clear C69; rintro e w2 ⟨rfl, rfl⟩)
    go_ret
    exact HF.out
  · rw [Nat.mul_one] at h6
    have C69 := hid (show Calls Try.prog 69 #[.slice (some ⟨g, 0, none⟩) zs.length c] W fun e w' => e = .returned (.tuple #[]) ∧ ∃ n os, w' = grow (putRow (Value.int .i64) (Sort.ahead W n) g 0 (srt zs).toArray) os from
      AnyM.slices_Sort_int Try.sortA g 0 c zs W (holds_of_block_i h2 h6) (Array.getElem?_eq_some_iff.1 h2).1 (by have := HL.out; omega))
    have HF := hid (fun n os => show SortOut w zs (.returned (.slice (some ⟨g, 0, none⟩) zs.length c)) (grow (putRow (Value.int .i64) (Sort.ahead W n) g 0 (srt zs).toArray) os) from
      ⟨_, rfl, by rw [hsl]; exact ownsRow_sorted_i hsl h1 h2 h3 h4 h5, hB.grown (grownBy_sorted_i _) hB.size (fun j hj => by cases hj; exact h1)⟩)
    generalize zs.length = n at *
    clear ho hB h2 h3 h4 h5 h6
    go_wp2_with (go_at_call 69; refine C69.out.mono ?_; clear C69; rintro e w2 ⟨rfl, q, os, hw⟩; have HW := hid (HF.out q os); rw [← hw] at HW; clear HF hw)
    go_ret
    exact HW.out
end Go.Proofs.Ytjjanmgeogjngaa

/- What a checker tells of itself: Live, Get, Done. -/
namespace Go.Proofs.Ytjjanmgeogjngaa
open Go.RowKit Go.Maps Go.Sort Go.Shelf
set_option linter.unusedVariables false

theorem sortsA (m : Nat) : AnyZI.SortsIn Try.prog Try.sortedA_ren Fence.wide m :=
  ⟨fun blk off cap ss W hH hblk hsz => callsIn_wide.2 (AnyM.slices_Sort_int Try.sortA blk off cap ss W hH hblk hsz),
   fun p cap W => callsIn_wide.2 (AnyM.slices_Sort_int_none Try.sortA p cap W)⟩
/-- The keys of a map, in order. -/
def KeysOut (w : World) (ks : List Int) (e : Ending) (w' : World) : Prop :=
  ∃ a c, e = .returned (.slice a ks.length c) ∧ w'.ownsRow w.heap.size 2 1 (.slice a ks.length c) ks.length (ks.map (Value.int .i64)) ∧ RowKit.Below w.heap.size w w'
theorem has_i64 {w : World} {b n : Nat} {D : DataW Value} (hown : w.ownsMap Try.prog 2 raw b n D) {x : Int} (h : Maps.has D (.int .i64 x) = true) : I64 x := by
  obtain ⟨es, rfl, hko⟩ := hown.keysOf
  rw [has_eq, List.any_eq_true] at h
  obtain ⟨p, hp, hs⟩ := h
  obtain ⟨v, hv⟩ := hko p hp
  obtain ⟨y, _, hy, hl⟩ := Maps.keyOf_i64 Try.underlying2 hv
  rw [hy] at hs
  obtain rfl : x = y := by simpa [Lit.sameKey, eq_comm] using hs
  simp [Lit.wf, IntKind.min, IntKind.max, IntKind.signed, IntKind.bits] at hl
  exact ⟨by omega, by omega⟩
theorem mem_look {C : List (Int × List Int)} {id : Int} : id ∈ C.map (·.1) ↔ (Ckr.look C id).isSome = true := by
  cases h : Ckr.look C id with
  | none => simp; intro x hx; exact Ckr.look_none.1 h (id, x) hx rfl
  | some xs => simpa using ⟨xs, Ckr.look_mem h⟩
theorem stood_some {n0 bm k : Nat} {f : Int → Option Value} {C : List (Int × List Int)} {r : Option Nat} {W : World} (hS : Stood n0 bm k f (Ckr.look C) r W) (id : Int) : (f id).isSome = (Ckr.look C id).isSome := by
  cases h : f id with
  | none => rw [hS.none_ id h]; rfl
  | some v => obtain ⟨xs, h1, _⟩ := hS.some_ id v h; rw [h1]; rfl
theorem keys_perm {n0 bm k : Nat} {f : Int → Option Value} {C : List (Int × List Int)} {last : Int} {r : Option Nat} {W : World} (hG : Ckr.Good C last) (hS : Stood n0 bm k f (Ckr.look C) r W) :
    ∃ D, W.ownsMap Try.prog 2 raw bm k D ∧ ∀ ss : List Int, ss.Perm (intKeys D) → srt ss = C.map (·.1) := by
  obtain ⟨D, hown, hD⟩ := hS.map
  have hnd : (C.map (·.1)).Pairwise (· < ·) := List.pairwise_map.2 hG.sorted
  have hc : CollectedI D (fun _ => false) (C.map (·.1)) := by
    refine ⟨hnd.imp (fun h e => by omega), fun x => ?_⟩
    rw [mem_look]
    constructor
    · intro h
      have hi : I64 x := by
        obtain ⟨p, hp, rfl⟩ := List.mem_map.1 (mem_look.2 h)
        have := hG.ids p hp; have := hG.last_
        exact ⟨by omega, by omega⟩
      exact ⟨by rw [(hD x hi).1, stood_some hS]; exact h, rfl⟩
    · rintro ⟨h, _⟩
      have hi := has_i64 hown h
      rw [(hD x hi).1, stood_some hS] at h
      exact h
  have hp := hc.perm hown klaw Try.underlying2 (fun _ => rfl)
  refine ⟨D, hown, fun ss hs => ?_⟩
  have h1 : srt ss = srt (C.map (·.1)) := mergeSort_of_perm_i (hs.trans hp.symm)
  rw [h1]
  unfold srt
  refine List.Perm.eq_of_pairwise (le := fun a b => a ≤ b) (fun a b _ _ h1 h2 => by omega) ?_ (hnd.imp (fun h => by omega)) (List.mergeSort_perm _ _)
  have h2 := List.pairwise_mergeSort (le := fun x y : Int => decide (x ≤ y)) (fun a b c h1 h2 => by simp at *; omega) (fun a b => by simp; omega) (C.map (·.1))
  exact h2.imp (fun h => by simpa using h)
set_option maxHeartbeats 1000000 in
theorem sortedKeys {n0 bm k : Nat} {f : Int → Option Value} {C : List (Int × List Int)} {last : Int} {r : Option Nat} {W : World} (hG : Ckr.Good C last) (hS : Stood n0 bm k f (Ckr.look C) r W) (hk : k ≤ 1048576) (cb : Nat) (x0 : W.cell? ⟨cb, 0, none⟩ = some (.map (some bm))) :
    Calls Try.prog 35 #[.pointer (some ⟨cb, 0, none⟩)] W fun e w' => KeysOut W (C.map (·.1)) e w' := by
  obtain ⟨D, hown, hD⟩ := keys_perm hG hS
  have hbl := hown.lt
  have hsz := hown.size_le
  refine (callsIn_wide (n := 6)).1 ?_
  have hseq : SeqGives Fence.wide 2 Try.prog 70 #[.pointer (some ⟨W.heap.size, 0, none⟩)] encZ (fun ss => ss.Perm (intKeys D)) (Maps.size D) (W.alloc (.cells #[.map (some bm)] 71)) :=
    AnyZI.keys_gives (ρ := Try.keysA_ren) { Try.keysA with } Fence.wide _ trivial rfl (by omega) W.heap.size bm k D _ (by simp) (by simp) (by
      obtain ⟨es, clock, hb, Ft, hs, hD⟩ := hown
      exact ⟨es, clock, (Below.heap_alloc _ _ bm hbl).trans hb, Ft, hs, hD⟩)
  have cK : ∀ mb W, CallsIn Fence.wide 5 Try.prog 54 #[.map mb] W fun e w' => e = .returned (.func (.func 70) #[] #[.pointer (some ⟨W.heap.size, 0, none⟩)]) ∧ w' = W.alloc (.cells #[.map mb] 71) := fun mb W => AnyZI.keys_in Try.keysA Fence.wide 5 trivial rfl mb W
  have cS := AnyZI.sorted_in Try.sortedA Fence.wide 5 trivial trivial trivial trivial rfl (by omega) (sortsA _) (enters_of Try.func69 (by kernel_rfl) rfl) 70 #[.pointer (some ⟨W.heap.size, 0, none⟩)] trivial (enters_of Try.func70 (by kernel_rfl) rfl) _ _ (by unfold maxLen; omega) (by omega) _ hseq
  change CallsIn _ _ Try.prog 53 _ _ _ at cS
  have hfK : Fence.wide.fn 54 := trivial
  have hfS : Fence.wide.fn 53 := trivial
  have HD := hid hD
  clear hseq hD hsz hbl hown
  refine callsIn_of_wp Try.func35 rfl trivial ?_ rfl
  simp only [Try.ntmps35, List.size_toArray, List.length_cons, List.length_nil, Nat.reduceAdd, Nat.reduceSub, Array.replicate_succ, Array.replicate_zero, List.push_toArray, List.append_toArray, List.nil_append, List.cons_append]
  gi_wp2_with (first
    | (gi_at_call 54; refine (cK _ _).mono ?_; rintro e w' ⟨rfl, rfl⟩)
    | (gi_at_call 53; refine cS.mono ?_; rintro e w' ⟨v, ss, rfl, hS, hrow, hnil, hb⟩))
  go_ret
  have e := HD.out ss hS
  have hl : ss.length = (C.map (·.1)).length := by rw [← e]; exact (List.length_mergeSort _).symm
  rw [hl] at hrow
  obtain ⟨a, c, rfl⟩ := own_slc hrow
  refine ⟨a, c, rfl, ?_, ((Below.refl _ W).alloc (Nat.le_refl _) _).trans (hb.mono (by simp))⟩
  have h2 := own_base (base' := W.heap.size) hrow (by simp)
  rw [← e]
  rw [← e] at h2
  exact h2
theorem Ck.live {n0 cb bm : Nat} {t r : Option Nat} {k : Nat} {W : World} {C : List (Int × List Int)} {last : Int} {dn : Bool} (hC : Ck n0 cb bm t r k W C last dn) (hk : k ≤ 1048576) :
    Calls Try.prog 35 #[.pointer (some ⟨cb, 0, none⟩)] W fun e w' => KeysOut W (C.map (·.1)) e w' := by
  obtain ⟨hG, f, tm, at3, ct3, hA, hS, hot, ht, hT⟩ := hC
  obtain ⟨vv, vr, hc⟩ := hA.blk
  exact sortedKeys hG hS hk cb (row_cell hc 0)
theorem live_nil (W : World) : Calls Try.prog 35 #[.pointer none] W fun e w' => e = .returned (.slice none 0 0) ∧ w' = W := by
  go_enter Try.func35, Try.ntmps35
  go_wp2
  go_ret
  exact ⟨rfl, rfl⟩
theorem Ck.done {n0 cb bm : Nat} {t r : Option Nat} {k : Nat} {W : World} {C : List (Int × List Int)} {last : Int} {dn : Bool} (hC : Ck n0 cb bm t r k W C last dn) :
    Calls Try.prog 27 #[.pointer (some ⟨cb, 0, none⟩)] W fun e w' => e = .returned (.bool dn) ∧ w' = W := by
  have x4 : W.cell? ⟨cb, 4, none⟩ = some (.bool dn) := by
    obtain ⟨hG, f, tm, at3, ct3, hA, hS, hot, ht, hT⟩ := hC
    obtain ⟨vv, vr, hc⟩ := hA.blk
    exact row_cell hc 4
  clear hC
  go_enter Try.func27, Try.ntmps27
  go_wp2
  go_ret
  exact ⟨rfl, rfl⟩
theorem done_nil (W : World) : Calls Try.prog 27 #[.pointer none] W fun e w' => e = .returned (.bool false) ∧ w' = W := by
  go_enter Try.func27, Try.ntmps27
  go_wp2
  go_ret
  exact ⟨rfl, rfl⟩
def GetOut (W : World) (o : Option (List Int)) (e : Ending) (w' : World) : Prop :=
  ∃ a c, e = .returned (.tuple #[.slice a (o.getD []).length c, .bool o.isSome]) ∧ w'.ownsRow W.heap.size 40 1 (.slice a (o.getD []).length c) (o.getD []).length ((o.getD []).map (Value.int .i32)) ∧ RowKit.Below W.heap.size W w'
set_option maxHeartbeats 1000000 in
theorem Ck.get {n0 cb bm : Nat} {t r : Option Nat} {k : Nat} {W : World} {C : List (Int × List Int)} {last : Int} {dn : Bool} (hC : Ck n0 cb bm t r k W C last dn) (id : Int) (hi : I64 id) :
    Calls Try.prog 37 #[.pointer (some ⟨cb, 0, none⟩), .int .i64 id] W fun e w' => GetOut W (Ckr.look C id) e w' := by
  obtain ⟨hG, f, tm, at3, ct3, hA, hS, hot, ht, hT⟩ := hC
  obtain ⟨vv, vr, hc⟩ := hA.blk
  have x0 : W.cell? ⟨cb, 0, none⟩ = some (.map (some bm)) := row_cell hc 0
  have hst := hS.stand hA hG
  have hlook := hS.map.look hi
  obtain ⟨a, c, hv, hsf, hlen, _⟩ := hst.at id
  rw [hv, stood_some hS] at hlook
  have C55 := hid (clone55 a _ c ((Ckr.look C id).getD []) W rfl hlen hsf.1)
  unfold CloneOut at C55
  unfold GetOut
  generalize ((Ckr.look C id).getD []).length = n at *
  generalize ((Ckr.look C id).getD []).map (Value.int .i32) = xs at *
  generalize (Ckr.look C id).isSome = b at *
  clear hG hA hS hot ht hT hc hst hv hsf hlen
  go_enter Try.func37, Try.ntmps37
  go_wp2_with (go_at_call 55; refine C55.out.mono ?_; clear C55; rintro e w2 ⟨o, k2, rfl, ho2, hB2⟩; have HO := hid (And.intro ho2 hB2); clear ho2 hB2)
  go_ret2
  exact ⟨o, k2, rfl, HO.out.1, HO.out.2⟩
theorem get_nil (W : World) (id : Int) : Calls Try.prog 37 #[.pointer none, .int .i64 id] W fun e w' => e = .returned (.tuple #[.slice none 0 0, .bool false]) ∧ w' = W := by
  go_enter Try.func37, Try.ntmps37
  go_wp2
  go_ret2
  exact ⟨rfl, rfl⟩
end Go.Proofs.Ytjjanmgeogjngaa

/- A clause is added: plain, and the call. -/
namespace Ckr
theorem place_inj {x y : Int} (h : place x = place y) : x = y := by
  have := Cnf.vr_nonneg x
  have := Cnf.vr_nonneg y
  unfold place Cnf.vr at *
  split at h <;> split at h <;> omega
theorem count_times (l : Int) (xs : List Int) : xs.countP (fun x => place x == place l) = times l xs := by
  rw [List.countP_eq_length_filter]
  unfold times
  congr 1
  apply List.filter_congr
  intro x _
  by_cases h : x = l
  · rw [h, beq_self_eq_true, beq_self_eq_true]
  · rw [beq_eq_false_iff_ne.2 h, beq_eq_false_iff_ne.2 (fun e => h (place_inj e))]
/-- The groups, one behind the other; all: all literals of the clauses that stand. -/
def coverF (F : Int → Option (List Int)) (T ls : List Int) (p : Int) : Nat → Int → Int → List Int → Int
  | 0, _, _, _ => 0
  | _ + 1, _, sn, [] => if sn < times (-p) ls then 61 else 0
  | k + 1, bf, sn, h :: hs =>
    if -h ≤ bf ∨ times (-p) ((F (-h)).getD []) = 0 then 60
    else if groupE F T ((F (-h)).getD []) p (ahead hs) = 0 then coverF F T ls p k (-h) (sn + times (-p) ((F (-h)).getD [])) (behind hs)
    else groupE F T ((F (-h)).getD []) p (ahead hs)
/-- Why a clause does not follow by hints; 0: it does. -/
def followsF (F : Int → Option (List Int)) (ls lits hs : List Int) : Int :=
  if (denyL 0 [] lits).1 then 0
  else if (thru F (denyL 0 [] lits).2 (ahead hs)).1 = 0 ∧ 0 < lits.length then coverF F (thru F (denyL 0 [] lits).2 (ahead hs)).2 ls (lits.getD 0 0) ((behind hs).length + 1) 0 0 (behind hs)
  else toldE (thru F (denyL 0 [] lits).2 (ahead hs)).1
theorem coverF_eq {tm ls : List Int} (h : Tm tm ls) (F : Int → Option (List Int)) (T : List Int) (p : Int) : ∀ k bf sn hs, coverL F T tm p k bf sn hs = coverF F T ls p k bf sn hs := by
  intro k
  induction k with
  | zero => intro bf sn hs; simp [coverL, coverF]
  | succ k ih =>
    intro bf sn hs
    cases hs with
    | nil => rw [coverL, coverF, h.at_, count_times]
    | cons x hs => rw [coverL, coverF, ih]
theorem followsF_eq {tm ls : List Int} (h : Tm tm ls) (F : Int → Option (List Int)) (lits hs : List Int) : followsE F tm [] lits hs = followsF F ls lits hs := by
  unfold followsE followsF
  rw [coverF_eq h]
/-- The error of adding a clause. -/
def addE (C : List (Int × List Int)) (last : Int) (s : Lra.Stp) : Int :=
  if s.id ≤ last then 62
  else if followsF (look C) (all C) s.lits s.hints = 0 then (if (16777216 : Int) - (all C).length < s.lits.length then 3 else 0)
  else followsF (look C) (all C) s.lits s.hints
end Ckr
namespace Go.Proofs.Ytjjanmgeogjngaa
open Go.RowKit Go.Maps
set_option linter.unusedVariables false

/-- A step whose rows the checker does not turn. -/
structure ArgS (n0 cb bm : Nat) (t r : Option Nat) (W : World) (a1 a2 : Option Addr) (c2 : Nat) (s : Lra.Stp) : Prop where
  v : StpV W a1 a2 s
  l : ArgL n0 cb bm t r W a1 s.lits
  h : ArgH n0 cb bm t r W a2 s.hints
  c : s.hints.length ≤ c2 ∧ c2 ≤ maxLen
  n : s.lits.length ≤ 16777216 ∧ s.hints.length ≤ 1048576
theorem ArgS.fp {n0 cb bm : Nat} {t t' r r' : Option Nat} {W W' : World} {a1 a2 : Option Addr} {c2 : Nat} {s : Lra.Stp} (h : ArgS n0 cb bm t r W a1 a2 c2 s) (k : Fp n0 cb bm t r W W') (ht : Nw W t t') (hr : Nw W r r') : ArgS n0 cb bm t' r' W' a1 a2 c2 s :=
  ⟨⟨(h.l.fp k ht hr).1, (h.h.fp k ht hr).1, h.v.k, h.v.i, h.v.n⟩, h.l.fp k ht hr, h.h.fp k ht hr, h.c, h.n⟩
def AddOut (n0 cb bm : Nat) (t r : Option Nat) (k : Nat) (W : World) (q : Int) (C : List (Int × List Int)) (last : Int) (dn : Bool) (e : Ending) (W' : World) : Prop :=
  e = .returned (.int .i64 q) ∧ ∃ t' r' k', k' ≤ k + 1 ∧ Ck n0 cb bm t' r' k' W' C last dn ∧ Fp n0 cb bm t r W W' ∧ Nw W t t' ∧ Nw W r r'
def AddTo (n0 cb bm : Nat) (t r : Option Nat) (k : Nat) (W : World) (q : Int) (C : List (Int × List Int)) (last : Int) (dn : Bool) (s : Lra.Stp) (e : Ending) (W' : World) : Prop :=
  AddOut n0 cb bm t r k W q (if q = 0 then C ++ [(s.id, s.lits)] else C) (if q = 0 then s.id else last) (if q = 0 then dn || s.lits.isEmpty else dn) e W'
theorem AddTo.err {n0 cb bm : Nat} {t r : Option Nat} {k : Nat} {W : World} {q : Int} {C : List (Int × List Int)} {last : Int} {dn : Bool} {s : Lra.Stp} {e : Ending} {W' : World} (hq : ¬ q = 0) (h : AddOut n0 cb bm t r k W q C last dn e W') : AddTo n0 cb bm t r k W q C last dn s e W' := by
  unfold AddTo; rw [if_neg hq, if_neg hq, if_neg hq]; exact h
def FolOut (n0 cb bm : Nat) (t r : Option Nat) (k : Nat) (W : World) (q : Int) (C : List (Int × List Int)) (last : Int) (dn : Bool) (e : Ending) (W' : World) : Prop :=
  e = .returned (.int .i64 q) ∧ ∃ r', Ck n0 cb bm t r' k W' C last dn ∧ Fp n0 cb bm t r W W' ∧ Nw W r r'
theorem Ck.follows {n0 cb bm : Nat} {t r : Option Nat} {k : Nat} {W : World} {C : List (Int × List Int)} {last : Int} {dn : Bool} (hC : Ck n0 cb bm t r k W C last dn) (al : Option Addr) (cl : Nat) (lits : List Int) (ah : Option Addr) (ch : Nat) (hs : List Int)
    (hbl : lits.length ≤ 16777216) (hxl : ArgL n0 cb bm t r W al lits) (hll : ∀ x ∈ lits, x ≠ 0 ∧ -1048576 ≤ x ∧ x ≤ 1048576) (hbh : hs.length ≤ 1048576) (hcn : hs.length ≤ ch) (hcm : ch ≤ maxLen) (hxh : ArgH n0 cb bm t r W ah hs) (hhb : ∀ h ∈ hs, -4611686018427387903 ≤ h ∧ h ≤ 4611686018427387903) :
    Calls Try.prog 61 #[.pointer (some ⟨cb, 0, none⟩), .slice al lits.length cl, .slice ah hs.length ch] W fun e W' => FolOut n0 cb bm t r k W (Ckr.followsF (Ckr.look C) (Ckr.all C) lits hs) C last dn e W' := by
  obtain ⟨hG, f, tm, at3, ct3, hA, hS, hot, ht, hT⟩ := hC
  have hSt := hS.stand hA hG
  have hb := hT.bound hG.few
  have htm : SafeH n0 cb r W at3 tm := by
    refine ⟨own_row hot (fun x hx => by have := hb x hx; omega), fun g off e hx => ?_⟩
    obtain ⟨g', c', cur, e1, _, hg', _⟩ := own_some hot (List.length_pos_iff.2 hx)
    cases e
    cases e1
    obtain ⟨vals, vv, vr, hr, hcb, hsz, hc, hov, hott, hV⟩ := hA
    refine ⟨(Array.getElem?_eq_some_iff.1 hg').1, ?_, ?_, fun _ cs fr e => ?_⟩
    · rintro rfl; rw [hc] at hg'; injection hg' with e1; injection e1 with _ e2; cases e2
    · rw [hr]; exact own_type hott hg' (by decide)
    · rw [hg'] at e; injection e with e1; injection e1 with _ e2; cases e2
  refine (follows61 n0 cb bm k f (Ckr.look C) (.int .i64 last) (.int .i64 (Ckr.all C).length) (.bool dn) tm at3 ct3 al _ cl lits ah _ ch hs W r hA hSt htm (by have := hT.len; omega) (fun x hx => by have := hb x hx; omega) rfl hbl hxl.safe hll rfl hbh hcn hcm hxh.safe hhb).mono ?_
  rintro e W' ⟨rfl, r', hA', hK, hN⟩
  rw [Ckr.followsF_eq hT]
  have hot' : W'.ownsRow n0 3 1 (.slice at3 tm.length ct3) tm.length (tm.map (Value.int .i64)) := own_keep hot (fun g cs hg hgc => by
    obtain ⟨vals, vv, vr, hr, hcb, hsz, hc, hov, hott, hV⟩ := hA
    refine hK.block g (Array.getElem?_eq_some_iff.1 hgc).1 ?_ ?_ (fun _ cs' fr e => ?_)
    · rintro rfl; rw [hc] at hgc; injection hgc with e1; injection e1 with _ e2; cases e2
    · rw [hr]; exact own_type hott hgc (by decide)
    · rw [hgc] at e; injection e with e1; injection e1 with _ e2; cases e2)
  exact ⟨rfl, r', ⟨hG, f, tm, at3, ct3, hA', hS.kp hA hK hN, hot', ht, hT⟩, Fp.of_kp hK (hS.map_kp hA hK), hN⟩
set_option maxRecDepth 100000 in
set_option maxHeartbeats 4000000 in
theorem add45 (n0 cb bm : Nat) (t r : Option Nat) (k : Nat) (W : World) (C : List (Int × List Int)) (last : Int) (dn : Bool) (s : Lra.Stp) (a1 : Option Addr) (c1 : Nat) (a2 : Option Addr) (c2 : Nat) (hC : Ck n0 cb bm t r k W C last dn) (hk : k < maxLen) (hs : ArgS n0 cb bm t r W a1 a2 c2 s) (hm : Lra.may s = true) (hk1 : s.kind = 1) :
    Calls Try.prog 45 #[.pointer (some ⟨cb, 0, none⟩), sval s a1 c1 a2 c2] W fun e W' => AddTo n0 cb bm t r k W (Ckr.addE C last s) C last dn s e W' := by
  unfold sval
  have hB := below_box W (.cells #[.int .u8 s.kind, .int .i64 s.id, .slice a1 s.lits.length c1, .slice a2 s.hints.length c2] 44)
  have hx := heap_alloc_new W (.cells #[.int .u8 s.kind, .int .i64 s.id, .slice a1 s.lits.length c1, .slice a2 s.hints.length c2] 44)
  have hm2 : Lra.added s.id = true ∧ s.lits.all Lra.literal = true ∧ s.hints.all Lra.hint = true := by
    unfold Lra.may at hm
    rw [if_pos hk1] at hm
    simp only [Bool.and_eq_true] at hm
    exact ⟨hm.1, hm.2.1, hm.2.2⟩
  have hid1 : 1 ≤ s.id ∧ s.id ≤ 4611686018427387903 := by simpa [Lra.added] using hm2.1
  have hlit : ∀ x ∈ s.lits, x ≠ 0 ∧ -1048576 ≤ x ∧ x ≤ 1048576 := fun x hx => by
    have := List.all_eq_true.1 hm2.2.1 x hx
    simpa [Lra.literal] using this
  have hhnt : ∀ x ∈ s.hints, -4611686018427387903 ≤ x ∧ x ≤ 4611686018427387903 := fun x hx => by
    have := List.all_eq_true.1 hm2.2.2 x hx
    simp [Lra.hint] at this
    omega
  have hdB : Below W.heap.size W (W.alloc (.cells #[.int .u8 s.kind, .int .i64 s.id, .slice a1 s.lits.length c1, .slice a2 s.hints.length c2] 44)) := hB
  generalize hW1 : W.alloc (.cells #[.int .u8 s.kind, .int .i64 s.id, .slice a1 s.lits.length c1, .slice a2 s.hints.length c2] 44) = W1 at hx hdB
  obtain ⟨z1, z2, z3, z4, z5⟩ := hC.facts
  have hcl : cb < W.heap.size ∧ bm < W.heap.size := by
    obtain ⟨f, tm, at3, ct3, hA, hS, ho, ht, hT⟩ := hC.mem
    obtain ⟨vv, vr, hc⟩ := hA.blk
    exact ⟨(Array.getElem?_eq_some_iff.1 hc).1, hS.map.lt⟩
  have haw : Away n0 cb bm t r W1 W.heap.size := ⟨(Array.getElem?_eq_some_iff.1 hx).1, by omega, by omega, fun e => by have := (z3 _ e.symm).2; omega, fun e => by have := (z4 _ e.symm).2; omega, fun _ cs fr e => by rw [hx] at e; injection e with e1; injection e1 with _ e2; cases e2⟩
  have CF := hid (fun W2 (hB2 : Below W.heap.size W W2) => (hC.below hB2).follows a1 c1 s.lits a2 c2 s.hints hs.n.1 (hs.l.fp (Fp.of_below hB2) (Nw.refl _ _) (Nw.refl _ _)) hlit hs.n.2 hs.c.1 hs.c.2 (hs.h.fp (Fp.of_below hB2) (Nw.refl _ _) (Nw.refl _ _)) hhnt)
  have HAW := hid (fun W2 (hB2 : Below W1.heap.size W1 W2) => haw.fp (t' := t) (r' := r) (Fp.of_below hB2) (Nw.refl _ _) (Nw.refl _ _))
  have HX := hid hx
  have HdB := hid hdB
  have HST := hid (fun W3 r3 (hF3 : Fp n0 cb bm t r W W3) (hr3 : Nw W r r3) (hC3 : Ck n0 cb bm t r3 k W3 C last dn) (hlast : last < s.id) (hf : (Ckr.all C).length + s.lits.length ≤ 16777216) =>
    stand40 n0 cb bm t r3 k W3 C last dn s.id a1 _ c1 s.lits hC3 hk hlast hid1.2 rfl (hs.l.fp hF3 (Nw.refl _ _) hr3) hlit hf)
  have x1 : W1.cell? ⟨W.heap.size, 1, none⟩ = some (.int .i64 s.id) := row_cell hx 1
  have x2 : W1.cell? ⟨W.heap.size, 2, none⟩ = some (.slice a1 s.lits.length c1) := row_cell hx 2
  have x3 : W1.cell? ⟨W.heap.size, 3, none⟩ = some (.slice a2 s.hints.length c2) := row_cell hx 3
  have cells : ∀ W2 t2 r2 k2, Ck n0 cb bm t2 r2 k2 W2 C last dn → W2.cell? ⟨cb, 1, none⟩ = some (.int .i64 last) ∧ W2.cell? ⟨cb, 2, none⟩ = some (.int .i64 (Ckr.all C).length) := by
    intro W2 t2 r2 k2 h
    obtain ⟨f, tm, at3, ct3, hA, hS, ho, ht, hT⟩ := h.mem
    obtain ⟨vv, vr, hc⟩ := hA.blk
    exact ⟨row_cell hc 1, row_cell hc 2⟩
  have HCE := hid cells
  have HC1 := hid (hC.below hdB)
  have y1 := (cells W1 t r k HC1.out).1
  have HAll := hid hC.good.few
  have hE : Hid (Ckr.addE C last s = if s.id ≤ last then 62 else if Ckr.followsF (Ckr.look C) (Ckr.all C) s.lits s.hints = 0 then (if (16777216 : Int) - (Ckr.all C).length < s.lits.length then 3 else 0) else Ckr.followsF (Ckr.look C) (Ckr.all C) s.lits s.hints) := rfl
  generalize Ckr.addE C last s = E at hE ⊢
  generalize Ckr.followsF (Ckr.look C) (Ckr.all C) s.lits s.hints = FF at hE CF
  have HN := hid hs.n
  generalize hla : (Ckr.all C).length = LA at *
  generalize hll : s.lits.length = nl at *
  generalize hlh : s.hints.length = nh at *
  generalize hsi : s.id = sid at *
  clear hC hs hm hx hB hm2 hlit hhnt hdB z1 z2 z3 z4 z5 hcl haw cells hlh hk1
  generalize s.kind = kd at *
  have HEnd := hid (fun W' (h : AddOut n0 cb bm t r k W 0 (C ++ [(s.id, s.lits)]) s.id (dn || s.lits.isEmpty) (.returned (.int .i64 0)) W') => show AddTo n0 cb bm t r k W 0 C last dn s (.returned (.int .i64 0)) W' from h)
  rw [hsi] at HEnd
  generalize (dn || s.lits.isEmpty) = dn2 at HEnd HST
  generalize s.lits = lts at *
  by_cases h1 : sid ≤ last
  · rw [if_pos h1] at hE
    clear CF HAW HX HST HCE HEnd
    go_enter Try.func45, Try.ntmps45
    go_wp2_with fail
    go_quiet (fail)
    go_wp2
    go_ret
    have HD : Below W1.heap.size W1 (W1.drewN nq) := ⟨rfl, rfl, rfl, Nat.le_refl _, fun _ _ => rfl⟩
    rw [hE.out]
    exact AddTo.err (by decide) ⟨rfl, t, r, k, by omega, HC1.out.below HD, Fp.of_below (HdB.out.trans (HD.mono HdB.out.size)), Nw.refl _ _, Nw.refl _ _⟩
  · rw [if_neg h1] at hE
    have hZ0 := HAll.out
    obtain ⟨Z, hZ⟩ : ∃ Z : Int, (16777216 : Int) - LA = Z := ⟨_, rfl⟩
    have wZ : wrap64 Z = Z := by unfold wrap64; omega
    have HLim := hid (fun (h : ¬ Z < nl) => show LA + nl ≤ 16777216 by omega)
    have h1' : last < sid := by omega
    rw [hZ] at hE
    clear hZ0
    by_cases hF : FF = 0
    · rw [if_pos hF] at hE
      subst hF
      by_cases hlim : Z < nl
      · rw [if_pos hlim] at hE
        go_enter Try.func45, Try.ntmps45
        go_wp2_with fail
        go_quiet (fail)
        have HD : Below W1.heap.size W1 (W1.drewN nq) := ⟨rfl, rfl, rfl, Nat.le_refl _, fun _ _ => rfl⟩
        have u1 : (W1.drewN nq).cell? ⟨W.heap.size, 1, none⟩ = some (.int .i64 sid) := x1
        have u2 : (W1.drewN nq).cell? ⟨W.heap.size, 2, none⟩ = some (.slice a1 nl c1) := x2
        have u3 : (W1.drewN nq).cell? ⟨W.heap.size, 3, none⟩ = some (.slice a2 nh c2) := x3
        generalize hw2 : W1.drewN nq = W2 at HD u1 u2 u3
        have C61 := hid (CF.out W2 (HdB.out.trans (HD.mono HdB.out.size)))
        have HA2 := hid (HAW.out W2 HD)
        have HF2 := hid (show Fp n0 cb bm t r W W2 from Fp.of_below (HdB.out.trans (HD.mono HdB.out.size)))
        have HsW := hid (Nat.le_trans HdB.out.size HD.size)
        clear hw2 HD x1 x2 x3 y1 hW1
        go_wp2_with (go_at_call 61; refine C61.out.mono ?_; clear C61; rintro e W3 ⟨rfl, r3, hC3, hF3, hN3⟩
                     have v2 : W3.cell? ⟨W.heap.size, 2, none⟩ = some (.slice a1 nl c1) := (World.cell?_of_block (a := ⟨W.heap.size, 2, none⟩) (HA2.out.same hF3)).trans u2
                     have v1 : W3.cell? ⟨W.heap.size, 1, none⟩ = some (.int .i64 sid) := (World.cell?_of_block (a := ⟨W.heap.size, 1, none⟩) (HA2.out.same hF3)).trans u1
                     have p2 := (HCE.out W3 t r3 k hC3).2
                     have HC3 := hid hC3
                     have HF3 := hid (HF2.out.trans hF3 (Nw.refl _ _) (Nw.refl _ _))
                     have HN3 := hid (Nw.trans (Nw.refl W r) hN3 HsW.out)
                     clear hC3 hF3 hN3)
        go_quiet (fail)
        go_wp2
        go_ret
        have HD3 : Below W3.heap.size W3 (W3.drewN nq) := ⟨rfl, rfl, rfl, Nat.le_refl _, fun _ _ => rfl⟩
        rw [hE.out]
        exact AddTo.err (by decide) ⟨rfl, t, r3, k, by omega, HC3.out.below HD3, HF3.out.trans (Fp.of_below HD3) (Nw.refl _ _) HN3.out, Nw.refl _ _, HN3.out⟩
      · rw [if_neg hlim] at hE
        have HL2 := hid (HLim.out hlim)
        go_enter Try.func45, Try.ntmps45
        go_wp2_with fail
        go_quiet (fail)
        have HD : Below W1.heap.size W1 (W1.drewN nq) := ⟨rfl, rfl, rfl, Nat.le_refl _, fun _ _ => rfl⟩
        have u1 : (W1.drewN nq).cell? ⟨W.heap.size, 1, none⟩ = some (.int .i64 sid) := x1
        have u2 : (W1.drewN nq).cell? ⟨W.heap.size, 2, none⟩ = some (.slice a1 nl c1) := x2
        have u3 : (W1.drewN nq).cell? ⟨W.heap.size, 3, none⟩ = some (.slice a2 nh c2) := x3
        generalize hw2 : W1.drewN nq = W2 at HD u1 u2 u3
        have C61 := hid (CF.out W2 (HdB.out.trans (HD.mono HdB.out.size)))
        have HA2 := hid (HAW.out W2 HD)
        have HF2 := hid (show Fp n0 cb bm t r W W2 from Fp.of_below (HdB.out.trans (HD.mono HdB.out.size)))
        have HsW := hid (Nat.le_trans HdB.out.size HD.size)
        clear hw2 HD x1 x2 x3 y1 hW1
        go_wp2_with (go_at_call 61; refine C61.out.mono ?_; clear C61; rintro e W3 ⟨rfl, r3, hC3, hF3, hN3⟩
                     have v2 : W3.cell? ⟨W.heap.size, 2, none⟩ = some (.slice a1 nl c1) := (World.cell?_of_block (a := ⟨W.heap.size, 2, none⟩) (HA2.out.same hF3)).trans u2
                     have v1 : W3.cell? ⟨W.heap.size, 1, none⟩ = some (.int .i64 sid) := (World.cell?_of_block (a := ⟨W.heap.size, 1, none⟩) (HA2.out.same hF3)).trans u1
                     have p2 := (HCE.out W3 t r3 k hC3).2
                     have HC3 := hid hC3
                     have HF3 := hid (HF2.out.trans hF3 (Nw.refl _ _) (Nw.refl _ _))
                     have HN3 := hid (Nw.trans (Nw.refl W r) hN3 HsW.out)
                     clear hC3 hF3 hN3)
        go_quiet (fail)
        have HD3 : Below W3.heap.size W3 (W3.drewN nq) := ⟨rfl, rfl, rfl, Nat.le_refl _, fun _ _ => rfl⟩
        have t1 : (W3.drewN nq).cell? ⟨W.heap.size, 1, none⟩ = some (.int .i64 sid) := v1
        have t2 : (W3.drewN nq).cell? ⟨W.heap.size, 2, none⟩ = some (.slice a1 nl c1) := v2
        generalize hw4 : W3.drewN nq = W4 at HD3 t1 t2
        have HF4 := hid (HF3.out.trans (Fp.of_below HD3) (Nw.refl _ _) HN3.out)
        have C40 := hid (HST.out W4 r3 HF4.out HN3.out (HC3.out.below HD3) h1' HL2.out)
        have HS4 := hid (Nat.le_trans HF3.out.size HD3.size)
        clear hw4 HD3
        go_wp2_with (go_at_call 40; refine C40.out.mono ?_; clear C40; rintro e W5 ⟨rfl, t5, hC5, hF5, hN5⟩
                     have OUT := hid (HEnd.out W5 ⟨rfl, t5, r3, k + 1, Nat.le_refl _, hC5, HF4.out.trans hF5 (Nw.refl _ _) HN3.out, Nw.trans (Nw.refl W t) hN5 HS4.out, HN3.out⟩)
                     clear hC5 hF5 hN5)
        go_ret
        rw [hE.out]
        exact OUT.out
    · rw [if_neg hF] at hE
      have hF1 : (FF == 0) = false := by simpa using hF
      have hF2 : (FF != 0) = true := by simpa using hF
      have HF0 := hid hF
      clear hF
      go_enter Try.func45, Try.ntmps45
      go_wp2_with fail
      go_quiet (fail)
      have HD : Below W1.heap.size W1 (W1.drewN nq) := ⟨rfl, rfl, rfl, Nat.le_refl _, fun _ _ => rfl⟩
      have u2 : (W1.drewN nq).cell? ⟨W.heap.size, 2, none⟩ = some (.slice a1 nl c1) := x2
      have u3 : (W1.drewN nq).cell? ⟨W.heap.size, 3, none⟩ = some (.slice a2 nh c2) := x3
      generalize hw2 : W1.drewN nq = W2 at HD u2 u3
      have C61 := hid (CF.out W2 (HdB.out.trans (HD.mono HdB.out.size)))
      have HF2 := hid (show Fp n0 cb bm t r W W2 from Fp.of_below (HdB.out.trans (HD.mono HdB.out.size)))
      have HsW := hid (Nat.le_trans HdB.out.size HD.size)
      clear hw2 HD x1 x2 x3 y1 hW1
      go_wp2_with (go_at_call 61; refine C61.out.mono ?_; clear C61; rintro e W3 ⟨rfl, r3, hC3, hF3, hN3⟩
                   have HC3 := hid hC3
                   have HF3 := hid (HF2.out.trans hF3 (Nw.refl _ _) (Nw.refl _ _))
                   have HN3 := hid (Nw.trans (Nw.refl W r) hN3 HsW.out)
                   clear hC3 hF3 hN3)
      go_ret
      rw [hE.out]
      exact AddTo.err HF0.out ⟨rfl, t, r3, k, by omega, HC3.out, HF3.out, Nw.refl _ _, HN3.out⟩
end Go.Proofs.Ytjjanmgeogjngaa

/- Clauses are deleted: plain, and one of them. -/
namespace Ckr
/-- May these clauses go? -/
def remOK (C : List (Int × List Int)) (ids : List Int) : Bool := ids.all (fun i => (look C i).isSome) && decide ids.Nodup
def dropL (C : List (Int × List Int)) (ids : List Int) : List (Int × List Int) := ids.foldl drop1 C
theorem dropL_snoc (C : List (Int × List Int)) (ids : List Int) (i : Int) : dropL C (ids ++ [i]) = drop1 (dropL C ids) i := by simp [dropL]
theorem look_dropL (ids : List Int) : ∀ (C : List (Int × List Int)) (k : Int), look (dropL C ids) k = if k ∈ ids then none else look C k := by
  induction ids with
  | nil => intro C k; simp [dropL]
  | cons i ids ih =>
    intro C k
    show look (dropL (drop1 C i) ids) k = _
    rw [ih, look_drop1]
    by_cases h1 : k ∈ ids
    · simp [h1]
    · by_cases h2 : k = i <;> simp [h1, h2]
theorem Good.dropL {last : Int} (ids : List Int) : ∀ {C : List (Int × List Int)}, Good C last → Good (dropL C ids) last := by
  induction ids with
  | nil => intro C h; exact h
  | cons i ids ih => intro C h; exact ih (h.drop1 i)
/-- Of ids in order: does each stand, and is none like the one before? -/
def rise (C : List (Int × List Int)) (zs : List Int) (k : Nat) : Prop := ∀ j, j < k → (look C (zs.getD j 0)).isSome = true ∧ (0 < j → zs.getD j 0 ≠ zs.getD (j - 1) 0)
theorem rise_all {C : List (Int × List Int)} {ids zs : List Int} (hp : zs.Perm ids) (hs : zs.Pairwise (· ≤ ·)) (h : rise C zs zs.length) : remOK C ids = true := by
  unfold remOK
  rw [Bool.and_eq_true]
  refine ⟨List.all_eq_true.2 (fun i hi => ?_), decide_eq_true ?_⟩
  · obtain ⟨j, hj, e⟩ := List.mem_iff_getElem.1 (hp.symm.subset hi)
    have := (h j hj).1
    rwa [List.getD, List.getElem?_eq_getElem hj, e] at this
  · refine (hp.nodup_iff).1 ?_
    rw [List.Nodup, List.pairwise_iff_getElem]
    intro i j hi hj hij e
    have h1 := (h j hj).2 (by omega)
    rw [List.getD, List.getD, List.getElem?_eq_getElem hj, List.getElem?_eq_getElem (show j - 1 < zs.length by omega)] at h1
    simp only [Option.getD_some] at h1
    have h2 := List.pairwise_iff_getElem.1 hs (j - 1) j (by omega) hj (by omega)
    rcases Nat.lt_or_ge i (j - 1) with h3 | h3
    · have h4 := List.pairwise_iff_getElem.1 hs i (j - 1) hi (by omega) h3
      omega
    · obtain rfl : i = j - 1 := by omega
      exact h1 e.symm
theorem rise_no {C : List (Int × List Int)} {ids zs : List Int} (hp : zs.Perm ids) {k : Nat} (hk : k < zs.length) (h : (look C (zs.getD k 0)).isSome = false ∨ (0 < k ∧ zs.getD k 0 = zs.getD (k - 1) 0)) : remOK C ids = false := by
  cases e : remOK C ids with
  | false => rfl
  | true =>
    unfold remOK at e
    rw [Bool.and_eq_true] at e
    exfalso
    rcases h with h | ⟨h1, h2⟩
    · have := List.all_eq_true.1 e.1 (zs.getD k 0) (hp.subset (Lra.getD_mem zs k hk))
      rw [h] at this; cases this
    · have hn := (hp.nodup_iff).2 (of_decide_eq_true e.2)
      have := List.pairwise_iff_getElem.1 hn (k - 1) k (by omega) hk (by omega)
      rw [List.getD, List.getD, List.getElem?_eq_getElem hk, List.getElem?_eq_getElem (show k - 1 < zs.length by omega)] at h2
      exact this h2.symm
end Ckr
namespace Go.Proofs.Ytjjanmgeogjngaa
open Go.RowKit Go.Maps
set_option linter.unusedVariables false

/-- A clause is counted off, and deleted. -/
theorem rem_mid {n0 cb bm : Nat} {t r : Option Nat} {k : Nat} {W : World} {C : List (Int × List Int)} {last : Int} {dn : Bool} (hC : Ck n0 cb bm t r k W C last dn) (id : Int) (hi : I64 id) (xs : List Int) (hx : Ckr.look C id = some xs) (ty : TypeId) :
    ∃ a c, W.cell? ⟨cb, 0, none⟩ = some (.map (some bm)) ∧ (Instr.lookup 71 (.map (some bm)) (.int .i64 id) false).run Try.prog W = .ok (.slice a xs.length c) W ∧
      Calls Try.prog 57 #[.pointer (some ⟨cb, 0, none⟩), .slice a xs.length c, .int .i64 (-1)] W fun e W4 => e = .returned (.tuple #[]) ∧ W4.cell? ⟨cb, 0, none⟩ = some (.map (some bm)) ∧ ∃ W5, (Builtin.delete_ #[71, 2] ty #[.map (some bm), .int .i64 id]).run Try.prog W4 = .ok (.tuple #[]) W5 ∧
        ∃ t', Ck n0 cb bm t' r k W5 (Ckr.drop1 C id) last dn ∧ Fp n0 cb bm t r W W5 ∧ Nw W t t' := by
  obtain ⟨hG, f, tm, at3, ct3, hA, hS, hot, ht, hT⟩ := hC
  obtain ⟨vv, vr, hc⟩ := hA.blk
  have hlook := hS.map.look1 hi
  have hst := hS.stand hA hG
  have hmem := Ckr.look_mem hx
  have hfid : ∃ v, f id = some v := by
    cases h : f id with
    | none => rw [hS.none_ id h] at hx; cases hx
    | some v => exact ⟨v, rfl⟩
  obtain ⟨v, hv⟩ := hfid
  obtain ⟨ys, hF, ho, hne⟩ := hS.some_ id v hv
  obtain rfl : ys = xs := by rw [hx] at hF; cases hF; rfl
  obtain ⟨a, c, rfl⟩ := own_slc ho
  rw [hv] at hlook
  have hlit : ∀ x ∈ ys, x ≠ 0 ∧ -1048576 ≤ x ∧ x ≤ 1048576 := fun x hx => hG.lits x (Ckr.mem_all hmem x hx)
  have hlen : ys.length ≤ 16777216 := by have := Ckr.len_all hmem; have := hG.few; simp only at *; omega
  have hTb := hT.bound hG.few
  refine ⟨a, c, row_cell hc 0, hlook, ?_⟩
  refine (count57 n0 cb (.map (some bm)) (.int .i64 last) (.bool dn) (Ckr.all C).length (-1) tm at3 ct3 a _ c ys W [] r hA hot rfl hlen (own_row ho (fun x hx => by have := hlit x hx; omega)) (fun g off e hne' => ?_) (fun x hx => (hlit x hx).2) (.inr rfl) (by have := hG.few; omega) (by have := hT.len; omega) (fun x hx => by have := hTb x hx; omega)).mono ?_
  · obtain ⟨g', c', cur, e1, _, hg', _⟩ := own_some ho (List.length_pos_iff.2 hne')
    cases e
    cases e1
    exact ⟨(by rintro rfl; rw [hc] at hg'; injection hg' with e1; injection e1 with _ e2; cases e2), own_type hot hg' (by decide)⟩
  · rintro e W4 ⟨rfl, at4, ct4, hA4, ho4, hT4, hN4⟩
    have hS4 := hS.tw hA hot rfl hT4.toTw
    have hbm4 := hS.map_tw hA hot rfl hT4.toTw
    obtain ⟨vv4, vr4, hc4⟩ := hA4.blk
    obtain ⟨W5, hr, hM5, hTn⟩ := hS4.map.del hi ty
    have hg := hTn.grown
    have keep : ∀ (g : Nat) (cs : Array Value) (ty : TypeId) (fr : Nat × Nat), W4.heap[g]? = some (.cells cs ty fr) → W5.heap[g]? = W4.heap[g]? := fun g cs ty fr h => hg.block g (Array.getElem?_eq_some_iff.1 h).1 (by intro e; injection e with e; exact hS4.map.ne h e)
    refine ⟨rfl, row_cell hc4 0, W5, hr, _, ⟨hG.drop1 id, upd f id none, Ckr.countL (-1) tm ys, at4, ct4, ?_, ⟨hM5, hS.base, fun j hj => ?_, fun j v hj => ?_⟩, own_keep ho4 (fun g cs _ h => keep g _ _ _ h), rfl, hT.minus (Ckr.all_drop1 hG.sorted hx) (fun x hx => (hlit x hx).2)⟩, ?_, ?_⟩
    · have h := hA4.keep hg.size keep
      have e : ((Ckr.all C).length : Int) + -1 * (ys.length : Int) = ((Ckr.all (Ckr.drop1 C id)).length : Int) := by
        have := (Ckr.all_drop1 hG.sorted hx).length_eq
        rw [List.length_append] at this
        omega
      rw [e] at h
      exact h
    · rw [Ckr.look_drop1]
      unfold upd at hj
      by_cases e : j = id
      · rw [if_pos e]
      · rw [if_neg e] at hj ⊢; exact hS.none_ j hj
    · rw [Ckr.look_drop1]
      unfold upd at hj
      by_cases e : j = id
      · rw [if_pos e] at hj; cases hj
      · rw [if_neg e] at hj ⊢
        obtain ⟨zs, h1, h2, h3⟩ := hS4.some_ j v hj
        exact ⟨zs, h1, own_keep h2 (fun g cs _ h => keep g _ _ _ h), h3⟩
    · rw [← ht] at hT4
      exact (Fp.of_tw hT4 hbm4).trans (Fp.of_map hTn (hS4.map.ne hc4) (fun g hg => (Rs.put hS4.map hM5 hg).imp (fun h => h) (fun h => by obtain ⟨v, e, _⟩ := h; cases e))) (Nw.refl _ _) (Nw.refl _ _)
    · rw [← ht] at hN4; exact hN4
end Go.Proofs.Ytjjanmgeogjngaa

/- Clauses are deleted: the call. -/
namespace Go.Proofs.Ytjjanmgeogjngaa
open Go.RowKit Go.Maps
set_option linter.unusedVariables false

def RemOut (n0 cb bm : Nat) (t r : Option Nat) (k : Nat) (W : World) (q : Int) (C : List (Int × List Int)) (last : Int) (dn : Bool) (e : Ending) (W' : World) : Prop :=
  e = .returned (.int .i64 q) ∧ ∃ t', Ck n0 cb bm t' r k W' C last dn ∧ Fp n0 cb bm t r W W' ∧ Nw W t t'
def RemTo (n0 cb bm : Nat) (t r : Option Nat) (k : Nat) (W : World) (C : List (Int × List Int)) (ids : List Int) (last : Int) (dn : Bool) (e : Ending) (W' : World) : Prop :=
  RemOut n0 cb bm t r k W (if Ckr.remOK C ids then 0 else 5) (if Ckr.remOK C ids then Ckr.dropL C ids else C) last dn e W'
theorem srt_perm (zs : List Int) : (srt zs).Perm zs := List.mergeSort_perm _ _
theorem srt_sorted (zs : List Int) : (srt zs).Pairwise (· ≤ ·) := by
  have h2 := List.pairwise_mergeSort (le := fun x y : Int => decide (x ≤ y)) (fun a b c h1 h2 => by simp at *; omega) (fun a b => by simp; omega) zs
  exact h2.imp (fun h => by simpa using h)
theorem ne_case (C : List (Int × List Int)) (zs : List Int) (k : Nat) (h : Ckr.rise C zs k) : ((Ckr.look C (zs.getD k 0)).isSome = false) ∨ ((Ckr.look C (zs.getD k 0)).isSome = true ∧ k = 0 ∧ Ckr.rise C zs (k + 1)) ∨ ((Ckr.look C (zs.getD k 0)).isSome = true ∧ 0 < k ∧ zs.getD k 0 = zs.getD (k - 1) 0) ∨ ((Ckr.look C (zs.getD k 0)).isSome = true ∧ 0 < k ∧ zs.getD k 0 ≠ zs.getD (k - 1) 0 ∧ Ckr.rise C zs (k + 1)) := by
  cases e : (Ckr.look C (zs.getD k 0)).isSome with
  | false => exact .inl rfl
  | true =>
    right
    by_cases h0 : k = 0
    · refine .inl ⟨rfl, h0, fun j hj => ?_⟩
      obtain rfl : j = k := by omega
      exact ⟨e, fun h => by omega⟩
    · right
      by_cases h1 : zs.getD k 0 = zs.getD (k - 1) 0
      · exact .inl ⟨rfl, by omega, h1⟩
      · refine .inr ⟨rfl, by omega, h1, fun j hj => ?_⟩
        rcases Nat.lt_or_ge j k with h2 | h2
        · exact h j h2
        · obtain rfl : j = k := by omega
          exact ⟨e, fun _ => h1⟩

theorem rem_look {C : List (Int × List Int)} {ids : List Int} (h : Ckr.remOK C ids = true) {k : Nat} (hk : k < ids.length) : ∃ xs, Ckr.look (Ckr.dropL C (ids.take k)) (ids.getD k 0) = some xs := by
  unfold Ckr.remOK at h
  rw [Bool.and_eq_true] at h
  have h1 := List.all_eq_true.1 h.1 _ (Lra.getD_mem ids k hk)
  have h2 : ids.getD k 0 ∉ ids.take k := by
    intro hm
    obtain ⟨j, hj, e⟩ := List.mem_iff_getElem.1 hm
    have hj' : j < k ∧ j < ids.length := by simp at hj; omega
    have := List.pairwise_iff_getElem.1 (of_decide_eq_true h.2) j k hj'.2 hk hj'.1
    rw [List.getElem_take, List.getD, List.getElem?_eq_getElem hk] at e
    exact this e
  rw [Ckr.look_dropL, if_neg h2]
  exact Option.isSome_iff_exists.1 h1

set_option maxRecDepth 100000 in
set_option maxHeartbeats 8000000 in
theorem remove44 (n0 cb bm : Nat) (t r : Option Nat) (k : Nat) (W : World) (C : List (Int × List Int)) (last : Int) (dn : Bool) (a : Option Addr) (n c : Nat) (ids : List Int) (hC : Ck n0 cb bm t r k W C last dn) (hn : ids.length = n) (hb : n ≤ 1048576) (hx : ArgH n0 cb bm t r W a ids) (hi : ∀ i ∈ ids, I64 i) :
    Calls Try.prog 44 #[.pointer (some ⟨cb, 0, none⟩), .slice a n c] W fun e W' => RemTo n0 cb bm t r k W C ids last dn e W' := by
  have hB := below_box W (.cells #[.slice a n c] 42)
  have hx1 := heap_alloc_new W (.cells #[.slice a n c] 42)
  have hs1 : (W.alloc (.cells #[.slice a n c] 42)).heap.size = W.heap.size + 1 := by simp
  have C60 := hid (values60 a n c W)
  generalize hW1 : W.alloc (.cells #[.slice a n c] 42) = W1 at hB hx1 hs1 C60
  have C53 := hid (sorted53v W.heap.size a c ids W1 (by omega) (by rw [hn]; exact row_cell hx1 0) (hx.1.below hB) (by omega))
  have hsl : (srt ids).length = n := by rw [← hn]; exact List.length_mergeSort _
  have HSL := hid hsl
  have HB := hid hB
  have HC := hid hC
  have HX := hid hx
  have HN := hid hn
  have HI := hid hi
  have HP := hid (And.intro (srt_perm ids) (srt_sorted ids))
  unfold SortOut at C53
  rw [hsl] at C53
  generalize srt ids = zs at C53 HSL HP
  clear hB hx1 hC hx hn hi hsl hW1
  go_enter Try.func44, Try.ntmps44
  go_wp2_with (first
    | (go_at_call 60; refine C60.out.mono ?_; clear C60; rintro e w' ⟨rfl, rfl⟩)
    | (go_at_call 53; refine C53.out.mono ?_; clear C53; rintro e W2 ⟨v, rfl, ho2, hB2⟩
       obtain ⟨az, cz, rfl⟩ := own_slc ho2
       have HO2 := hid ho2
       have HB2 := hid (HB.out.trans (hB2.mono HB.out.size))
       clear ho2 hB2))
  have HC2 := hid (HC.out.below HB2.out)
  have x0 : W2.cell? ⟨cb, 0, none⟩ = some (.map (some bm)) := by
    obtain ⟨hG, f, tm, at3, ct3, hA, hS, hot, ht, hT⟩ := HC2.out
    obtain ⟨vv, vr, hc⟩ := hA.blk
    exact row_cell hc 0
  have hlook : Hid (∀ x, I64 x → ∃ v, (Instr.lookup 71 (.map (some bm)) (.int .i64 x) true).run Try.prog W2 = .ok (.tuple #[v, .bool (Ckr.look C x).isSome]) W2) := by
    intro x hx
    obtain ⟨hG, f, tm, at3, ct3, hA, hS, hot, ht, hT⟩ := HC2.out
    refine ⟨(f x).getD (.slice none 0 0), ?_⟩
    rw [← stood_some hS]
    exact hS.map.look hx
  have HR : Hid (Hnts W2 az zs) := own_row (by rw [HSL.out]; exact HO2.out) (fun x hx => by have := HI.out x (HP.out.1.subset hx); exact this)
  have HZI := hid (fun j (hj : j < zs.length) => HI.out _ (HP.out.1.subset (Lra.getD_mem zs j hj)))
  have HNo := hid (fun j (hj : j < zs.length) h => Ckr.rise_no (C := C) HP.out.1 hj h)
  have HYes := hid (fun h => Ckr.rise_all (C := C) HP.out.1 HP.out.2 h)
  have HBad := hid (fun (h : Ckr.remOK C ids = false) => show RemTo n0 cb bm t r k W C ids last dn (.returned (.int .i64 5)) W2 by
    unfold RemTo; rw [h]; exact ⟨rfl, t, HC2.out, Fp.of_below HB2.out, Nw.refl _ _⟩)
  clear HO2 HB HP
  go_loop [17] (fun i => ∃ k1 : Nat, i = .int .i64 k1 ∧ k1 ≤ n ∧ Hid (Ckr.rise C zs k1)) (fun i => n - (intOf i).toNat)
  case atStart => exact ⟨0, rfl, by omega, hid (fun j hj => by omega)⟩
  case round =>
    obtain ⟨k1, rfl, hk1, HRi⟩ := hrel
    by_cases hlt : k1 < n
    · have hlt' : (k1 : Int) < n := by omega
      have hkl : k1 < zs.length := by rw [HSL.out]; exact hlt
      obtain ⟨bz, oz, rfl, _, hcz, _, _⟩ := Row.at HR.out (j := k1) hkl
      obtain ⟨vz, hlk⟩ := hlook.out _ (HZI.out k1 hkl)
      rcases ne_case C zs k1 HRi.out with h1 | ⟨h1, h2, h3⟩ | ⟨h1, h2, h3⟩ | ⟨h1, h2, h3, h4⟩
      · have HE := hid (HBad.out (HNo.out k1 hkl (.inl h1)))
        rw [h1] at hlk
        generalize zs.getD k1 0 = x at hcz hlk
        clear h1 HNo HYes HBad
        go_wp2
        go_ret
        exact HE.out
      · have h0 : ¬ (0 : Int) < k1 := by omega
        rw [h1] at hlk
        have H3 := hid h3
        generalize zs.getD k1 0 = x at hcz hlk
        clear h1 h2 h3 HNo HYes HBad
        go_wp2
        go_round
        case rel => exact ⟨k1 + 1, by go_num, by omega, H3⟩
        case measure => simp [intOf]; omega
      · have HE := hid (HBad.out (HNo.out k1 hkl (.inr ⟨h2, h3⟩)))
        have hp : (0 : Int) < k1 := by omega
        obtain ⟨bz2, oz2, e2, _, hcz2, _, _⟩ := Row.at HR.out (j := k1 - 1) (by omega)
        cases e2
        rw [h1] at hlk
        rw [← h3] at hcz2
        generalize zs.getD k1 0 = x at hcz hlk hcz2
        clear h1 h2 h3 HNo HYes HBad
        go_wp2
        go_ret
        exact HE.out
      · have hp : (0 : Int) < k1 := by omega
        obtain ⟨bz2, oz2, e2, _, hcz2, _, _⟩ := Row.at HR.out (j := k1 - 1) (by omega)
        cases e2
        rw [h1] at hlk
        have H4 := hid h4
        generalize zs.getD k1 0 = x at hcz hlk h3
        generalize zs.getD (k1 - 1) 0 = y at hcz2 h3
        have hne : (x == y) = false := by simpa using h3
        clear h1 h2 h3 h4 HNo HYes HBad
        go_wp2
        go_round
        case rel => exact ⟨k1 + 1, by go_num, by omega, H4⟩
        case measure => simp [intOf]; omega
    · have hge : ¬ (k1 : Int) < n := by omega
      have HOK := hid (HYes.out (by rw [HSL.out]; obtain rfl : k1 = n := by omega
                                    exact HRi.out))
      have HEnd := hid (fun W' (h : RemOut n0 cb bm t r k W 0 (Ckr.dropL C ids) last dn (.returned (.int .i64 0)) W') => show RemTo n0 cb bm t r k W C ids last dn (.returned (.int .i64 0)) W' by
        unfold RemTo; rw [HOK.out]; exact h)
      have HF2 : Hid (Fp n0 cb bm t r W W2) := Fp.of_below HB2.out
      clear HNo HYes HBad HRi hlook x0 HR HZI HSL
      go_wp2
      go_loopw [49] (fun i wr => ∃ (k2 : Nat) (t2 : Option Nat), i = .int .i64 k2 ∧ k2 ≤ n ∧ Hid (Ck n0 cb bm t2 r k wr (Ckr.dropL C (ids.take k2)) last dn) ∧ Hid (Fp n0 cb bm t r W wr ∧ Nw W t t2)) (fun i _ => n - (intOf i).toNat)
      case atStart => exact ⟨0, t, rfl, Nat.zero_le _, HC2, hid ⟨HF2.out, Nw.refl _ _⟩⟩
      case round =>
        clear HC2
        obtain ⟨k2, t2, rfl, hk2, HCk, HFp⟩ := hrel
        by_cases hlt2 : k2 < n
        · have hlt2' : (k2 : Int) < n := by omega
          have hkl2 : k2 < ids.length := by rw [HN.out]; exact hlt2
          obtain ⟨bi, oi, rfl, _, hci, _, _⟩ := Row.at (HX.out.fp HFp.out.1 HFp.out.2 (Nw.refl _ _)).1 (j := k2) hkl2
          obtain ⟨xs, hxs⟩ := rem_look HOK.out hkl2
          obtain ⟨av, cv, y0, hlk, hC57⟩ := rem_mid HCk.out (ids.getD k2 0) (HI.out _ (Lra.getD_mem ids k2 hkl2)) xs hxs 0
          have C57 := hid hC57
          have HT := hid (show Ckr.drop1 (Ckr.dropL C (ids.take k2)) (ids.getD k2 0) = Ckr.dropL C (ids.take (k2 + 1)) by rw [Lra.take_snoc ids k2 hkl2, Ckr.dropL_snoc])
          rw [HT.out] at C57
          generalize ids.getD k2 0 = x at hci hlk C57
          generalize xs.length = nx at hlk C57
          clear hxs hC57 hkl2
          go_wp2_with (first
            | (go_at_call 57; refine C57.out.mono ?_; clear C57; rintro e W4 ⟨rfl, z0, W5, hdel, t5, hC5, hF5, hN5⟩
               have HC5 := hid hC5
               have HF5 := hid (And.intro (HFp.out.1.trans hF5 HFp.out.2 (Nw.refl _ _)) (HFp.out.2.trans hN5 HFp.out.1.size))
               clear hC5 hF5 hN5))
          go_roundw
          case rel => exact ⟨k2 + 1, t5, by go_num, by omega, HC5, HF5⟩
          case measure => simp [intOf]; omega
        · have hge2 : ¬ (k2 : Int) < n := by omega
          have OUT := hid (HEnd.out wr ⟨rfl, t2, by
            have h := HCk.out
            rw [List.take_of_length_le (by rw [HN.out]; omega)] at h
            exact h, HFp.out.1, HFp.out.2⟩)
          go_wp2
          go_ret
          exact OUT.out
end Go.Proofs.Ytjjanmgeogjngaa

/- A step is taken: plain, and the call. -/
namespace Ckr
/-- A checker, plain. -/
structure St where
  C : List (Int × List Int)
  last : Int
  dn : Bool
def remS (S : St) (s : Lra.Stp) : Int × St := if remOK S.C s.hints then (0, ⟨dropL S.C s.hints, S.last, S.dn⟩) else (5, S)
def addS (S : St) (s : Lra.Stp) : Int × St := (addE S.C S.last s, if addE S.C S.last s = 0 then ⟨S.C ++ [(s.id, s.lits)], s.id, S.dn || s.lits.isEmpty⟩ else S)
/-- A step's error, and the checker behind it. -/
def stepP (S : St) (s : Lra.Stp) : Int × St := if Lra.may s then (if s.kind = 2 then remS S s else addS S s) else (40, S)
end Ckr
namespace Go.Proofs.Ytjjanmgeogjngaa
open Go.RowKit Go.Maps
set_option linter.unusedVariables false

abbrev CkS (n0 cb bm : Nat) (t r : Option Nat) (k : Nat) (W : World) (S : Ckr.St) : Prop := Ck n0 cb bm t r k W S.C S.last S.dn
def StepOut (n0 cb bm : Nat) (t r : Option Nat) (k : Nat) (W : World) (d : Int × Ckr.St) (e : Ending) (W' : World) : Prop :=
  e = .returned (.int .i64 d.1) ∧ ∃ t' r' k', k' ≤ k + 1 ∧ CkS n0 cb bm t' r' k' W' d.2 ∧ Fp n0 cb bm t r W W' ∧ Nw W t t' ∧ Nw W r r'
theorem may_kind {s : Lra.Stp} (h : Lra.may s = true) : s.kind = 1 ∨ s.kind = 2 := by
  unfold Lra.may at h
  by_cases h1 : s.kind = 1
  · exact .inl h1
  · by_cases h2 : s.kind = 2
    · exact .inr h2
    · rw [if_neg h1, if_neg h2] at h; cases h
theorem StepOut.of_add {n0 cb bm : Nat} {t r : Option Nat} {k : Nat} {W W2 : World} {S : Ckr.St} {s : Lra.Stp} {e : Ending} {W' : World} (hm : Lra.may s = true) (hk : ¬ s.kind = 2) (hB : Below W.heap.size W W2) (h : AddTo n0 cb bm t r k W2 (Ckr.addE S.C S.last s) S.C S.last S.dn s e W') : StepOut n0 cb bm t r k W (Ckr.stepP S s) e W' := by
  unfold Ckr.stepP
  rw [if_pos hm, if_neg hk]
  unfold Ckr.addS
  unfold AddTo at h
  obtain ⟨rfl, t', r', k', hk', hC, hF, hN, hN'⟩ := h
  refine ⟨rfl, t', r', k', hk', ?_, (Fp.of_below hB).trans hF (Nw.refl _ _) (Nw.refl _ _), (Nw.refl W t).trans hN hB.size, (Nw.refl W r).trans hN' hB.size⟩
  by_cases h0 : Ckr.addE S.C S.last s = 0
  · simp only [if_pos h0] at hC ⊢; exact hC
  · simp only [if_neg h0] at hC ⊢; exact hC
theorem StepOut.of_rem {n0 cb bm : Nat} {t r : Option Nat} {k : Nat} {W W2 : World} {S : Ckr.St} {s : Lra.Stp} {e : Ending} {W' : World} (hm : Lra.may s = true) (hk : s.kind = 2) (hB : Below W.heap.size W W2) (h : RemTo n0 cb bm t r k W2 S.C s.hints S.last S.dn e W') : StepOut n0 cb bm t r k W (Ckr.stepP S s) e W' := by
  unfold Ckr.stepP
  rw [if_pos hm, if_pos hk]
  unfold Ckr.remS
  unfold RemTo at h
  obtain ⟨rfl, t', hC, hF, hN⟩ := h
  cases h0 : Ckr.remOK S.C s.hints
  · rw [h0] at hC
    exact ⟨rfl, t', r, k, by omega, hC, (Fp.of_below hB).trans hF (Nw.refl _ _) (Nw.refl _ _), (Nw.refl W t).trans hN hB.size, Nw.refl _ _⟩
  · rw [h0] at hC
    exact ⟨rfl, t', r, k, by omega, hC, (Fp.of_below hB).trans hF (Nw.refl _ _) (Nw.refl _ _), (Nw.refl W t).trans hN hB.size, Nw.refl _ _⟩

set_option maxRecDepth 100000 in
set_option maxHeartbeats 4000000 in
theorem step16 (n0 cb bm : Nat) (t r : Option Nat) (k : Nat) (W : World) (S : Ckr.St) (s : Lra.Stp) (a1 : Option Addr) (c1 : Nat) (a2 : Option Addr) (c2 : Nat) (hC : CkS n0 cb bm t r k W S) (hk : k < maxLen) (hs : ArgS n0 cb bm t r W a1 a2 c2 s) :
    Calls Try.prog 16 #[.pointer (some ⟨cb, 0, none⟩), sval s a1 c1 a2 c2] W fun e W' => StepOut n0 cb bm t r k W (Ckr.stepP S s) e W' := by
  have hB := below_box W (.cells #[.int .u8 s.kind, .int .i64 s.id, .slice a1 s.lits.length c1, .slice a2 s.hints.length c2] 44)
  have hx := heap_alloc_new W (.cells #[.int .u8 s.kind, .int .i64 s.id, .slice a1 s.lits.length c1, .slice a2 s.hints.length c2] 44)
  have C43 := hid (fun W1 (hB1 : Below W.heap.size W W1) => mayBe43 s a1 c1 a2 c2 W1 (hs.v.below hB1))
  have HBad := hid (fun (h : Lra.may s = false) W2 (hB2 : Below W.heap.size W W2) => show StepOut n0 cb bm t r k W (Ckr.stepP S s) (.returned (.int .i64 40)) W2 by
    unfold Ckr.stepP; rw [h]; exact ⟨rfl, t, r, k, by omega, Ck.below hC hB2, Fp.of_below hB2, Nw.refl _ _, Nw.refl _ _⟩)
  have C44 := hid (fun (hm : Lra.may s = true) (hk2 : s.kind = 2) W2 (hB2 : Below W.heap.size W W2) => remove44 n0 cb bm t r k W2 S.C S.last S.dn a2 _ c2 s.hints (Ck.below hC hB2) rfl (by have := hs.n.2; omega) (hs.h.fp (Fp.of_below hB2) (Nw.refl _ _) (Nw.refl _ _)) (fun i hi => by
    unfold Lra.may at hm
    rw [if_neg (by omega), if_pos hk2] at hm
    simp only [Bool.and_eq_true] at hm
    have := List.all_eq_true.1 hm.2.2 i hi
    simp [Lra.added] at this
    exact ⟨by omega, by omega⟩))
  have C45 := hid (fun (hm : Lra.may s = true) (hk1 : s.kind = 1) W2 (hB2 : Below W.heap.size W W2) => add45 n0 cb bm t r k W2 S.C S.last S.dn s a1 c1 a2 c2 (Ck.below hC hB2) hk (hs.fp (Fp.of_below hB2) (Nw.refl _ _) (Nw.refl _ _)) hm hk1)
  have HA := hid (fun (hm : Lra.may s = true) (hk : ¬ s.kind = 2) W2 (hB2 : Below W.heap.size W W2) e W' h => StepOut.of_add (n0 := n0) (cb := cb) (bm := bm) (t := t) (r := r) (k := k) (S := S) (e := e) (W' := W') hm hk hB2 h)
  have HR := hid (fun (hm : Lra.may s = true) (hk : s.kind = 2) W2 (hB2 : Below W.heap.size W W2) e W' h => StepOut.of_rem (n0 := n0) (cb := cb) (bm := bm) (t := t) (r := r) (k := k) (S := S) (e := e) (W' := W') hm hk hB2 h)
  unfold sval at *
  generalize hW1 : W.alloc (.cells #[.int .u8 s.kind, .int .i64 s.id, .slice a1 s.lits.length c1, .slice a2 s.hints.length c2] 44) = W1 at hB hx
  have D43 := hid (C43.out W1 hB)
  have x0 : W1.cell? ⟨W.heap.size, 0, none⟩ = some (.int .u8 s.kind) := row_cell hx 0
  have x1 : W1.cell? ⟨W.heap.size, 1, none⟩ = some (.int .i64 s.id) := row_cell hx 1
  have x2 : W1.cell? ⟨W.heap.size, 2, none⟩ = some (.slice a1 s.lits.length c1) := row_cell hx 2
  have x3 : W1.cell? ⟨W.heap.size, 3, none⟩ = some (.slice a2 s.hints.length c2) := row_cell hx 3
  have HXL := hid (Array.getElem?_eq_some_iff.1 hx).1
  have HB := hid hB
  have HK := hid (fun h => may_kind (s := s) h)
  generalize hd : Ckr.stepP S s = d at *
  generalize s.lits.length = nl at *
  generalize s.hints.length = nh at *
  generalize hsk : s.kind = kd at *
  generalize s.id = sid at *
  clear hB hx hC hs hk C43 hd hsk
  cases hm : Lra.may s with
  | false =>
    rw [hm] at D43
    have HE := hid (HBad.out hm)
    clear HBad C44 C45 HA HR HK hm
    go_enter Try.func16, Try.ntmps16
    go_wp2_with (go_at_call 43; refine D43.out.mono ?_; clear D43; rintro e W2 ⟨rfl, hB2⟩; have OUT := hid (HE.out W2 (HB.out.trans (hB2.mono HB.out.size))); clear hB2)
    go_ret
    exact OUT.out
  | true =>
    rw [hm] at D43
    by_cases hk2 : kd = 2
    · have D44 := hid (C44.out hm hk2)
      have HR2 := hid (HR.out hm hk2)
      have e2 : (kd == 2) = true := by simpa using hk2
      clear HBad C44 C45 HA HR HK hm hk2
      go_enter Try.func16, Try.ntmps16
      go_wp2_with (first
        | (go_at_call 43; refine D43.out.mono ?_; clear D43; rintro e W2 ⟨rfl, hB2⟩
           have y0 := (hB2.cell (p := ⟨W.heap.size, 0, none⟩) HXL.out).trans x0
           have y3 := (hB2.cell (p := ⟨W.heap.size, 3, none⟩) HXL.out).trans x3
           have HB2 := hid (HB.out.trans (hB2.mono HB.out.size))
           have E44 := hid (D44.out W2 HB2.out)
           clear hB2)
        | (go_at_call 44; refine E44.out.mono ?_; clear E44; rintro e W3 hR
           have OUT := hid (HR2.out W2 HB2.out e W3 hR)
           obtain ⟨q, hq⟩ : ∃ q, e = .returned (.int .i64 q) := ⟨_, hR.1⟩
           subst hq
           clear hR))
      go_ret
      exact OUT.out
    · have hk1 : kd = 1 := by rcases HK.out hm with h | h; exact h; exact absurd h hk2
      have D45 := hid (C45.out hm hk1)
      have HA2 := hid (HA.out hm hk2)
      have e2 : (kd == 2) = false := by simpa using hk2
      clear HBad C44 C45 HA HR HK hm hk2 hk1
      go_enter Try.func16, Try.ntmps16
      go_wp2_with (first
        | (go_at_call 43; refine D43.out.mono ?_; clear D43; rintro e W2 ⟨rfl, hB2⟩
           have y0 := (hB2.cell (p := ⟨W.heap.size, 0, none⟩) HXL.out).trans x0
           have y1 := (hB2.cell (p := ⟨W.heap.size, 1, none⟩) HXL.out).trans x1
           have y2 := (hB2.cell (p := ⟨W.heap.size, 2, none⟩) HXL.out).trans x2
           have y3 := (hB2.cell (p := ⟨W.heap.size, 3, none⟩) HXL.out).trans x3
           have HB2 := hid (HB.out.trans (hB2.mono HB.out.size))
           have E45 := hid (D45.out W2 HB2.out)
           clear hB2)
        | (go_at_call 45; refine E45.out.mono ?_; clear E45; rintro e W3 hR
           have OUT := hid (HA2.out W2 HB2.out e W3 hR)
           obtain ⟨rfl, hR⟩ := hR
           clear hR))
      go_ret
      exact OUT.out
end Go.Proofs.Ytjjanmgeogjngaa

/- A proof is gone through: plain, and the call. -/
namespace Ckr
def new (cs : List (List Int)) : St := ⟨num 1 cs, cs.length, cs.any (fun c => c.isEmpty)⟩
def runG : Nat → St → List Lra.Stp → Bool × Int × Int
  | i, S, [] => (S.dn, i, 0)
  | i, S, s :: ss => if S.dn then (true, i, 0) else if (stepP S s).1 = 0 then runG (i + 1) (stepP S s).2 ss else (false, i, (stepP S s).1)
def runP (vars : Int) (cs : List (List Int)) (ss : List Lra.Stp) : Bool × Int × Int := if Cnf.right vars cs = 0 then runG 0 (new cs) ss else (false, 0, Cnf.right vars cs)
theorem runG_done {i : Nat} {S : St} {s : Lra.Stp} {ss : List Lra.Stp} (h : S.dn = true) : runG i S (s :: ss) = (true, (i : Int), 0) := by rw [runG, if_pos h]
theorem runG_on {i : Nat} {S : St} {s : Lra.Stp} {ss : List Lra.Stp} (h : S.dn = false) (h2 : (stepP S s).1 = 0) : runG i S (s :: ss) = runG (i + 1) (stepP S s).2 ss := by rw [runG, if_neg (by rw [h]; decide), if_pos h2]
theorem runG_err {i : Nat} {S : St} {s : Lra.Stp} {ss : List Lra.Stp} (h : S.dn = false) (h2 : ¬ (stepP S s).1 = 0) : runG i S (s :: ss) = (false, (i : Int), (stepP S s).1) := by rw [runG, if_neg (by rw [h]; decide), if_neg h2]
end Ckr
namespace Go.Proofs.Ytjjanmgeogjngaa
open Go.RowKit Go.Maps
set_option linter.unusedVariables false

/-- A row of steps, the room of whose hints is known. -/
def StepsC (W : World) (a : Option Addr) (ss : List Lra.Stp) : Prop :=
  ss = [] ∨ ∃ b off, a = some ⟨b, off, none⟩ ∧ ∀ j (h : j < ss.length), ∃ a1 c1 a2 c2, StC W b (off + j * 4) ss[j] a1 c1 a2 c2 ∧ ss[j].hints.length ≤ c2 ∧ c2 ≤ maxLen
theorem StepsC.steps {W : World} {a : Option Addr} {ss : List Lra.Stp} (h : StepsC W a ss) : Steps W a ss := by
  rcases h with h | ⟨b, off, e, h⟩
  · exact .inl h
  · exact .inr ⟨b, off, e, fun j hj => by obtain ⟨a1, c1, a2, c2, h1, _⟩ := h j hj; exact ⟨a1, c1, a2, c2, h1⟩⟩
theorem StepsC.below {W W' : World} {a : Option Addr} {ss : List Lra.Stp} (h : StepsC W a ss) (hb : Below W.heap.size W W') : StepsC W' a ss := by
  rcases h with h | ⟨b, off, e, h⟩
  · exact .inl h
  · exact .inr ⟨b, off, e, fun j hj => by obtain ⟨a1, c1, a2, c2, h1, h2⟩ := h j hj; exact ⟨a1, c1, a2, c2, h1.below hb, h2⟩⟩
theorem StepsC.at {W : World} {a : Option Addr} {ss : List Lra.Stp} (h : StepsC W a ss) {j : Nat} (hj : j < ss.length) : ∃ b off a1 c1 a2 c2, a = some ⟨b, off, none⟩ ∧ StC W b (off + j * 4) ss[j] a1 c1 a2 c2 ∧ ss[j].hints.length ≤ c2 ∧ c2 ≤ maxLen := by
  rcases h with h' | ⟨b, off, e, h⟩
  · rw [h'] at hj; simp at hj
  · obtain ⟨a1, c1, a2, c2, h1⟩ := h j hj
    exact ⟨b, off, a1, c1, a2, c2, e, h1⟩
theorem row_lt {q : IntKind} {lo hi : Int} {w : World} {a : Option Addr} {xs : List Int} (h : Row q lo hi w a xs) : ∀ g off, a = some ⟨g, off, none⟩ → xs ≠ [] → g < w.heap.size := by
  intro g off e hne
  rcases h.2 with h | ⟨b2, o2, e2, hb2, _⟩
  · exact absurd h hne
  · rw [e] at e2; cases e2; exact hb2
theorem Ck.argS {cb bm : Nat} {t r : Option Nat} {k : Nat} {w W : World} {C : List (Int × List Int)} {last : Int} {dn : Bool} (h : Ck w.heap.size cb bm t r k W C last dn) {a1 a2 : Option Addr} {c2 : Nat} {s : Lra.Stp} (hs : StpV w a1 a2 s) (hb : Below w.heap.size w W) (hc : s.hints.length ≤ c2 ∧ c2 ≤ maxLen) (hn : s.lits.length ≤ 16777216 ∧ s.hints.length ≤ 1048576) : ArgS w.heap.size cb bm t r W a1 a2 c2 s :=
  ⟨hs.below hb, h.arg (hs.l.below hb) (row_lt hs.l), h.arg (hs.h.below hb) (row_lt hs.h), hc, hn⟩
def RunOut (w : World) (d : Bool × Int × Int) (e : Ending) (w' : World) : Prop := e = .returned (.tuple #[.bool d.1, .int .i64 d.2.1, .int .i64 d.2.2]) ∧ Below w.heap.size w w'

set_option maxRecDepth 100000 in
set_option maxHeartbeats 4000000 in
theorem run21_err (vars : Int) (a : Option Addr) (n cap : Nat) (cs : List (List Int)) (al : Option Addr) (nl cl : Nat) (ss : List Lra.Stp) (w : World) (hn : cs.length = n) (hc : Cls w a cs) (hr : ¬ Cnf.right vars cs = 0) :
    Calls Try.prog 21 #[.agg #[.int .i64 vars, .slice a n cap], .slice al nl cl] w fun e w' => RunOut w (Ckr.runP vars cs ss) e w' := by
  have hB := below_box w (.cells #[.int .i64 vars, .slice a n cap] 24)
  have hx := heap_alloc_new w (.cells #[.int .i64 vars, .slice a n cap] 24)
  generalize hW1 : w.alloc (.cells #[.int .i64 vars, .slice a n cap] 24) = W1 at hB hx
  have C13 := hid (new13_err vars a n cap cs W1 hn (hc.below hB) hr)
  have x0 := row_cell hx 0
  have x1 := row_cell hx 1
  simp only [List.getElem?_toArray, List.getElem?_cons_zero, List.getElem?_cons_succ] at x0 x1
  have HB := hid hB
  have HE := hid (show Ckr.runP vars cs ss = (false, 0, Cnf.right vars cs) by unfold Ckr.runP; rw [if_neg hr])
  generalize Ckr.runP vars cs ss = d at HE ⊢
  generalize Cnf.right vars cs = q at C13 hr HE
  have hq : (q == 0) = false := by simpa using hr
  have hq2 : (q != 0) = true := by simpa using hr
  clear hx hB hc hn hr
  go_enter Try.func21, Try.ntmps21
  go_wp2_with (go_at_call 13; refine C13.out.mono ?_; clear C13; rintro e W2 ⟨rfl, hB2⟩; have HB2 := hid hB2; clear hB2)
  go_ret3
  rw [HE.out]
  exact ⟨rfl, HB.out.trans (HB2.out.mono HB.out.size)⟩
set_option maxRecDepth 100000 in
set_option maxHeartbeats 4000000 in
theorem run21 (vars : Int) (a : Option Addr) (n cap : Nat) (cs : List (List Int)) (al : Option Addr) (nl cl : Nat) (ss : List Lra.Stp) (w : World) (hn : cs.length = n) (hc : Cls w a cs) (hr : Cnf.right vars cs = 0) (hnl : ss.length = nl) (hbl : nl ≤ 1048576) (hs : StepsC w al ss) (hlen : ∀ s ∈ ss, s.lits.length ≤ 16777216 ∧ s.hints.length ≤ 1048576) :
    Calls Try.prog 21 #[.agg #[.int .i64 vars, .slice a n cap], .slice al nl cl] w fun e w' => RunOut w (Ckr.runP vars cs ss) e w' := by
  have hB := below_box w (.cells #[.int .i64 vars, .slice a n cap] 24)
  have hx := heap_alloc_new w (.cells #[.int .i64 vars, .slice a n cap] 24)
  generalize hW1 : w.alloc (.cells #[.int .i64 vars, .slice a n cap] 24) = W1 at hB hx
  have C13 := hid (new13 vars a n cap cs W1 hn (hc.below hB) hr)
  have x0 := row_cell hx 0
  have x1 := row_cell hx 1
  simp only [List.getElem?_toArray, List.getElem?_cons_zero, List.getElem?_cons_succ] at x0 x1
  have HB := hid hB
  have HE := hid (show Ckr.runG 0 (Ckr.new cs) ss = Ckr.runP vars cs ss by unfold Ckr.runP; rw [if_pos hr])
  have hcl := (right_zero hr).2.2.1
  have HS1 := hid (hs.below hB)
  have HN := hid hnl
  have HLen := hid hlen
  generalize Ckr.runP vars cs ss = d at HE ⊢
  clear hx hB hc hn hr hs hlen hnl
  go_enter Try.func21, Try.ntmps21
  go_wp2_with (go_at_call 13; refine C13.out.mono ?_; clear C13; rintro e W2 ⟨cb, bm, t0, r0, rfl, hC2, hB2⟩
               have HB2 := hid hB2
               have HC2 : Hid (CkS W1.heap.size cb bm t0 r0 cs.length W2 (Ckr.new cs)) := hC2
               clear hB2 hC2)
  go_loopw [22] (fun i wr => ∃ (k : Nat) (S : Ckr.St) (t1 r1 : Option Nat) (k1 : Nat), i = .int .i64 k ∧ k ≤ nl ∧ Hid (Ckr.runG k S (ss.drop k) = d) ∧ Hid (CkS W1.heap.size cb bm t1 r1 k1 wr S) ∧ Hid (k1 ≤ cs.length + k) ∧ Hid (Below W1.heap.size W1 wr)) (fun i _ => nl - (intOf i).toNat)
  case atStart => exact ⟨0, Ckr.new cs, t0, r0, cs.length, rfl, Nat.zero_le _, hid (by rw [List.drop_zero]; exact HE.out), HC2, hid (by omega), HB2⟩
  case round =>
    clear HC2 HB2 HE
    obtain ⟨k, S, t1, r1, k1, rfl, hk, HD, HC, HK, HBe⟩ := hrel
    by_cases hlt : k < nl
    · have hlt' : (k : Int) < nl := by omega
      have hkl : k < ss.length := by rw [HN.out]; exact hlt
      obtain ⟨b, off, a1, c1, a2, c2, rfl, hst, hcap⟩ := HS1.out.at hkl
      have hst2 := hst.below HBe.out
      have e0 := hst2.k
      have e1 := hst2.i
      have e2 := hst2.l
      have e3 := hst2.h
      have HDD := hid (show ss.drop k = ss[k] :: ss.drop (k + 1) from List.drop_eq_getElem_cons hkl)
      have HLn := hid (HLen.out ss[k] (List.getElem_mem hkl))
      have HST := hid hst.v
      have HCap := hid hcap
      generalize hsk : ss[k] = s at *
      have hBV := below_box wr (.cells #[.int .u8 s.kind, .int .i64 s.id, .slice a1 s.lits.length c1, .slice a2 s.hints.length c2] 44)
      have hVx := heap_alloc_new wr (.cells #[.int .u8 s.kind, .int .i64 s.id, .slice a1 s.lits.length c1, .slice a2 s.hints.length c2] 44)
      generalize hV : wr.alloc (.cells #[.int .u8 s.kind, .int .i64 s.id, .slice a1 s.lits.length c1, .slice a2 s.hints.length c2] 44) = V at hBV hVx
      have HBV := hid (HBe.out.trans (hBV.mono HBe.out.size))
      have HCV : Hid (CkS W1.heap.size cb bm t1 r1 k1 V S) := Ck.below HC.out hBV
      have C27 := hid (Ck.done HCV.out)
      have C16 := hid (step16 W1.heap.size cb bm t1 r1 k1 V S s a1 c1 a2 c2 HCV.out (by have := HK.out; unfold maxLen; omega) (Ck.argS HCV.out HST.out HBV.out HCap.out HLn.out))
      unfold sval at C16
      have v0 : V.cell? ⟨wr.heap.size, 0, none⟩ = some (.int .u8 s.kind) := row_cell hVx 0
      have v1 : V.cell? ⟨wr.heap.size, 1, none⟩ = some (.int .i64 s.id) := row_cell hVx 1
      have v2 : V.cell? ⟨wr.heap.size, 2, none⟩ = some (.slice a1 s.lits.length c1) := row_cell hVx 2
      have v3 : V.cell? ⟨wr.heap.size, 3, none⟩ = some (.slice a2 s.hints.length c2) := row_cell hVx 3
      have HU := hid (show Ckr.runG k S (s :: ss.drop (k + 1)) = d by have := HD.out; rwa [HDD.out] at this)
      generalize s.lits.length = n1 at *
      generalize s.hints.length = n2 at *
      cases hdn : S.dn with
      | true =>
        have HE := hid (show (true, (k : Int), (0 : Int)) = d by rw [← HU.out, Ckr.runG_done hdn])
        rw [hdn] at C27
        clear hBV hVx hst hst2 hcap HDD HD HU C16 HLn HST HCap hdn HS1 HLen
        go_wp2_with (go_at_call 27; refine C27.out.mono ?_; clear C27; rintro e w' ⟨rfl, rfl⟩)
        go_ret3
        rw [← HE.out]
        exact ⟨rfl, HB.out.trans (HBV.out.mono HB.out.size)⟩
      | false =>
        rw [hdn] at C27
        have HOn := hid (fun h => show Ckr.runG (k + 1) (Ckr.stepP S s).2 (ss.drop (k + 1)) = d by rw [← HU.out, Ckr.runG_on hdn h])
        have HErr := hid (fun h => show (false, (k : Int), (Ckr.stepP S s).1) = d by rw [← HU.out, Ckr.runG_err hdn h])
        generalize Ckr.stepP S s = st at C16 HOn HErr
        obtain ⟨q, S2⟩ := st
        simp only at HOn HErr
        unfold StepOut at C16
        simp only at C16
        clear hBV hVx hst hst2 hcap HDD HD HU HLn HST HCap hdn HS1 HLen
        by_cases hq : q = 0
        · have HU2 := hid (HOn.out hq)
          have hq' : (q != 0) = false := by simpa using hq
          clear HOn HErr hq
          go_wp2_with (first
            | (go_at_call 27; refine C27.out.mono ?_; clear C27; rintro e w' ⟨rfl, rfl⟩)
            | (go_at_call 16; refine C16.out.mono ?_; clear C16; rintro e W5 ⟨rfl, t5, r5, k5, hk5, hC5, hF5, _, _⟩
               have HC5 := hid hC5
               have HB5 : Hid (Below W1.heap.size W1 W5) := by
                 obtain ⟨p1, p2, p3, p4, p5⟩ := Ck.facts HCV.out
                 exact HBV.out.trans (hF5.below p1 p2 (fun g h => (p3 g h).1) (fun g h => (p4 g h).1) p5)
               have HK5 := hid (show k5 ≤ cs.length + (k + 1) by have := HK.out; omega)
               clear hC5 hF5 hk5))
          go_roundw
          case rel => exact ⟨k + 1, S2, t5, r5, k5, by go_num, by omega, HU2, HC5, HK5, HB5⟩
          case measure => simp [intOf]; omega
        · have HU2 := hid (HErr.out hq)
          have hq' : (q != 0) = true := by simpa using hq
          clear HOn HErr hq
          go_wp2_with (first
            | (go_at_call 27; refine C27.out.mono ?_; clear C27; rintro e w' ⟨rfl, rfl⟩)
            | (go_at_call 16; refine C16.out.mono ?_; clear C16; rintro e W5 ⟨rfl, t5, r5, k5, hk5, hC5, hF5, _, _⟩
               have HB5 : Hid (Below W1.heap.size W1 W5) := by
                 obtain ⟨p1, p2, p3, p4, p5⟩ := Ck.facts HCV.out
                 exact HBV.out.trans (hF5.below p1 p2 (fun g h => (p3 g h).1) (fun g h => (p4 g h).1) p5)
               clear hC5 hF5 hk5))
          go_ret3
          rw [← HU2.out]
          exact ⟨rfl, HB.out.trans (HB5.out.mono HB.out.size)⟩
    · have hge : ¬ (k : Int) < nl := by omega
      have C27 := hid (Ck.done HC.out)
      have HE := hid (show (S.dn, (nl : Int), (0 : Int)) = d by
        obtain rfl : k = nl := by omega
        have := HD.out
        rw [List.drop_of_length_le (by rw [HN.out]; omega), Ckr.runG] at this
        exact this)
      generalize S.dn = dn at C27 HE
      go_wp2_with (go_at_call 27; refine C27.out.mono ?_; clear C27; rintro e w' ⟨rfl, rfl⟩)
      go_ret3
      rw [← HE.out]
      exact ⟨rfl, HB.out.trans (HBe.out.mono HB.out.size)⟩
end Go.Proofs.Ytjjanmgeogjngaa

/- The trial that each statement makes: the examples' proof. -/
namespace Ckr
def four : List (List Int) := [[1, 2], [1, -2], [-1, 2], [-1, -2]]
def wst1 : Lra.Stp := ⟨1, 5, [1], [1, 2]⟩
def wst2 : Lra.Stp := ⟨1, 6, [], [5, 3, 4]⟩
theorem works : runP 2 four [wst1, wst2] = (true, 2, 0) := by decide
end Ckr
namespace Go.Proofs.Ytjjanmgeogjngaa
open Go.RowKit Go.Maps
set_option linter.unusedVariables false

theorem alloc_at (w : World) (o : Obj) (k : Nat) : (w.alloc o).heap[k]? = if k = w.heap.size then some o else w.heap[k]? := by
  by_cases h : k = w.heap.size
  · rw [h, if_pos rfl]; exact heap_alloc_new w o
  · rw [if_neg h]
    rcases Nat.lt_or_ge k w.heap.size with h1 | h1
    · exact Below.heap_alloc w o k h1
    · rw [Array.getElem?_eq_none (by simp; omega), Array.getElem?_eq_none h1]
theorem lits_blk {W : World} {g : Nat} (xs : List Int) (h : W.heap[g]? = some (.cells (xs.map (Value.int .i32)).toArray 40 (0, 0))) (hx : ∀ x ∈ xs, -2147483648 ≤ x ∧ x ≤ 2147483647) : Lits W (some ⟨g, 0, none⟩) xs := by
  refine ⟨hx, .inr ⟨g, 0, rfl, (Array.getElem?_eq_some_iff.1 h).1, fun j hj => ?_⟩⟩
  rw [row_cell h, List.getElem?_toArray, List.getElem?_map]
  simp [List.getD, List.getElem?_eq_getElem hj]
theorem hnts_blk {W : World} {g : Nat} (xs : List Int) (h : W.heap[g]? = some (.cells (xs.map (Value.int .i64)).toArray 2 (0, 0))) (hx : ∀ x ∈ xs, -9223372036854775808 ≤ x ∧ x ≤ 9223372036854775807) : Hnts W (some ⟨g, 0, none⟩) xs := by
  refine ⟨hx, .inr ⟨g, 0, rfl, (Array.getElem?_eq_some_iff.1 h).1, fun j hj => ?_⟩⟩
  rw [row_cell h, List.getElem?_toArray, List.getElem?_map]
  simp [List.getD, List.getElem?_eq_getElem hj]
/-- The four clauses, as they are laid. -/
theorem fourRow (w : World) : ∃ A : World, ((((((w.alloc (.cells #[.int .i64 2, .slice (some ⟨w.heap.size + 1 + 1 + 1 + 1 + 1, 0, none⟩) 4 4] 24)).alloc (.cells #[.int .i32 1, .int .i32 2] 40)).alloc (.cells #[.int .i32 1, .int .i32 (-2)] 40)).alloc (.cells #[.int .i32 (-1), .int .i32 2] 40)).alloc (.cells #[.int .i32 (-1), .int .i32 (-2)] 40)).alloc
      (.cells #[.slice (some ⟨w.heap.size + 1, 0, none⟩) 2 2, .slice (some ⟨w.heap.size + 1 + 1, 0, none⟩) 2 2, .slice (some ⟨w.heap.size + 1 + 1 + 1, 0, none⟩) 2 2, .slice (some ⟨w.heap.size + 1 + 1 + 1 + 1, 0, none⟩) 2 2] 39)) = A ∧
    A.heap[w.heap.size]? = some (.cells #[.int .i64 2, .slice (some ⟨w.heap.size + 1 + 1 + 1 + 1 + 1, 0, none⟩) 4 4] 24 (0, 0)) ∧ Cls A (some ⟨w.heap.size + 1 + 1 + 1 + 1 + 1, 0, none⟩) Ckr.four ∧ Below w.heap.size w A := by
  obtain ⟨V, hV⟩ : ∃ V, ((((((w.alloc (.cells #[.int .i64 2, .slice (some ⟨w.heap.size + 1 + 1 + 1 + 1 + 1, 0, none⟩) 4 4] 24)).alloc (.cells #[.int .i32 1, .int .i32 2] 40)).alloc (.cells #[.int .i32 1, .int .i32 (-2)] 40)).alloc (.cells #[.int .i32 (-1), .int .i32 2] 40)).alloc (.cells #[.int .i32 (-1), .int .i32 (-2)] 40)).alloc
      (.cells #[.slice (some ⟨w.heap.size + 1, 0, none⟩) 2 2, .slice (some ⟨w.heap.size + 1 + 1, 0, none⟩) 2 2, .slice (some ⟨w.heap.size + 1 + 1 + 1, 0, none⟩) 2 2, .slice (some ⟨w.heap.size + 1 + 1 + 1 + 1, 0, none⟩) 2 2] 39)) = V := ⟨_, rfl⟩
  have a0 : V.heap[w.heap.size]? = some (.cells #[.int .i64 2, .slice (some ⟨w.heap.size + 1 + 1 + 1 + 1 + 1, 0, none⟩) 4 4] 24 (0, 0)) := by
    rw [← hV]; simp only [alloc_at, World.size_alloc]
    rw [if_neg (by omega), if_neg (by omega), if_neg (by omega), if_neg (by omega), if_neg (by omega), if_pos trivial]
  have a1 : V.heap[w.heap.size + 1]? = some (.cells #[.int .i32 1, .int .i32 2] 40 (0, 0)) := by
    rw [← hV]; simp only [alloc_at, World.size_alloc]
    rw [if_neg (by omega), if_neg (by omega), if_neg (by omega), if_neg (by omega), if_pos trivial]
  have a2 : V.heap[w.heap.size + 1 + 1]? = some (.cells #[.int .i32 1, .int .i32 (-2)] 40 (0, 0)) := by
    rw [← hV]; simp only [alloc_at, World.size_alloc]
    rw [if_neg (by omega), if_neg (by omega), if_neg (by omega), if_pos trivial]
  have a3 : V.heap[w.heap.size + 1 + 1 + 1]? = some (.cells #[.int .i32 (-1), .int .i32 2] 40 (0, 0)) := by
    rw [← hV]; simp only [alloc_at, World.size_alloc]
    rw [if_neg (by omega), if_neg (by omega), if_pos trivial]
  have a4 : V.heap[w.heap.size + 1 + 1 + 1 + 1]? = some (.cells #[.int .i32 (-1), .int .i32 (-2)] 40 (0, 0)) := by
    rw [← hV]; simp only [alloc_at, World.size_alloc]
    rw [if_neg (by omega), if_pos trivial]
  have a5 : V.heap[w.heap.size + 1 + 1 + 1 + 1 + 1]? = some (.cells #[.slice (some ⟨w.heap.size + 1, 0, none⟩) 2 2, .slice (some ⟨w.heap.size + 1 + 1, 0, none⟩) 2 2, .slice (some ⟨w.heap.size + 1 + 1 + 1, 0, none⟩) 2 2, .slice (some ⟨w.heap.size + 1 + 1 + 1 + 1, 0, none⟩) 2 2] 39 (0, 0)) := by
    rw [← hV]; simp only [alloc_at, World.size_alloc]
    rw [if_pos trivial]
  refine ⟨V, hV, a0, ?_, ?_⟩
  · refine ⟨by decide, .inr ⟨_, 0, rfl, (Array.getElem?_eq_some_iff.1 a5).1, fun j hj => ?_⟩⟩
    match j, hj with
    | 0, _ => exact ⟨some ⟨w.heap.size + 1, 0, none⟩, 2, row_cell a5 0, lits_blk [1, 2] a1 (by decide)⟩
    | 1, _ => exact ⟨some ⟨w.heap.size + 1 + 1, 0, none⟩, 2, row_cell a5 1, lits_blk [1, -2] a2 (by decide)⟩
    | 2, _ => exact ⟨some ⟨w.heap.size + 1 + 1 + 1, 0, none⟩, 2, row_cell a5 2, lits_blk [-1, 2] a3 (by decide)⟩
    | 3, _ => exact ⟨some ⟨w.heap.size + 1 + 1 + 1 + 1, 0, none⟩, 2, row_cell a5 3, lits_blk [-1, -2] a4 (by decide)⟩
  · rw [← hV]
    exact (((((((Below.refl _ w).alloc (Nat.le_refl _) _).alloc (by simp) _).alloc (by simp; omega) _).alloc (by simp; omega) _).alloc (by simp; omega) _).alloc (by simp; omega) _)

theorem four36 (w : World) : Calls Try.prog 36 #[] w fun e w' => ∃ g, e = .returned (.agg #[.int .i64 2, .slice (some ⟨g, 0, none⟩) 4 4]) ∧ Cls w' (some ⟨g, 0, none⟩) Ckr.four ∧ Below w.heap.size w w' := by
  obtain ⟨A, hA, a0, hC, hB⟩ := fourRow w
  go_enter Try.func36, Try.ntmps36
  go_wp2
  refine bodyPost_ret (results_cell_row rfl _ _ w.heap.size 24 _ (0, 0) _ rfl a0 Try.underlying24 rfl (by kernel_rfl)) rfl ?_
  exact ⟨_, rfl, hC, hB⟩
theorem add28 (id : Int) (a1 : Option Addr) (n1 c1 : Nat) (a2 : Option Addr) (n2 c2 : Nat) (w : World) : Calls Try.prog 28 #[.int .i64 id, .slice a1 n1 c1, .slice a2 n2 c2] w fun e w' => e = .returned (.agg #[.int .u8 1, .int .i64 id, .slice a1 n1 c1, .slice a2 n2 c2]) ∧ Below w.heap.size w w' := by
  have hB := below_box w (.cells #[.int .u8 1, .int .i64 id, .slice a1 n1 c1, .slice a2 n2 c2] 44)
  have a0 := heap_alloc_new w (.cells #[.int .u8 1, .int .i64 id, .slice a1 n1 c1, .slice a2 n2 c2] 44)
  go_enter Try.func28, Try.ntmps28
  go_wp2
  refine bodyPost_ret (results_cell_row rfl _ _ w.heap.size 44 _ (0, 0) _ rfl a0 Try.underlying44 rfl (by kernel_rfl)) rfl ?_
  exact ⟨rfl, hB⟩
/-- Two steps laid side by side. -/
theorem two_steps {W : World} {g : Nat} {s t : Lra.Stp} {a1 a2 b1 b2 : Option Addr} {c1 c2 d1 d2 : Nat}
    (h : W.heap[g]? = some (.cells #[.int .u8 s.kind, .int .i64 s.id, .slice a1 s.lits.length c1, .slice a2 s.hints.length c2, .int .u8 t.kind, .int .i64 t.id, .slice b1 t.lits.length d1, .slice b2 t.hints.length d2] 44 (0, 0)))
    (hs : StpV W a1 a2 s) (ht : StpV W b1 b2 t) (hc : s.hints.length ≤ c2 ∧ c2 ≤ maxLen) (hd : t.hints.length ≤ d2 ∧ d2 ≤ maxLen) : StepsC W (some ⟨g, 0, none⟩) [s, t] := by
  refine .inr ⟨g, 0, rfl, fun j hj => ?_⟩
  match j, hj with
  | 0, _ => exact ⟨a1, c1, a2, c2, ⟨row_cell h 0, row_cell h 1, row_cell h 2, row_cell h 3, hs⟩, hc⟩
  | 1, _ => exact ⟨b1, d1, b2, d2, ⟨row_cell h 4, row_cell h 5, row_cell h 6, row_cell h 7, ht⟩, hd⟩

set_option maxRecDepth 100000 in
set_option maxHeartbeats 4000000 in
theorem works10 (w : World) : Calls Try.prog 10 #[] w fun e w' => e = .returned (.bool true) ∧ Below w.heap.size w w' := by
  have C36 := hid (four36 w)
  have C28 := hid add28
  go_enter Try.func10, Try.ntmps10
  go_wp2_with (first
    | (go_at_call 36; refine C36.out.mono ?_; clear C36; rintro e W1 ⟨g, rfl, hCls, hB1⟩
       have hB3 : Below W1.heap.size W1 ((W1.alloc (.cells #[.int .i32 1] 40)).alloc (.cells #[.int .i64 1, .int .i64 2] 2)) := (below_box W1 _).trans ((below_box _ _).mono (by simp))
       have b1 : ((W1.alloc (.cells #[.int .i32 1] 40)).alloc (.cells #[.int .i64 1, .int .i64 2] 2)).heap[W1.heap.size]? = some (.cells #[.int .i32 1] 40 (0, 0)) := by
         simp only [alloc_at, World.size_alloc]; rw [if_neg (by omega), if_pos trivial]
       have b2 : ((W1.alloc (.cells #[.int .i32 1] 40)).alloc (.cells #[.int .i64 1, .int .i64 2] 2)).heap[W1.heap.size + 1]? = some (.cells #[.int .i64 1, .int .i64 2] 2 (0, 0)) := by
         simp only [alloc_at, World.size_alloc]; rw [if_pos trivial]
       generalize hW3 : (W1.alloc (.cells #[.int .i32 1] 40)).alloc (.cells #[.int .i64 1, .int .i64 2] 2) = W3 at hB3 b1 b2
       have HR1 := hid (lits_blk [1] b1 (by decide))
       have HR2 := hid (hnts_blk [1, 2] b2 (by decide))
       have HCl := hid (hCls.below hB3)
       have HB3 := hid (hB1.trans (hB3.mono hB1.size))
       have C28a := hid (C28.out 5 (some ⟨W1.heap.size, 0, none⟩) 1 1 (some ⟨W1.heap.size + 1, 0, none⟩) 2 2 W3)
       clear hCls hB1 hB3 b1 b2)
    | (go_at_call 28; refine C28a.out.mono ?_; clear C28a; rintro e W4 ⟨rfl, hB4⟩
       have hB5 := below_box W4 (.cells #[.int .i64 5, .int .i64 3, .int .i64 4] 2)
       have b5 := heap_alloc_new W4 (.cells #[.int .i64 5, .int .i64 3, .int .i64 4] 2)
       generalize hW5 : W4.alloc (.cells #[.int .i64 5, .int .i64 3, .int .i64 4] 2) = W5 at hB5 b5
       have HR1' := hid ((HR1.out.below hB4).below hB5)
       have HR2' := hid ((HR2.out.below hB4).below hB5)
       have HR3 := hid (hnts_blk [5, 3, 4] b5 (by decide))
       have HCl' := hid ((HCl.out.below hB4).below hB5)
       have HB5 := hid ((HB3.out.trans (hB4.mono HB3.out.size)).trans (hB5.mono (Nat.le_trans HB3.out.size hB4.size)))
       have C28b := hid (C28.out 6 none 0 0 (some ⟨W4.heap.size, 0, none⟩) 3 3 W5)
       clear hB4 hB5 b5 HR1 HR2 HCl HB3)
    | (go_at_call 28; refine C28b.out.mono ?_; clear C28b; rintro e W6 ⟨rfl, hB6⟩
       have hB7 := below_box W6 (.cells #[.int .u8 1, .int .i64 5, .slice (some ⟨W1.heap.size, 0, none⟩) 1 1, .slice (some ⟨W1.heap.size + 1, 0, none⟩) 2 2, .int .u8 1, .int .i64 6, .slice none 0 0, .slice (some ⟨W4.heap.size, 0, none⟩) 3 3] 44)
       have b7 := heap_alloc_new W6 (.cells #[.int .u8 1, .int .i64 5, .slice (some ⟨W1.heap.size, 0, none⟩) 1 1, .slice (some ⟨W1.heap.size + 1, 0, none⟩) 2 2, .int .u8 1, .int .i64 6, .slice none 0 0, .slice (some ⟨W4.heap.size, 0, none⟩) 3 3] 44)
       generalize hW7 : W6.alloc (.cells #[.int .u8 1, .int .i64 5, .slice (some ⟨W1.heap.size, 0, none⟩) 1 1, .slice (some ⟨W1.heap.size + 1, 0, none⟩) 2 2, .int .u8 1, .int .i64 6, .slice none 0 0, .slice (some ⟨W4.heap.size, 0, none⟩) 3 3] 44) = W7 at hB7 b7
       have hS : StepsC W7 (some ⟨W6.heap.size, 0, none⟩) [Ckr.wst1, Ckr.wst2] := two_steps (s := Ckr.wst1) (t := Ckr.wst2) b7 ⟨(HR1'.out.below hB6).below hB7, (HR2'.out.below hB6).below hB7, by decide, by decide, by decide⟩ ⟨Row.nil _ _ _ _ _, (HR3.out.below hB6).below hB7, by decide, by decide, by decide⟩ (by decide) (by decide)
       have C21 := hid (run21 2 (some ⟨g, 0, none⟩) 4 4 Ckr.four (some ⟨W6.heap.size, 0, none⟩) 2 2 [Ckr.wst1, Ckr.wst2] W7 rfl ((HCl'.out.below hB6).below hB7) (by decide) rfl (by decide) hS (by decide))
       rw [Ckr.works] at C21
       have HB7 := hid ((HB5.out.trans (hB6.mono HB5.out.size)).trans (hB7.mono (Nat.le_trans HB5.out.size hB6.size)))
       clear hB6 hB7 b7 hS HR1' HR2' HR3 HCl' HB5)
    | (go_at_call 21; refine C21.out.mono ?_; clear C21; rintro e W8 ⟨rfl, hB8⟩; have HB8 := hid (HB7.out.trans (hB8.mono HB7.out.size)); clear hB8))
  go_ret
  exact ⟨rfl, HB8.out⟩
end Go.Proofs.Ytjjanmgeogjngaa

