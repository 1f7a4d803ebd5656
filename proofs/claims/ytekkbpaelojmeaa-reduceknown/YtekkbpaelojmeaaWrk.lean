/- The chapter's example. -/
import Derived.Test.YtekkbpaelojmeaaChs
import Derived.Test.YtekkbpaelojmeaaLim
import Derived.Test.YtekkbpaelojmeaaRdQ
namespace Go.Proofs.Ytekkbpaelojmeaa
open Go.RowKit Go.Maps
set_option linter.unusedVariables false
set_option linter.unusedSimpArgs false
set_option maxRecDepth 100000

theorem rcs_block {W : World} {b e : Nat} {cs : Array Value} {fr : Nat × Nat} {rs : List Rc} (h : W.heap[b]? = some (.cells cs e fr)) (hc : cs.toList = flat rs) (hok : ∀ r ∈ rs, r.Ok) : Rcs W (some ⟨b, 0, none⟩) rs := by
  refine .inr ⟨b, 0, rfl, lt_of_blk h, fun j hj => ⟨hok _ (List.getElem_mem _), fun t v hv => ?_⟩⟩
  have ht : t < 5 := by
    rcases Nat.lt_or_ge t 5 with h' | h'
    · exact h'
    · rw [List.getElem?_eq_none (by simpa [rec5] using h')] at hv; cases hv
  have := flat_at hj ht
  rw [hv, ← hc, Array.getElem?_toList] at this
  rw [Nat.zero_add, row_cell h, this]
def wr4 : List Rc := [⟨⟨5, 3, 4, 0⟩, false⟩, ⟨⟨6, 9, 9, 0⟩, false⟩, ⟨⟨7, 9, 12, 1⟩, false⟩, ⟨⟨9, 1, 0, 0⟩, false⟩]
theorem wr4_ok : ∀ r ∈ wr4, r.Ok := by
  intro r hr
  simp [wr4] at hr
  rcases hr with rfl | rfl | rfl | rfl <;> exact ⟨by unfold I64; decide, by unfold I64; decide, by unfold I64; decide, by unfold I64; decide⟩
theorem wr4_chosen : chosen wr4 2 100 = [7, 6, 5] := by
  have h1 : (wr4.filter (fun r => mayP r 2)).map Rc.k = [⟨5, 3, 4, 0⟩, ⟨6, 9, 9, 0⟩, ⟨7, 9, 12, 1⟩] := by kernel_rfl
  have h2 : ord 2 wr4 = [⟨7, 9, 12, 1⟩, ⟨6, 9, 9, 0⟩, ⟨5, 3, 4, 0⟩] := by
    unfold ord
    rw [h1]
    refine srt_unique ?_ ?_
    · exact (List.reverse_perm [(⟨5, 3, 4, 0⟩ : K4), ⟨6, 9, 9, 0⟩, ⟨7, 9, 12, 1⟩])
    · simp only [List.pairwise_cons]
      simp
      decide +kernel
  unfold chosen
  rw [h2]
  decide +kernel
theorem ids_block {W : World} {b e : Nat} {cs : Array Value} {fr : Nat × Nat} {xs : List Int} (h : W.heap[b]? = some (.cells cs e fr)) (hc : cs.toList = xs.map (Value.int .i64)) : Ids W (some ⟨b, 0, none⟩) xs := by
  refine .inr ⟨b, 0, rfl, lt_of_blk h, fun j hj => ?_⟩
  have : cs.toList[j]? = (xs.map (Value.int .i64))[j]? := by rw [hc]
  rw [Array.getElem?_toList, List.getElem?_map, List.getElem?_eq_getElem hj] at this
  rw [Nat.zero_add, row_cell h, this, List.getD_eq_getElem?_getD, List.getElem?_eq_getElem hj]
  rfl
set_option maxHeartbeats 4000000 in
theorem works13 (W : World) : Calls Try.prog 13 #[] W fun e w' => e = .returned (.bool true) ∧ Below W.heap.size W w' := by
  obtain ⟨W1, hW1⟩ : ∃ W1, W.alloc (.cells (flat wr4).toArray 29) = W1 := ⟨_, rfl⟩
  have hsz : W1.heap.size = W.heap.size + 1 := by rw [← hW1]; simp
  have hblk : W1.heap[W.heap.size]? = some (.cells (flat wr4).toArray 29 (0, 0)) := by rw [← hW1]; exact heap_alloc_new W _
  have hb1 : Below W.heap.size W W1 := by rw [← hW1]; exact below_box _ _
  have hrc : Rcs W1 (some ⟨W.heap.size, 0, none⟩) wr4 := rcs_block hblk rfl wr4_ok
  have hc10 := choose10 (c := 4) (n := 4) 2 100 hrc rfl (by decide) ⟨by decide, by decide⟩
  rw [wr4_chosen] at hc10
  have C10 := hid hc10
  have C15 := hid (fun w => limit15 300 3 w)
  have hlo : LOut 300 3 = .returned (.tuple #[.int .i64 1800, .int .i64 0]) := lout_ok ⟨by decide, by decide, by decide, by decide⟩
  rw [hlo] at C15
  have C8 := hid (fun w => tier8 ⟨⟨5, 3, 4, 0⟩, false⟩ 2 w)
  have ht : tier 3 2 = 2 := by decide
  dsimp only [rec5] at C8
  rw [ht] at C8
  have HX := hid (fun (w2 : World) (o : Option Addr) (ho : w2.ownsRow W1.heap.size 2 1 (.slice o 3 3) 3 (([7, 6, 5] : List Int).map (Value.int .i64))) =>
    same12 (c1 := 3) (c2 := 3) ((own_ids ho rfl).below (below_box w2 (.cells #[.int .i64 7, .int .i64 6, .int .i64 5] 2))) (ids_block (heap_alloc_new w2 (.cells #[.int .i64 7, .int .i64 6, .int .i64 5] 2)) rfl : Ids _ _ [7, 6, 5]) rfl (by decide))
  have HB1 := hid hb1
  have HCE := hid (fun (w2 : World) (h : Below W1.heap.size W1 w2) => show w2.heap[W.heap.size]? = some (.cells (flat wr4).toArray 29 (0, 0)) from (h.block _ (by omega)).trans hblk)
  have HW := hid hW1
  clear hW1 hblk hb1 hrc hc10 hlo ht
  go_enter Try.func13, Try.ntmps13
  go_wp2_with fail
  change Calls Try.prog 10 _ (W.alloc (.cells (flat wr4).toArray 29)) _
  rw [HW.out]
  refine C10.out.mono ?_
  rintro e w3 ⟨⟨o, rfl, ho⟩, hb⟩
  have HO := hid ho
  have HB3 := hid hb
  clear ho hb
  dsimp only [List.length_cons, List.length_nil, Nat.zero_add, Nat.reduceAdd] at HO ⊢
  go_wp2_with (first
    | (go_at_call 15; refine (C15.out _).mono ?_; rintro e w4 ⟨rfl, hw4⟩; rw [hw4]; clear hw4)
    | (go_at_call 12; refine (HX.out _ _ HO.out).mono ?_; rintro e w5 ⟨rfl, hb5⟩
       have HB5 := hid (HB3.out.trans ((box_below _ _ hb5).mono HB3.out.size))
       have hc5 := HCE.out _ HB5.out
       have y0 : w5.cell? ⟨W.heap.size, 0, none⟩ = some (.int .i64 5) := row_cell hc5 0
       have y1 : w5.cell? ⟨W.heap.size, 1, none⟩ = some (.int .i64 3) := row_cell hc5 1
       have y2 : w5.cell? ⟨W.heap.size, 2, none⟩ = some (.int .i64 4) := row_cell hc5 2
       have y3 : w5.cell? ⟨W.heap.size, 3, none⟩ = some (.int .i64 0) := row_cell hc5 3
       have y4 : w5.cell? ⟨W.heap.size, 4, none⟩ = some (.bool false) := row_cell hc5 4
       clear hb5 hc5)
    | (go_at_call 8; refine (C8.out _).mono ?_; rintro e w6 ⟨rfl, hw6⟩
       have HB6 := hid (show Below W1.heap.size W1 w6 by rw [hw6]; exact HB5.out.trans ((below_box _ _).mono HB5.out.size))
       clear hw6))
  go_ret
  exact ⟨rfl, HB1.out.trans (HB6.out.mono HB1.out.size)⟩
end Go.Proofs.Ytekkbpaelojmeaa
