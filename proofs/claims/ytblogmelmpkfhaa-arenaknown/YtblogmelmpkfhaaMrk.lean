/- Mark. -/
import Derived.Test.YtblogmelmpkfhaaTrn
namespace Go.Proofs.Ytblogmelmpkfhaa
open Go.RowKit Go.Maps
set_option linter.unusedVariables false

/-- A word turned. -/
theorem Ar.turnw {n ab lim bm g c k : Nat} {M : List Arn.It} {W : World} {x y : Arn.It} (h : Ar n ab lim (.slice (some ⟨g, 0, none⟩) (Arn.size M) c) bm M W) (hx : Arn.at? M k = some x) (hr : y.room = x.room) (hy : y.ok) (j : Nat) (z : Int) (hj : j < x.room) (hc : y.cells = x.cells.set j z) (hw : y.lost = x.lost) :
    Ar n ab lim (.slice (some ⟨g, 0, none⟩) (Arn.size M) c) bm (Arn.upd M k y) (W.setCell ⟨g, k + j, none⟩ (.int .u32 z)) ∧ Fr pA n W (W.setCell ⟨g, k + j, none⟩ (.int .u32 z)) := by
  obtain ⟨g', c', k', e1, e2, hk, hg, ⟨cur, hgb⟩, hcc, hcm, hcell⟩ := h.row hx
  cases e1
  obtain ⟨n1, n2, n3⟩ := h.ne hgb
  have hws := Arn.waste_upd (y := y) h.ok hx
  constructor
  · refine h.turn hx hr hy ?_ ?_ ?_
    · refine (heap_other _ _ n1).trans ?_
      rw [h.blk, show Arn.waste (Arn.upd M k y) = Arn.waste M by omega]
    · rw [Arn.row_set h.ok hx j z hj hc, List.map_set]
      exact (h.own.stored (k + j) _).1
    · exact heap_other _ _ n2
  · refine Fr.set _ _ hg (fun o ho => ?_)
    rw [hgb] at ho; cases ho; exact .inr rfl

set_option maxRecDepth 100000 in
set_option maxHeartbeats 2000000 in
theorem mark19 {n ab lim : Nat} {M : List Arn.It} {W : World} (hA : Arx n ab lim M W) (r ld us : Int) (hr : I64 r) :
    Calls Try.prog 19 #[.pointer (some ⟨ab, 0, none⟩), .int .i64 r, .int .i64 ld, .int .i64 us] W fun e w' => e = .returned (.int .i64 (Arn.errM (Arn.find M r) ld us)) ∧ Did n ab lim W (Arn.mark M r ld us) w' := by
  obtain ⟨v, bm, h⟩ := hA
  have HL := hid (wrong43 h r hr)
  cases hx : Arn.find M r with
  | none =>
    rw [hx] at HL
    have HD := hid (fun (w' : World) (hw : Below W.heap.size W w') => show Did n ab lim W (Arn.mark M r ld us) w' from ⟨by unfold Arn.mark; rw [hx]; exact ⟨v, bm, h.below hw⟩, Fr.of_below hw⟩)
    clear h hr
    go_enter Try.func19, Try.ntmps19
    go_wp2_with (go_at_call 43; refine HL.out.mono ?_; rintro e w3 ⟨rfl, hw3⟩)
    go_ret
    exact ⟨rfl, HD.out _ hw3⟩
  | some x =>
    rw [hx] at HL
    have C1 := hid (fun w => small38 ld w)
    have C2 := hid (fun w => small38 us w)
    by_cases hb : (Arn.small ld && Arn.small us) = true
    · have HK := hid (show Arn.mark M r ld us = Arn.upd M r { x with lbd := ld, used := us } by unfold Arn.mark; rw [hx]; simp only []; rw [if_pos hb])
      have HE := hid (show Arn.errM (some x) ld us = 0 by simp only [Arn.errM, Option.isSome_some, if_true, hb])
      rw [HE.out]
      rw [Bool.and_eq_true] at hb
      rw [hb.1] at C1
      rw [hb.2] at C2
      simp only [Arn.small, Bool.and_eq_true, decide_eq_true_eq] at hb
      obtain ⟨⟨hb1, hb2⟩, hb3, hb4⟩ := hb
      obtain ⟨g, c, k, rfl, rfl, ha, hd, hok, hk, hfits, hN, hg, hgb, hc, hcm, hlt⟩ := h.hit hx
      have C3 := hid (fun w => usageOf41 ld us w hb1 hb2 hb3 hb4)
      have HB := hid (fun (w' : World) (hw : Below W.heap.size W w') => (h.below hw).facts)
      have hy : ({ x with lbd := ld, used := us } : Arn.It).ok := ⟨hok.fits, hok.id1, hok.id2, hb1, hb2, hb3, hb4, hok.lits⟩
      have hyc : ({ x with lbd := ld, used := us } : Arn.It).cells = x.cells.set 3 (ld * 65536 + us) := by
        simp [Arn.It.cells, Arn.It.head]
      have HD := hid (fun (w' : World) (hw : Below W.heap.size W w') => (h.below hw).turnw (y := { x with lbd := ld, used := us }) ha rfl hy 3 (ld * 65536 + us) (by omega) hyc rfl)
      have HFZ := hid (fun (w' : World) (hw : Below W.heap.size W w') => (h.below hw).own.frozenAt (k + 3))
      have HW := hid (fun (w' : World) (hw : Below W.heap.size W w') => (h.below hw).word ha 3 (by omega))
      have hkN : (k : Int) + 3 < (Arn.size M : Nat) := by omega
      generalize x.cells.getD 3 0 = old at *
      generalize ld * 65536 + us = nw at *
      generalize Arn.size M = N at *
      clear h hr hx ha hok hd hy hyc hgb hb1 hb2 hb3 hb4
      go_enter Try.func19, Try.ntmps19
      go_wp2_with (fail)
      go_at_call 43
      refine HL.out.mono ?_
      rintro e w3 ⟨rfl, hw3⟩
      clear HL
      obtain ⟨_, c1, _, c3, _, _, f3⟩ := HB.out _ hw3
      obtain ⟨hD1, hD2⟩ := HD.out _ hw3.drew
      have HD1 := hid hD1
      have HD2 := hid hD2
      have c0 := HW.out _ hw3
      have f0 := HFZ.out _ hw3
      clear hD1 hD2 HB HW HFZ HD
      go_wp2_with (first | (go_at_call 38; refine (C1.out _).mono ?_; rintro e w4 ⟨rfl, hw4⟩; rw [hw4]; clear hw4) | (go_at_call 38; refine (C2.out _).mono ?_; rintro e w4 ⟨rfl, hw4⟩; rw [hw4]; clear hw4))
      have hk0 : (0 : Int) ≤ (k : Int) + 3 := by omega
      have hwr : IntKind.i64.wrap ((k : Int) + 3) = k + 3 := by rw [IntKind.wrap_i64]; omega
      have htn : ((k : Int) + 3).toNat = k + 3 := by omega
      go_region_with (go_at_call 41; refine (C3.out _).mono ?_; rintro e W7 ⟨rfl, hW7⟩; rw [hW7]; clear hW7)
      all_goals
        go_wp2
        go_ret
        exact ⟨rfl, by rw [HK.out]; exact ⟨⟨_, _, HD1.out⟩, (Fr.of_below hw3.drew).trans HD2.out⟩⟩
    · have HD := hid (fun (w' : World) (hw : Below W.heap.size W w') => show Did n ab lim W (Arn.mark M r ld us) w' from ⟨by unfold Arn.mark; rw [hx]; simp only []; rw [if_neg hb]; exact ⟨v, bm, h.below hw⟩, Fr.of_below hw⟩)
      have HE := hid (show Arn.errM (some x) ld us = 2 by simp only [Arn.errM, Option.isSome_some, if_true, if_neg hb])
      rw [HE.out]
      generalize Arn.small ld = b1 at *
      generalize Arn.small us = b2 at *
      clear h hr hx
      go_enter Try.func19, Try.ntmps19
      go_wp2_with (fail)
      go_at_call 43
      refine HL.out.mono ?_
      rintro e w3 ⟨rfl, hw3⟩
      clear HL
      cases b1
      · go_wp2_with (go_at_call 38; refine (C1.out _).mono ?_; rintro e w4 ⟨rfl, hw4⟩; rw [hw4]; clear hw4)
        go_ret
        exact ⟨rfl, HD.out _ hw3⟩
      · cases b2
        · go_wp2_with (first | (go_at_call 38; refine (C1.out _).mono ?_; rintro e w4 ⟨rfl, hw4⟩; rw [hw4]; clear hw4) | (go_at_call 38; refine (C2.out _).mono ?_; rintro e w4 ⟨rfl, hw4⟩; rw [hw4]; clear hw4))
          go_ret
          exact ⟨rfl, HD.out _ hw3⟩
        · exact absurd rfl hb
end Go.Proofs.Ytblogmelmpkfhaa
