/- The document's Mark. -/
import Derived.Test.YtblogmelmpkfhaaDcK
namespace Go.Proofs.Ytblogmelmpkfhaa
open Go.RowKit Go.Maps
set_option linter.unusedVariables false

set_option maxRecDepth 100000 in
set_option maxHeartbeats 2000000 in
theorem mark33 {n db lim : Nat} {M : List Arn.It} {W : World} (hA : Dcx n db lim M W) (r ld us : Int) :
    Calls Try.prog 33 #[.pointer (some ⟨db, 0, none⟩), .int .i64 r, .int .i64 ld, .int .i64 us] W fun e w' => e = .returned (.int .i64 (Arn.errM (Arn.find M r) ld us)) ∧ DidD n db lim W (Arn.mark M r ld us) w' := by
  obtain ⟨v, E, h, rfl⟩ := hA
  have C48 := hid (find48 h r)
  have HD := hid h
  go_enter Try.func33, Try.ntmps33
  go_wp2_with (fail)
  go_at_call 48
  refine C48.out.mono ?_
  rintro e w2 ⟨hf, hw2⟩
  rw [hw2]
  clear hw2 C48
  rcases hf with ⟨rfl, hf⟩ | ⟨i, x, rfl, hx, hp, hd⟩
  · have HE := hid (show Arn.errM (Arn.find (items E) r) ld us = 91 by rw [hf]; rfl)
    have HK := hid (show Arn.mark (items E) r ld us = items E by unfold Arn.mark; rw [hf])
    clear hf h
    go_wp2
    go_ret
    exact ⟨by rw [HE.out]; rfl, by rw [HK.out]; exact DidD.below ⟨v, E, HD.out, rfl⟩ (Below.refl _ _)⟩
  · obtain ⟨g, c, a, cap, rfl, he, hi, hEl, hg, hok, hroom, hpz⟩ := h.hit hx
    have hat := Arn.at_take h.ok hx
    rw [hp] at hat
    have hfind : Arn.find (items E) r = some x := Arn.find_some.2 ⟨hat.1, hd⟩
    have C1 := hid (fun w => small49 ld w)
    have C2 := hid (fun w => small49 us w)
    by_cases hs : (Arn.small ld && Arn.small us) = true
    · have HE := hid (show Arn.errM (Arn.find (items E) r) ld us = 0 by rw [hfind]; simp only [Arn.errM, Option.isSome_some, if_true, hs])
      have HK := hid (show Arn.mark (items E) r ld us = (items E).set i { x with lbd := ld, used := us } by unfold Arn.mark; rw [hfind]; simp only []; rw [if_pos hs]; exact hat.2 _)
      rw [Bool.and_eq_true] at hs
      rw [hs.1] at C1
      rw [hs.2] at C2
      simp only [Arn.small, Bool.and_eq_true, decide_eq_true_eq] at hs
      obtain ⟨⟨hs1, hs2⟩, hs3, hs4⟩ := hs
      have hb := below_box W (.cells #[.int .i64 r, .int .i64 (x.room : Nat), .int .i64 x.id, .slice a x.lits.length cap, .bool x.red, .int .i64 ld, .int .i64 us, .bool false] 92)
      have x0 := h.cell he (t := 0) rfl
      have x1 := h.cell he (t := 1) rfl
      have x2 := h.cell he (t := 2) rfl
      have x3 := h.cell he (t := 3) rfl
      have x4 := h.cell he (t := 4) rfl
      have x5 := h.cell he (t := 5) rfl
      have x6 := h.cell he (t := 6) rfl
      have x7 := h.cell he (t := 7) rfl
      simp only [hd] at x7
      rw [Nat.add_zero, hp] at x0
      have hc1 := row_cell h.blk 1
      clear hfind hat
      have hD1 := h.below hb
      have hT := hD1.turn (e := (x, a, cap)) (e' := ({ x with lbd := ld, used := us }, a, cap)) he rfl ⟨hok.fits, hok.id1, hok.id2, hs1, hs2, hs3, hs4, hok.lits⟩ (hD1.lits (x, a, cap) (List.mem_of_getElem? he)) (hD1.caps (x, a, cap) (List.mem_of_getElem? he)) r hp.symm
      have HT1 := hid (hT.1.below (Below.refl _ _).drew)
      have HT2 := hid (hT.2.trans (Fr.of_below (Below.refl _ _).drew))
      unfold set8 at HT1 HT2
      simp only [hd] at HT1 HT2
      have HB := hid hb
      have hiE : (i : Int) < E.length := by omega
      go_wp2_with (fail)
      go_at_call 49
      refine (C1.out _).mono ?_
      rintro e w4 ⟨rfl, hw4⟩
      rw [hw4]
      clear hw4
      go_wp2_with (fail)
      go_at_call 49
      refine (C2.out _).mono ?_
      rintro e w4 ⟨rfl, hw4⟩
      rw [hw4]
      clear hw4 C1 C2
      go_wp2_with (fail)
      have y0 := (hb.cell (p := ⟨g, i * 8, none⟩) (cell_lt x0)).trans x0
      have y1 := (hb.cell (p := ⟨g, i * 8 + 1, none⟩) (cell_lt x1)).trans x1
      have y2 := (hb.cell (p := ⟨g, i * 8 + 2, none⟩) (cell_lt x2)).trans x2
      have y3 := (hb.cell (p := ⟨g, i * 8 + 3, none⟩) (cell_lt x3)).trans x3
      have y4 := (hb.cell (p := ⟨g, i * 8 + 4, none⟩) (cell_lt x4)).trans x4
      have y5 := (hb.cell (p := ⟨g, i * 8 + 5, none⟩) (cell_lt x5)).trans x5
      have y6 := (hb.cell (p := ⟨g, i * 8 + 6, none⟩) (cell_lt x6)).trans x6
      have y7 := (hb.cell (p := ⟨g, i * 8 + 7, none⟩) (cell_lt x7)).trans x7
      have hfz : ∀ t, (W.alloc (.cells #[.int .i64 r, .int .i64 (x.room : Nat), .int .i64 x.id, .slice a x.lits.length cap, .bool x.red, .int .i64 ld, .int .i64 us, .bool false] 92)).frozen? ⟨g, t, none⟩ = false := fun t => (h.below hb).own.frozenAt t
      have hd1 := row_cell (h.below hb).blk 1
      clear x0 x1 x2 x3 x4 x5 x6 x7 hc1 hb hT hD1 h HD
      go_region
      all_goals
        go_wp2
        go_ret
        exact ⟨by rw [HE.out]; rfl, by rw [HK.out]; exact ⟨⟨_, _, HT1.out, by rw [items_set]; simp only [hd]⟩, (Fr.of_below HB.out).trans HT2.out⟩⟩
    · have HE := hid (show Arn.errM (Arn.find (items E) r) ld us = 2 by rw [hfind]; simp only [Arn.errM, Option.isSome_some, if_true, if_neg hs])
      have HK := hid (show Arn.mark (items E) r ld us = items E by unfold Arn.mark; rw [hfind]; simp only []; rw [if_neg hs])
      generalize Arn.small ld = b1 at *
      generalize Arn.small us = b2 at *
      clear hfind hat h
      cases b1
      · go_wp2_with (fail)
        go_at_call 49
        refine (C1.out _).mono ?_
        rintro e w4 ⟨rfl, hw4⟩
        rw [hw4]
        clear hw4
        go_wp2
        go_ret
        exact ⟨by rw [HE.out]; rfl, by rw [HK.out]; exact DidD.below ⟨_, E, HD.out, rfl⟩ (Below.refl _ _)⟩
      · cases b2
        · go_wp2_with (fail)
          go_at_call 49
          refine (C1.out _).mono ?_
          rintro e w4 ⟨rfl, hw4⟩
          rw [hw4]
          clear hw4
          go_wp2_with (fail)
          go_at_call 49
          refine (C2.out _).mono ?_
          rintro e w4 ⟨rfl, hw4⟩
          rw [hw4]
          clear hw4
          go_wp2
          go_ret
          exact ⟨by rw [HE.out]; rfl, by rw [HK.out]; exact DidD.below ⟨_, E, HD.out, rfl⟩ (Below.refl _ _)⟩
        · exact absurd rfl hs
end Go.Proofs.Ytblogmelmpkfhaa
