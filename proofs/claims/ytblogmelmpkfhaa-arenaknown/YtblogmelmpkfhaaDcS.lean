/- The document's Shrink. -/
import Derived.Test.YtblogmelmpkfhaaDcK
namespace Go.Proofs.Ytblogmelmpkfhaa
open Go.RowKit Go.Maps
set_option linter.unusedVariables false

theorem LR.take {W : World} {a : Option Addr} {xs : List Int} (h : LR W a xs) (j : Nat) : LR W a (xs.take j) := by
  refine ⟨fun x hx => h.1 x (List.mem_of_mem_take hx), ?_⟩
  rcases h.2 with h2 | ⟨b, off, cs, e, hb, hc⟩
  · left; rw [h2]; simp
  · right
    refine ⟨b, off, cs, e, hb, fun i hi => ?_⟩
    rw [List.length_take] at hi
    rw [hc i (by omega), List.getD, List.getD, List.getElem?_take_of_lt (by omega)]
set_option maxRecDepth 100000 in
set_option maxHeartbeats 2000000 in
theorem shrink31 {n db lim : Nat} {M : List Arn.It} {W : World} (hA : Dcx n db lim M W) (r q : Int) :
    Calls Try.prog 31 #[.pointer (some ⟨db, 0, none⟩), .int .i64 r, .int .i64 q] W fun e w' => e = .returned (.int .i64 (Arn.errS (Arn.find M r) q)) ∧ DidD n db lim W (Arn.shrink M r q) w' := by
  obtain ⟨v, E, h, rfl⟩ := hA
  have C48 := hid (find48 h r)
  have HD := hid h
  go_enter Try.func31, Try.ntmps31
  go_wp2_with (fail)
  go_at_call 48
  refine C48.out.mono ?_
  rintro e w2 ⟨hf, hw2⟩
  rw [hw2]
  clear hw2 C48
  rcases hf with ⟨rfl, hf⟩ | ⟨i, x, rfl, hx, hp, hd⟩
  · have HE := hid (show Arn.errS (Arn.find (items E) r) q = 91 by rw [hf]; rfl)
    have HK := hid (show Arn.shrink (items E) r q = items E by unfold Arn.shrink; rw [hf])
    clear hf h
    go_wp2
    go_ret
    exact ⟨by rw [HE.out]; rfl, by rw [HK.out]; exact DidD.below ⟨v, E, HD.out, rfl⟩ (Below.refl _ _)⟩
  · obtain ⟨g, c, a, cap, rfl, he, hi, hEl, hg, hok, hroom, hpz⟩ := h.hit hx
    have hat := Arn.at_take h.ok hx
    rw [hp] at hat
    have hfind : Arn.find (items E) r = some x := Arn.find_some.2 ⟨hat.1, hd⟩
    have hlb : x.lits.length ≤ 268435456 := by have := hok.fits; omega
    by_cases hs : 0 ≤ q ∧ q ≤ x.lits.length
    · obtain ⟨j, rfl⟩ : ∃ j : Nat, q = j := ⟨q.toNat, by omega⟩
      have hjl : j ≤ x.lits.length := by omega
      have hjl' : (j : Int) ≤ x.lits.length := by omega
      have HE := hid (show Arn.errS (Arn.find (items E) r) j = 0 by rw [hfind]; simp only [Arn.errS]; rw [if_pos hs])
      have HK := hid (show Arn.shrink (items E) r j = (items E).set i { x with lits := x.lits.take j } by unfold Arn.shrink; rw [hfind]; simp only []; rw [if_pos hs, Int.toNat_natCast]; exact hat.2 _)
      obtain ⟨hcap1, hcap2⟩ : x.lits.length ≤ cap ∧ cap ≤ 9223372036854775807 := h.caps (x, a, cap) (List.mem_of_getElem? he)
      have hb := below_box W (.cells #[.int .i64 r, .int .i64 (x.room : Nat), .int .i64 x.id, .slice a j cap, .bool x.red, .int .i64 x.lbd, .int .i64 x.used, .bool false] 92)
      have x0 := h.cell he (t := 0) rfl
      have x1 := h.cell he (t := 1) rfl
      have x2 := h.cell he (t := 2) rfl
      have x3 := h.cell he (t := 3) rfl
      have x4 := h.cell he (t := 4) rfl
      have x5 := h.cell he (t := 5) rfl
      have x6 := h.cell he (t := 6) rfl
      have x7 := h.cell he (t := 7) rfl
      simp only [hd] at x7
      rw [Nat.add_zero, hp] at x0
      have hc1 := row_cell h.blk 1
      clear hfind hat
      have hD1 := h.below hb
      have hT := hD1.turn (e := (x, a, cap)) (e' := ({ x with lits := x.lits.take j }, a, cap)) he rfl ⟨by show 4 + (x.lits.take j).length ≤ x.room; have := hok.fits; simp; omega, hok.id1, hok.id2, hok.lbd1, hok.lbd2, hok.used1, hok.used2, fun l hl => hok.lits l (List.mem_of_mem_take hl)⟩ (LR.take (hD1.lits (x, a, cap) (List.mem_of_getElem? he)) j) ⟨by show (x.lits.take j).length ≤ cap; simp; omega, hcap2⟩ r hp.symm
      have HT1 := hid (hT.1.below (Below.refl _ _).drew)
      have HT2 := hid (hT.2.trans (Fr.of_below (Below.refl _ _).drew))
      unfold set8 at HT1 HT2
      simp only [hd, List.length_take, Nat.min_eq_left hjl] at HT1 HT2
      have HB := hid hb
      have hiE : (i : Int) < E.length := by omega
      go_wp2_with (fail)
      have y0 := (hb.cell (p := ⟨g, i * 8, none⟩) (cell_lt x0)).trans x0
      have y1 := (hb.cell (p := ⟨g, i * 8 + 1, none⟩) (cell_lt x1)).trans x1
      have y2 := (hb.cell (p := ⟨g, i * 8 + 2, none⟩) (cell_lt x2)).trans x2
      have y3 := (hb.cell (p := ⟨g, i * 8 + 3, none⟩) (cell_lt x3)).trans x3
      have y4 := (hb.cell (p := ⟨g, i * 8 + 4, none⟩) (cell_lt x4)).trans x4
      have y5 := (hb.cell (p := ⟨g, i * 8 + 5, none⟩) (cell_lt x5)).trans x5
      have y6 := (hb.cell (p := ⟨g, i * 8 + 6, none⟩) (cell_lt x6)).trans x6
      have y7 := (hb.cell (p := ⟨g, i * 8 + 7, none⟩) (cell_lt x7)).trans x7
      have hfz : ∀ t, (W.alloc (.cells #[.int .i64 r, .int .i64 (x.room : Nat), .int .i64 x.id, .slice a j cap, .bool x.red, .int .i64 x.lbd, .int .i64 x.used, .bool false] 92)).frozen? ⟨g, t, none⟩ = false := fun t => (h.below hb).own.frozenAt t
      have hd1 := row_cell (h.below hb).blk 1
      clear x0 x1 x2 x3 x4 x5 x6 x7 hc1 hb hT hD1 h HD
      go_region
      all_goals
        go_wp2
        go_ret
        exact ⟨by rw [HE.out]; rfl, by rw [HK.out]; exact ⟨⟨_, _, HT1.out, by rw [items_set]; simp only [hd]⟩, (Fr.of_below HB.out).trans HT2.out⟩⟩
    · have HE := hid (show Arn.errS (Arn.find (items E) r) q = 2 by rw [hfind]; simp only [Arn.errS]; rw [if_neg hs])
      have HK := hid (show Arn.shrink (items E) r q = items E by unfold Arn.shrink; rw [hfind]; simp only []; rw [if_neg hs])
      have HBX := hid (fun o => below_box W o)
      have x0 := h.cell he (t := 0) rfl
      have x1 := h.cell he (t := 1) rfl
      have x2 := h.cell he (t := 2) rfl
      have x3 := h.cell he (t := 3) rfl
      have x4 := h.cell he (t := 4) rfl
      have x5 := h.cell he (t := 5) rfl
      have x6 := h.cell he (t := 6) rfl
      have x7 := h.cell he (t := 7) rfl
      simp only [hd] at x7
      rw [Nat.add_zero, hp] at x0
      have hc1 := row_cell h.blk 1
      have hiE : (i : Int) < E.length := by omega
      clear hfind hat h
      by_cases h1 : q < 0
      · go_wp2
        go_ret
        exact ⟨by rw [HE.out]; rfl, by rw [HK.out]; exact DidD.below ⟨_, E, HD.out, rfl⟩ (HBX.out _)⟩
      · have h2 : (x.lits.length : Int) < q := by omega
        go_wp2
        go_ret
        exact ⟨by rw [HE.out]; rfl, by rw [HK.out]; exact DidD.below ⟨_, E, HD.out, rfl⟩ (HBX.out _)⟩
end Go.Proofs.Ytblogmelmpkfhaa
