/- The chapter's examples, as a call. -/
import Derived.Test.YtdodfmgbjfhnpaaDoorKn2
namespace Go.Proofs.YtdodfmgbjfhnpaaDoor
open Go.RowKit
set_option linter.unusedVariables false
set_option linter.unusedSimpArgs false

theorem none15 (W : World) : Calls Tryd.prog 15 #[.string ⟨#[]⟩] W fun e w' => ∃ a c, e = .returned (.tuple #[.slice a 0 c, .int .i64 0, .int .i64 0]) ∧ Below W.heap.size W w' := by
  refine (parse15 ⟨#[]⟩ W (by decide)).mono fun e w' q => ?_
  rw [Lra.none_parse] at q
  rcases q with ⟨_, h, _⟩ | ⟨qs, v, h, he, hm, hb⟩
  · cases h
  · injection h with h
    have hl : qs.length = 0 := by have := congrArg List.length h; simp at this; simp [this]
    obtain ⟨a, c, rfl⟩ := own_slc hm.row
    rw [hl] at he
    exact ⟨a, c, he, hb⟩
theorem wrong15 (X : ByteArray) (hX : X ∈ Lra.wrongs) (W : World) : Calls Tryd.prog 15 #[.string ((⟨#[57, 32, 100, 32, 51, 32, 48, 10]⟩ : ByteArray) ++ X)] W fun e w' => e = .returned (.tuple #[.slice none 0 0, .int .i64 40, .int .i64 2]) ∧ Below W.heap.size W w' := by
  obtain ⟨h1, h2⟩ := Lra.wrong_parse X hX
  unfold Lra.pre at h1 h2
  refine (parse15 _ W h2).mono fun e w' q => ?_
  rw [h1] at q
  rcases q with ⟨k, h, he, hb⟩ | ⟨_, _, h, _⟩
  · injection h with h
    subst h
    exact ⟨he, hb⟩
  · cases h

set_option maxRecDepth 100000 in
set_option maxHeartbeats 8000000 in
theorem law8 (w : World) (hT : Tab w.heap.size w) :
    Calls Tryd.prog 8 #[] w fun e w' => e = .returned (.bool true) ∧ Below w.heap.size w w' := by
  obtain ⟨A, hA, hAb, hAz, hAS⟩ := goodRow w
  have C12 := write12 _ 4 4 _ A rfl (by decide) (by decide) hAS (hT.on hAb hAb.size)
  unfold WOut at C12
  rw [Lra.good_may, Lra.good_text, if_pos rfl, if_pos rfl] at C12
  have K12 := hid C12
  have HAB := hid hAb
  have HAS := hid hAS
  have HT := hid hT
  clear C12 hAb hAS hT hAz
  unfold Lra.goodT at K12
  go_enter Tryd.func8, Tryd.ntmps8
  go_wp2_with (go_at_call 12; refine K12.out.mono ?_; clear K12; rintro e W1 ⟨rfl, hb⟩
               obtain ⟨B, hB, hBb, hBz, hBS⟩ := badRow W1
               have HB1 := hid hb
               have HBB := hid hBb
               have HBS := hid hBS
               clear hb hBb hBS hBz)
  have HAX := hid (show Steps B (some ⟨w.heap.size + 1 + 1 + 1 + 1, 0, none⟩) [Lra.gd0, Lra.gd1, Lra.gd2, Lra.gd3] from (HAS.out.below HB1.out).below HBB.out)
  have HBW := hid (show Below w.heap.size w B from (HAB.out.trans (HB1.out.mono HAB.out.size)).trans (HBB.out.mono (HAB.out.trans (HB1.out.mono HAB.out.size)).size))
  clear hA hB HAS HAB HB1 HBB
  generalize W1.heap.size + 1 + 1 + 1 + 1 + 1 + 1 + 1 = gB at HBS ⊢
  generalize w.heap.size + 1 + 1 + 1 + 1 = gA at HAX ⊢
  go_loopw [5, 6, 7] (fun iv _ _ wr => ∃ k : Nat, iv = .int .i64 k ∧ k ≤ 13 ∧ Hid (Below B.heap.size B wr)) (fun iv _ _ _ => 13 - (intOf iv).toNat)
  case atStart => exact ⟨0, rfl, by omega, hid (Below.refl _ _)⟩
  case round =>
    obtain ⟨k, rfl, hk, HD⟩ := hrel
    by_cases hlt : k < 13
    · have hlt' : (k : Int) < 13 := by omega
      have hks : k < Lra.bads.length := hlt
      obtain ⟨b1, d1, b2, d2, hst⟩ := (HBS.out.below HD.out).at (j := k) hks
      obtain ⟨a1, c1, a2, c2, hgt⟩ := (HAX.out.below HD.out).at (j := 0) (by decide)
      have hgt' : StC wr gA 0 Lra.gd0 a1 c1 a2 c2 := hgt
      rw [Nat.zero_add] at hst
      have hmem := List.getElem_mem hks
      have hm2 := Lra.bads_two _ hmem
      have hsm := Lra.bads_small _ hmem
      generalize Lra.bads[k] = t at hst hm2 hsm
      have hitm : Lra.items [Lra.gd0, t] ≤ 1000000 := by
        rw [Lra.items_cons, Lra.items_cons, Lra.items_nil]
        have : Lra.gd0.lits.length + Lra.gd0.hints.length = 3 := rfl
        omega
      obtain ⟨x0, x1, x2, x3, hv⟩ := hgt'
      obtain ⟨y0, y1, y2, y3, hu⟩ := hst
      have hTB : Tab wr.drew.heap.size wr.drew := Tab.on HT.out (HBW.out.trans ((HD.out.drew).mono HBW.out.size)) (Nat.le_trans HBW.out.size HD.out.size)
      have C := two12 wr.drew Lra.gd0 t a1 c1 a2 c2 b1 d1 b2 d2 (hv.below (Below.refl _ _).drew) (hu.below (Below.refl _ _).drew) hitm hm2 hTB
      have hS : ∀ W, Below wr.heap.size wr W → Below wr.heap.size wr W ∧ W.cell? ⟨gA, 0, none⟩ = some (.int .u8 1) ∧ W.cell? ⟨gA, 1, none⟩ = some (.int .i64 10) ∧ W.cell? ⟨gA, 2, none⟩ = some (.slice a1 0 c1) ∧ W.cell? ⟨gA, 3, none⟩ = some (.slice a2 3 c2) ∧
          W.cell? ⟨gB, k * 4, none⟩ = some (.int .u8 t.kind) ∧ W.cell? ⟨gB, k * 4 + 1, none⟩ = some (.int .i64 t.id) ∧ W.cell? ⟨gB, k * 4 + 2, none⟩ = some (.slice b1 t.lits.length d1) ∧ W.cell? ⟨gB, k * 4 + 3, none⟩ = some (.slice b2 t.hints.length d2) := fun W h =>
        ⟨h, (h.cell (p := ⟨gA, 0, none⟩) (cell_lt x0)).trans x0, (h.cell (p := ⟨gA, 1, none⟩) (cell_lt x0)).trans x1, (h.cell (p := ⟨gA, 2, none⟩) (cell_lt x0)).trans x2, (h.cell (p := ⟨gA, 3, none⟩) (cell_lt x0)).trans x3,
         (h.cell (p := ⟨gB, k * 4, none⟩) (cell_lt y0)).trans y0, (h.cell (p := ⟨gB, k * 4 + 1, none⟩) (cell_lt y0)).trans y1, (h.cell (p := ⟨gB, k * 4 + 2, none⟩) (cell_lt y0)).trans y2, (h.cell (p := ⟨gB, k * 4 + 3, none⟩) (cell_lt y0)).trans y3⟩
      generalize t.lits.length = n3 at hS C
      generalize t.hints.length = n4 at hS C
      generalize t.kind = uk at hS C
      generalize t.id = ui at hS C
      have C' : Calls Tryd.prog 12 #[.slice (some ⟨wr.heap.size, 0, none⟩) 2 2] (wr.drew.alloc (.cells #[.int .u8 1, .int .i64 10, .slice a1 0 c1, .slice a2 3 c2, .int .u8 uk, .int .i64 ui, .slice b1 n3 d1, .slice b2 n4 d2] 43)) fun e w' => e = .returned (.tuple #[.string ⟨#[]⟩, .int .i64 40]) ∧ Below wr.heap.size wr w' := C.mono fun e w' q => ⟨q.1, (Below.refl _ wr).drew.trans q.2⟩
      have CC := hid C'
      clear x0 x1 x2 x3 y0 y1 y2 y3 hv hu C C' hgt hm2 hsm hmem hitm hks hTB
      obtain ⟨_, x0, x1, x2, x3, y0, y1, y2, y3⟩ := hS wr (Below.refl _ _)
      have HST := hid hS
      have KK := hid (hS wr.drew (Below.refl _ _).drew)
      clear hS
      go_wp2
      go_region_held3 (fun W => Below wr.heap.size wr W ∧ W.cell? ⟨gA, 0, none⟩ = some (.int .u8 1) ∧ W.cell? ⟨gA, 1, none⟩ = some (.int .i64 10) ∧ W.cell? ⟨gA, 2, none⟩ = some (.slice a1 0 c1) ∧ W.cell? ⟨gA, 3, none⟩ = some (.slice a2 3 c2) ∧
          W.cell? ⟨gB, k * 4, none⟩ = some (.int .u8 uk) ∧ W.cell? ⟨gB, k * 4 + 1, none⟩ = some (.int .i64 ui) ∧ W.cell? ⟨gB, k * 4 + 2, none⟩ = some (.slice b1 n3 d1) ∧ W.cell? ⟨gB, k * 4 + 3, none⟩ = some (.slice b2 n4 d2))
        (first | exact KK.out | exact HST.out _ hb8 | exact HST.out _ ((Below.refl _ _).drew.alloc (Nat.le_refl _) _))
        (first | (go_at_call 12; refine CC.out.mono ?_; rintro e w8 ⟨rfl, hb8⟩))
      have HB8 := hid (HD.out.trans (hb8.mono HD.out.size))
      clear hb8 KK HST CC
      go_wp2
      go_roundw
      case rel => exact ⟨k + 1, by go_num, by omega, HB8⟩
      case measure => simp [intOf]; omega
    · have hlt' : ¬ (k : Int) < 13 := by omega
      obtain ⟨Z, hZ⟩ : ∃ Z, wr.alloc (.cells #[.string ⟨#[57, 32, 49, 32, 48, 32, 51, 32, 48]⟩, .string ⟨#[57, 32, 49, 32, 48, 32, 51, 10]⟩, .string ⟨#[48, 57, 32, 49, 32, 48, 32, 48, 10]⟩, .string ⟨#[57, 32, 48, 49, 32, 48, 32, 48, 10]⟩, .string ⟨#[57, 32, 32, 49, 32, 48, 32, 48, 10]⟩, .string ⟨#[57, 32, 49, 32, 48, 32, 48, 32, 48, 10]⟩, .string ⟨#[10]⟩, .string ⟨#[32, 10]⟩, .string ⟨#[57, 10]⟩, .string ⟨#[57, 32, 48, 10]⟩, .string ⟨#[57, 32, 100, 10]⟩, .string ⟨#[57, 32, 100, 32, 48, 32, 48, 10]⟩, .string ⟨#[57, 32, 100, 32, 49, 10]⟩, .string ⟨#[57, 32, 100, 32, 45, 49, 32, 48, 10]⟩, .string ⟨#[45, 57, 32, 48, 32, 48, 10]⟩, .string ⟨#[48, 32, 48, 32, 48, 10]⟩, .string ⟨#[57, 32, 45, 48, 32, 48, 32, 48, 10]⟩, .string ⟨#[57, 32, 43, 49, 32, 48, 32, 48, 10]⟩, .string ⟨#[57, 32, 49, 48, 52, 56, 53, 55, 55, 32, 48, 32, 48, 10]⟩, .string ⟨#[57, 32, 48, 32, 52, 54, 49, 49, 54, 56, 54, 48, 49, 56, 52, 50, 55, 51, 56, 55, 57, 48, 52, 32, 48, 10]⟩, .string ⟨#[57, 32, 48, 32, 57, 57, 57, 57, 57, 57, 57, 57, 57, 57, 57, 57, 57, 57, 57, 57, 57, 57, 57, 57, 32, 48, 10]⟩, .string ⟨#[57, 32, 49, 32, 48, 32, 49, 32, 48, 32, 10]⟩, .string ⟨#[32, 57, 32, 48, 32, 48, 10]⟩, .string ⟨#[57, 32, 48, 32, 48, 13, 10]⟩, .string ⟨#[99, 32, 120, 10]⟩, .string ⟨#[57, 32, 100, 32, 100, 32, 48, 10]⟩, .string ⟨#[57, 32, 49, 32, 100, 32, 48, 10]⟩] 9) = Z := ⟨_, rfl⟩
      have hZr : Z.heap[wr.heap.size]? = some (.cells (Lra.wrongs.map Value.string).toArray 9 (0, 0)) := by rw [← hZ]; exact heap_alloc_new _ _
      have hZb : Below wr.heap.size wr Z := by rw [← hZ]; exact below_box _ _
      have HZR := hid hZr
      have HZW := hid (show Below w.heap.size w Z from HBW.out.trans ((HD.out.trans (hZb.mono HD.out.size)).mono HBW.out.size))
      clear hZr hZb
      go_wp2
      generalize wr.heap.size = gZ at HZR ⊢
      clear hZ
      go_loopw [9, 10, 11, 12] (fun iv _ _ _ wr => ∃ k : Nat, iv = .int .i64 k ∧ k ≤ 27 ∧ Hid (Below Z.heap.size Z wr)) (fun iv _ _ _ _ => 27 - (intOf iv).toNat)
      case atStart => exact ⟨0, rfl, by omega, hid (Below.refl _ _)⟩
      case round =>
        clear HD hlt hlt' hk
        obtain ⟨q, rfl, hq, HD⟩ := hrel
        by_cases hql : q < 27
        · have hql' : (q : Int) < 27 := by omega
          have hqs : q < Lra.wrongs.length := hql
          have hx : Z.cell? ⟨gZ, q, none⟩ = some (.string Lra.wrongs[q]) := by
            rw [row_cell HZR.out]
            simp [hqs]
          have C := wrong15 _ (List.getElem_mem hqs)
          have hxx := (HD.out.cell (p := ⟨gZ, q, none⟩) (cell_lt hx)).trans hx
          have hsz := (Lra.wrong_parse _ (List.getElem_mem hqs)).2
          generalize Lra.wrongs[q] = X at hxx C hsz
          have hlong : ¬ 9223372036854775807 < 8 + X.size := by
            rw [ByteArray.size_append] at hsz
            omega
          clear hsz
          have CC := hid C
          clear hx C hqs
          go_wp2_with (go_at_call 15; refine (CC.out _).mono ?_; clear CC; rintro e W5 ⟨rfl, hb5⟩; have HB5 := hid (HD.out.trans (hb5.mono HD.out.size)); clear hb5)
          go_roundw
          case rel => exact ⟨q + 1, by go_num, by omega, HB5⟩
          case measure => simp [intOf]; omega
        · have hql' : ¬ (q : Int) < 27 := by omega
          obtain ⟨nL, mL, hnL, MKL⟩ := makeL
          obtain ⟨nH, mH, hnH, hmH, hcH, MKH⟩ := makeH
          have HNL := hid hnL
          have HNH := hid hnH
          have HCH := hid hcH
          clear hnL hnH hmH hcH hql hq
          go_wp2_with (first
            | (go_at_call 15; refine (none15 _).mono ?_; rintro e W6 ⟨a6, c6, rfl, hb6⟩; have HB6 := hid (HD.out.trans (hb6.mono HD.out.size)); clear hb6)
            | (go_at_call 12; refine (lim12 _ _ _ _ (long19 _ _ _ _ (by rw [HNL.out]; decide) (by rw [HNL.out]; decide))).mono ?_; clear HNL; rintro e W7 ⟨rfl, hb7⟩
               have HB7 := hid (show Below Z.heap.size Z W7 from HB6.out.trans ((box_below _ _ hb7).mono HB6.out.size)); clear hb7
               obtain ⟨Y, hY⟩ : ∃ Y, (W7.alloc (.cells mH 2)).alloc (.cells #[.int .u8 0, .int .i64 0, .slice none 0 0, .slice (some ⟨W7.heap.size, 0, none⟩) nH nH] 43) = Y := ⟨_, rfl⟩
               have hY0 : Y.heap[W7.heap.size]? = some (.cells mH 2 (0, 0)) := by rw [← hY, alloc_at, if_neg (by simp only [World.size_alloc]; omega), alloc_at, if_pos rfl]
               have hY1 : Y.heap[W7.heap.size + 1]? = some (.cells #[.int .u8 0, .int .i64 0, .slice none 0 0, .slice (some ⟨W7.heap.size, 0, none⟩) nH nH] 43 (0, 0)) := by rw [← hY, alloc_at, if_pos (by simp only [World.size_alloc])]
               have C8 := hid (big12 Y _ _ nH 1 mH HNH.out HCH.out hY1 hY0)
               have HY := hid (show Below Z.heap.size Z Y from by
                 rw [← hY]
                 exact (HB7.out.alloc HB7.out.size _).alloc (by simp; have := HB7.out.size; omega) _)
               clear hY0 hY1)
            | (go_at_call 12; refine C8.out.mono ?_; clear C8; rintro e W8 ⟨rfl, hb8⟩; have HB8 := hid (HY.out.trans (hb8.mono HY.out.size)); clear hb8)
            | (go_at_call 10; refine (works10 _ (Tab.on HT.out (HZW.out.trans (HB8.out.mono HZW.out.size)) (Nat.le_trans HZW.out.size HB8.out.size))).mono ?_; rintro e W9 ⟨rfl, hb9⟩; have HB9 := hid (HB8.out.trans (hb9.mono HB8.out.size)); clear hb9))
          go_ret
          exact ⟨rfl, HZW.out.trans (HB9.out.mono HZW.out.size)⟩
end Go.Proofs.YtdodfmgbjfhnpaaDoor
