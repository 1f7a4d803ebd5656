/- The examples of the chapter, nil ones, and what bounds ask. -/
import Derived.Test.YtcoajalgodlphabKn
namespace Go.Proofs.Ytcoajalgodlphab
open Go.RowKit Go.Maps Av
set_option linter.unusedVariables false
set_option linter.unusedSimpArgs false
set_option maxRecDepth 100000

/-- The four averages that are held against each other. -/
structure Four (b c t z : Nat) (W w : World) : Prop where
  hb : Am 39 b 0 47244640256 1 w
  hc : Am 39 c 0 42949672960 1 w
  ht : Am 39 t 30 4611686018427387904 1 w
  hz : Am 39 z 0 0 0 w
  bel : Below W.heap.size W w
theorem Four.below {b c t z : Nat} {W w w' : World} (H : Four b c t z W w) (h : Below w.heap.size w w') : Four b c t z W w' :=
  ⟨H.hb.below h, H.hc.below h, H.ht.below h, H.hz.below h, H.bel.trans (h.mono H.bel.size)⟩
theorem ok_b : Ok 0 47244640256 1 := ⟨by omega, by omega, by omega, by omega⟩
theorem ok_c : Ok 0 42949672960 1 := ⟨by omega, by omega, by omega, by omega⟩
theorem ok_t : Ok 30 4611686018427387904 1 := ⟨by omega, by omega, by omega, by omega⟩
theorem ok_z : Ok 0 0 0 := ⟨by omega, by omega, by omega, by omega⟩
/-- A filled average of a row that lies new. -/
theorem fill_lit {s : Nat} {l : List Int} {cs : Array Value} (W : World) (hs : s ≤ 30) (hl : l.length ≤ 1000) (hc : ∀ j, j < l.length → cs[j]? = some (.int .i64 (l.getD j 0))) (c : Nat) {p : Int × Nat} (hp : fil s l = p) :
    Calls Try.prog 4 #[.int .i64 (s : Int), .slice (some ⟨W.heap.size, 0, none⟩) l.length c] (W.alloc (.cells cs 2)) fun e w' => e = .returned (.pointer (some ⟨W.heap.size + 1, 0, none⟩)) ∧ Am 39 (W.heap.size + 1) s p.1 p.2 w' ∧ Below W.heap.size W w' := by
  have := filled16x (W := W.alloc (.cells cs 2)) (c := c) hs hl (iw_lit (heap_alloc_new W (.cells cs 2)) hc)
  rw [World.size_alloc] at this
  refine this.mono ?_
  rintro e w' ⟨rfl, h1, h2, h3⟩
  rw [hp] at h1
  exact ⟨rfl, h1, (below_box W _).trans (h3.mono (by omega))⟩
/-- All that is held, while the bell is asked. -/
structure Fv (bb bc bt bz be gr j : Nat) (W w : World) : Prop where
  four : Four bb bc bt bz W w
  bell : Bl 49 be 3 (bst j).1 (bst j).2.1 w
  row : w.heap[gr]? = some (.cells #[.int .i64 3, .int .i64 6, .int .i64 12, .int .i64 15, .int .i64 18, .int .i64 24, .int .i64 36] 3 (0, 0))
  n1 : bb ≠ be
  n2 : bc ≠ be
  n3 : bt ≠ be
  n4 : bz ≠ be
  n5 : gr ≠ be
  n6 : W.heap.size ≤ be
theorem Fv.tick {bb bc bt bz be gr j : Nat} {W w w' : World} (H : Fv bb bc bt bz be gr j W w) (hb : Bl 49 be 3 (bst (j + 1)).1 (bst (j + 1)).2.1 w') (f : Fq (fun g => g ≠ be) w w') : Fv bb bc bt bz be gr (j + 1) W w' :=
  ⟨⟨H.four.hb.keep f H.n1, H.four.hc.keep f H.n2, H.four.ht.keep f H.n3, H.four.hz.keep f H.n4, H.four.bel.trans (f.bel H.four.bel.size H.n6)⟩, hb, f.block _ _ H.row H.n5, H.n1, H.n2, H.n3, H.n4, H.n5, H.n6⟩
theorem bst_no {j : Nat} (h : (bst j).2.1 ≠ 1) : bst (j + 1) = ((bst j).1, (bst j).2.1 - 1, (bst j).2.2) := by rw [bst, if_neg h]
theorem bst_yes {j : Nat} (h : (bst j).2.1 = 1) : bst (j + 1) = ((bst j).1 + 1, 3 * lby ((bst j).1 + 1), (bst j).2.2 + 1) := by rw [bst, if_pos h]
set_option maxHeartbeats 40000000 in
theorem law3 (W : World) : Calls Try.prog 3 #[] W fun e w' => e = .returned (.bool true) ∧ Below W.heap.size W w' := by
  have C1 := hid (fill_lit (s := 2) (l := [8, 0, 0]) (cs := #[.int .i64 8, .int .i64 0, .int .i64 0]) W (by omega) (by simp) (by intro j hj; rcases j with _ | _ | _ | j <;> first | rfl | (simp at hj; done) | (simp at hj; omega)) 3 fil1)
  go_enter Try.func3, Try.ntmps3
  go_wp2_with (fail)
  go_at_call 4
  refine C1.out.mono ?_
  rintro e w1 ⟨rfl, a1, b1⟩
  obtain ⟨ba, hba⟩ : ∃ ba, W.heap.size + 1 = ba := ⟨_, rfl⟩
  rw [hba] at a1 ⊢
  have HBA := hid hba
  have HB1 := hid b1
  have C5 := hid (value14 a1)
  have C6 := hid (add12_ok a1 ⟨by omega, by omega, by omega, by omega⟩ (x := 4) (by omega) (by omega))
  rw [show 3 + 1 = 4 from rfl, av4] at C6
  clear C1 a1 b1 hba
  go_wp2_with (go_at_call 5; refine C5.out.mono ?_; rintro e w7 ⟨rfl, hw7⟩; rw [hw7]; clear hw7)
  go_at_call 6
  refine C6.out.mono ?_
  rintro e w2 ⟨rfl, a2, f2⟩
  have HB2 := hid (HB1.out.trans (f2.bel (N := W.heap.size) HB1.out.size (by have := HBA.out; omega)))
  clear C5 C6
  have C5 := hid (value14 a2)
  have C7 := hid (count15 a2)
  have C6 := hid (add12_no (b := ba) (x := -1) w2 (.inl (by omega)))
  have C6b := hid (add12_no (b := ba) (x := 1073741825) w2 (.inr (by omega)))
  clear a2 f2 HB1
  go_wp2_with (go_at_call 5; refine C5.out.mono ?_; rintro e w7 ⟨rfl, hw7⟩; rw [hw7]; clear hw7)
  go_at_call 6
  refine C6.out.mono ?_
  rintro e w7 ⟨rfl, hw7⟩
  rw [hw7]
  clear hw7 C6
  go_wp2_with (fail)
  go_at_call 6
  refine C6b.out.mono ?_
  rintro e w7 ⟨rfl, hw7⟩
  rw [hw7]
  clear hw7 C6b
  go_wp2_with (go_at_call 7; refine C7.out.mono ?_; rintro e w7 ⟨rfl, hw7⟩; rw [hw7]; clear hw7)
  have hg := heap_alloc_new w2 (.cells #[.int .i64 1, .int .i64 1, .int .i64 2, .int .i64 1, .int .i64 1, .int .i64 2, .int .i64 4, .int .i64 1, .int .i64 1, .int .i64 2, .int .i64 1, .int .i64 1, .int .i64 2, .int .i64 4, .int .i64 8] 2)
  have hb3 := below_box w2 (.cells #[.int .i64 1, .int .i64 1, .int .i64 2, .int .i64 1, .int .i64 1, .int .i64 2, .int .i64 4, .int .i64 1, .int .i64 1, .int .i64 2, .int .i64 1, .int .i64 1, .int .i64 2, .int .i64 4, .int .i64 8] 2)
  obtain ⟨W3, hW3⟩ : ∃ W3, w2.alloc (.cells #[.int .i64 1, .int .i64 1, .int .i64 2, .int .i64 1, .int .i64 1, .int .i64 2, .int .i64 4, .int .i64 1, .int .i64 1, .int .i64 2, .int .i64 1, .int .i64 1, .int .i64 2, .int .i64 4, .int .i64 8] 2) = W3 := ⟨_, rfl⟩
  rw [hW3] at hg hb3 ⊢
  obtain ⟨g2, hg2⟩ : ∃ g2, w2.heap.size = g2 := ⟨_, rfl⟩
  have HB3 := hid (show Below W.heap.size W W3 from HB2.out.trans (hb3.mono HB2.out.size))
  rw [hg2] at hg ⊢
  have HG := hid (fun (j : Nat) (hj : j < 15) => show W3.cell? ⟨g2, j, none⟩ = some (.int .i64 (want.getD j 0)) from by
    rw [row_cell hg]
    rcases j with _ | _ | _ | _ | _ | _ | _ | _ | _ | _ | _ | _ | _ | _ | _ | j <;> first | rfl | omega)
  have C8 := hid (fun (i : Nat) (h : i < 15) => show Calls Try.prog 8 #[.int .i64 ((i : Int) + 1)] W3 (fun e w' => e = .returned (.tuple #[.int .i64 (want.getD i 0), .int .i64 0]) ∧ w' = W3) from by
    have := luby19 ((i : Int) + 1) W3 (by omega)
    rw [(want_facts ⟨i, h⟩).1, (want_facts ⟨i, h⟩).2] at this
    exact this)
  clear hg hb3 hW3 hg2 C5 C7 HB2
  try dsimp only
  go_loop [3] (fun iv => ∃ i : Nat, i ≤ 15 ∧ iv = .int .i64 (i : Int)) (fun iv => 15 - (intOf iv).toNat)
  case atStart => exact ⟨0, by omega, rfl⟩
  case round =>
    obtain ⟨i, hi, rfl⟩ := hrel
    by_cases hlt : i < 15
    · have c := HG.out i hlt
      have D8 := hid (C8.out i hlt)
      have hltI : (i : Int) < 15 := by omega
      have hwi : wrap64 ((i : Int) + 1) = (i : Int) + 1 := by unfold wrap64; omega
      generalize want.getD i 0 = y at c D8
      go_wp2_with (go_at_call 8; refine D8.out.mono ?_; rintro e w7 ⟨rfl, hw7⟩; rw [hw7]; clear hw7)
      go_round
      case rel => exact ⟨i + 1, by omega, by go_num⟩
      case measure => simp [intOf]; omega
    · have hltI : ¬ (i : Int) < 15 := by omega
      clear hi HG C8
      have E1 := hid (luby19 4611686018427387903 W3 (by omega))
      have E2 := hid (luby19 9223372036854775807 W3 (by omega))
      have E3 := hid (luby19 4611686018427387904 W3 (by omega))
      have E4 := hid (luby19 0 W3 (by omega))
      rw [great1.1, great1.2] at E1
      rw [great2.1, great2.2] at E2
      rw [great3.1, great3.2] at E3
      rw [great4.1, great4.2] at E4
      go_wp2_with (fail)
      go_at_call 8
      refine E1.out.mono ?_
      rintro e w7 ⟨rfl, hw7⟩
      rw [hw7]
      clear hw7 E1
      go_wp2_with (fail)
      go_at_call 8
      refine E2.out.mono ?_
      rintro e w7 ⟨rfl, hw7⟩
      rw [hw7]
      clear hw7 E2
      go_wp2_with (fail)
      go_at_call 8
      refine E3.out.mono ?_
      rintro e w7 ⟨rfl, hw7⟩
      rw [hw7]
      clear hw7 E3
      go_wp2_with (fail)
      go_at_call 8
      refine E4.out.mono ?_
      rintro e w7 ⟨rfl, hw7⟩
      rw [hw7]
      clear hw7 E4
      have F1 := hid (fill_lit (s := 0) (l := [11]) (cs := #[.int .i64 11]) W3 (by omega) (by simp) (by intro j hj; rcases j with _ | j <;> first | rfl | (simp at hj; done) | (simp at hj; omega)) 1 fil2)
      go_wp2_with (fail)
      go_at_call 4
      refine F1.out.mono ?_
      rintro e w4 ⟨rfl, a4, b4⟩
      obtain ⟨bb, hbb⟩ : ∃ bb, W3.heap.size + 1 = bb := ⟨_, rfl⟩
      rw [hbb] at a4 ⊢
      have HA4 := hid a4
      have HB4 := hid (show Below W.heap.size W w4 from HB3.out.trans (b4.mono HB3.out.size))
      have F2 := hid (fill_lit (s := 0) (l := [10]) (cs := #[.int .i64 10]) w4 (by omega) (by simp) (by intro j hj; rcases j with _ | j <;> first | rfl | (simp at hj; done) | (simp at hj; omega)) 1 fil3)
      clear a4 b4 F1 HB3 hbb
      go_wp2_with (fail)
      go_at_call 4
      refine F2.out.mono ?_
      rintro e w5 ⟨rfl, a5, b5⟩
      obtain ⟨bc, hbc⟩ : ∃ bc, w4.heap.size + 1 = bc := ⟨_, rfl⟩
      rw [hbc] at a5 ⊢
      have HA5 := hid (show Am 39 bb 0 47244640256 1 w5 ∧ Am 39 bc 0 42949672960 1 w5 from ⟨HA4.out.below b5, a5⟩)
      have HB5 := hid (show Below W.heap.size W w5 from HB4.out.trans (b5.mono HB4.out.size))
      have F3 := hid (fill_lit (s := 30) (l := [1073741824]) (cs := #[.int .i64 1073741824]) w5 (by omega) (by simp) (by intro j hj; rcases j with _ | j <;> first | rfl | (simp at hj; done) | (simp at hj; omega)) 1 fil4)
      clear a5 b5 F2 HB4 hbc HA4
      go_wp2_with (fail)
      go_at_call 4
      refine F3.out.mono ?_
      rintro e w6 ⟨rfl, a6, b6⟩
      obtain ⟨bt, hbt⟩ : ∃ bt, w5.heap.size + 1 = bt := ⟨_, rfl⟩
      rw [hbt] at a6 ⊢
      have HA6 := hid (show Am 39 bb 0 47244640256 1 w6 ∧ Am 39 bc 0 42949672960 1 w6 ∧ Am 39 bt 30 4611686018427387904 1 w6 from ⟨HA5.out.1.below b6, HA5.out.2.below b6, a6⟩)
      have HB6 := hid (show Below W.heap.size W w6 from HB5.out.trans (b6.mono HB5.out.size))
      have F4 := hid (filled16x (s := 0) (W := w6) (a := none) (l := []) (c := 0) (by omega) (by simp) (.inl rfl))
      clear a6 b6 F3 HB5 hbt HA5
      go_wp2_with (fail)
      go_at_call 4
      refine F4.out.mono ?_
      rintro e w8 ⟨rfl, a8, o8, b8⟩
      rw [fil5] at a8
      obtain ⟨bz, hbz⟩ : ∃ bz, w6.heap.size = bz := ⟨_, rfl⟩
      have HF8 := hid (show Four bb bc bt bz W w8 from ⟨HA6.out.1.below b8, HA6.out.2.1.below b8, HA6.out.2.2.below b8, hbz ▸ a8, HB6.out.trans (b8.mono HB6.out.size)⟩)
      rw [hbz]
      clear a8 o8 b8 F4 HB6 hbz HA6
      have G0 := hid (above17 (m := 110) HF8.out.hb HF8.out.hc ok_b ok_c)
      rw [show abvB 47244640256 42949672960 110 = false from by decide] at G0
      go_wp2_with (fail)
      go_at_call 9
      refine G0.out.mono ?_
      rintro e x0 ⟨rfl, b9⟩
      have HFx0 := hid (HF8.out.below b9)
      clear G0 b9 HF8
      have G1 := hid (above17 (m := 109) HFx0.out.hb HFx0.out.hc ok_b ok_c)
      rw [show abvB 47244640256 42949672960 109 = true from by decide] at G1
      go_wp2_with (fail)
      go_at_call 9
      refine G1.out.mono ?_
      rintro e x1 ⟨rfl, b9⟩
      have HFx1 := hid (HFx0.out.below b9)
      clear G1 b9 HFx0
      have G2 := hid (above17 (m := 111) HFx1.out.hb HFx1.out.hc ok_b ok_c)
      rw [show abvB 47244640256 42949672960 111 = false from by decide] at G2
      go_wp2_with (fail)
      go_at_call 9
      refine G2.out.mono ?_
      rintro e x2 ⟨rfl, b9⟩
      have HFx2 := hid (HFx1.out.below b9)
      clear G2 b9 HFx1
      have G3 := hid (above17 (m := 99) HFx2.out.ht HFx2.out.ht ok_t ok_t)
      rw [show abvB 4611686018427387904 4611686018427387904 99 = true from by decide] at G3
      go_wp2_with (fail)
      go_at_call 9
      refine G3.out.mono ?_
      rintro e x3 ⟨rfl, b9⟩
      have HFx3 := hid (HFx2.out.below b9)
      clear G3 b9 HFx2
      have G4 := hid (above17 (m := 100) HFx3.out.ht HFx3.out.ht ok_t ok_t)
      rw [show abvB 4611686018427387904 4611686018427387904 100 = false from by decide] at G4
      go_wp2_with (fail)
      go_at_call 9
      refine G4.out.mono ?_
      rintro e x4 ⟨rfl, b9⟩
      have HFx4 := hid (HFx3.out.below b9)
      clear G4 b9 HFx3
      have G5 := hid (above17 (m := 10000) HFx4.out.ht HFx4.out.hz ok_t ok_z)
      rw [show abvB 4611686018427387904 0 10000 = true from by decide] at G5
      go_wp2_with (fail)
      go_at_call 9
      refine G5.out.mono ?_
      rintro e x5 ⟨rfl, b9⟩
      have HFx5 := hid (HFx4.out.below b9)
      clear G5 b9 HFx4
      have G6 := hid (above17 (m := 0) HFx5.out.hz HFx5.out.ht ok_z ok_t)
      rw [show abvB 0 4611686018427387904 0 = false from by decide] at G6
      go_wp2_with (fail)
      go_at_call 9
      refine G6.out.mono ?_
      rintro e x6 ⟨rfl, b9⟩
      have HFx6 := hid (HFx5.out.below b9)
      clear G6 b9 HFx5
      have G7 := hid (above17 (m := (-1)) HFx6.out.ht HFx6.out.hz ok_t ok_z)
      rw [show abvB 4611686018427387904 0 (-1) = false from by decide] at G7
      go_wp2_with (fail)
      go_at_call 9
      refine G7.out.mono ?_
      rintro e x7 ⟨rfl, b9⟩
      have HFx7 := hid (HFx6.out.below b9)
      clear G7 b9 HFx6
      have G8 := hid (above17 (m := 10001) HFx7.out.ht HFx7.out.hz ok_t ok_z)
      rw [show abvB 4611686018427387904 0 10001 = false from by decide] at G8
      go_wp2_with (fail)
      go_at_call 9
      refine G8.out.mono ?_
      rintro e x8 ⟨rfl, b9⟩
      have HFx8 := hid (HFx7.out.below b9)
      clear G8 b9 HFx7
      have C10 := hid (bnew22_ok 3 x8 (by omega) (by omega))
      go_wp2_with (fail)
      go_at_call 10
      refine C10.out.mono ?_
      rintro e y1 ⟨rfl, q1, b9⟩
      have HFy := hid (HFx8.out.below b9)
      obtain ⟨be, hbe⟩ : ∃ be, x8.heap.size = be := ⟨_, rfl⟩
      rw [hbe] at q1 ⊢
      have HQ := hid q1
      have HN := hid (show bb ≠ be ∧ bc ≠ be ∧ bt ≠ be ∧ bz ≠ be from by have h1 := lt_of_blk HFx8.out.hb.blk; have h2 := lt_of_blk HFx8.out.hc.blk; have h3 := lt_of_blk HFx8.out.ht.blk; have h4 := lt_of_blk HFx8.out.hz.blk; omega)
      have HBE := hid (show W.heap.size ≤ be from by have := HFx8.out.bel.size; omega)
      clear C10 b9 HFx8 q1 hbe
      go_wp2_with (fail)
      have hg := heap_alloc_new y1 (.cells #[.int .i64 3, .int .i64 6, .int .i64 12, .int .i64 15, .int .i64 18, .int .i64 24, .int .i64 36] 3)
      have hb3 := below_box y1 (.cells #[.int .i64 3, .int .i64 6, .int .i64 12, .int .i64 15, .int .i64 18, .int .i64 24, .int .i64 36] 3)
      obtain ⟨Y2, hY2⟩ : ∃ Y2, y1.alloc (.cells #[.int .i64 3, .int .i64 6, .int .i64 12, .int .i64 15, .int .i64 18, .int .i64 24, .int .i64 36] 3) = Y2 := ⟨_, rfl⟩
      rw [hY2] at hg hb3 ⊢
      obtain ⟨gr, hgr⟩ : ∃ gr, y1.heap.size = gr := ⟨_, rfl⟩
      rw [hgr] at hg ⊢
      have HV := hid (show Fv bb bc bt bz be gr 0 W Y2 from ⟨HFy.out.below hb3, HQ.out.below hb3, hg, HN.out.1, HN.out.2.1, HN.out.2.2.1, HN.out.2.2.2, by have := lt_of_blk HQ.out.blk; omega, by have := HBE.out; omega⟩)
      clear hg hb3 hY2 hgr HQ HFy HN HBE
      try dsimp only
      go_loopw [23, 24] (fun av kv wr => ∃ j : Nat, j ≤ 36 ∧ av = .int .i64 (((bst j).2.2 : Nat) : Int) ∧ kv = .int .i64 ((j : Int) + 1) ∧ Hid (Fv bb bc bt bz be gr j W wr)) (fun _ kv _ => 37 - (intOf kv).toNat)
      case atStart => exact ⟨0, by omega, rfl, rfl, HV⟩
      case round =>
        obtain ⟨j, hj, rfl, rfl, HR⟩ := hrel
        obtain ⟨z, hz⟩ : ∃ z : Int, (j : Int) + 1 = z := ⟨_, rfl⟩
        by_cases hlt : j < 36
        · obtain ⟨f1, f2, f3, f4, f5⟩ := bst_facts ⟨j, hlt⟩
          dsimp only at f1 f2 f3 f4 f5
          have hk : z ≤ 36 := by omega
          have hwz : wrap64 (z + 1) = z + 1 := by unfold wrap64; omega
          have HZ := hid hz
          by_cases h1 : (bst j).2.1 = 1
          · have hE := bst_yes h1
            have HE := hid hE
            have hbl := HR.out.bell
            rw [h1] at hbl
            have C11 := hid (tick24_yes hbl (by omega) (by omega))
            have h7 := (f5 h1).1
            have hrow : wr.heap[gr]? = _ := HR.out.row
            have hrg := (f5 h1).2
            have HA := hid (show ((bst (j + 1)).2.2 : Int) = ((bst j).2.2 : Int) + 1 by rw [hE]; show (((bst j).2.2 + 1 : Nat) : Int) = _; omega)
            have HFT := hid (fun (w' : World) (a : Bl 49 be 3 ((bst j).1 + 1) (3 * lby ((bst j).1 + 1)) w') (f : Fq (fun g => g ≠ be) wr w') => HR.out.tick (w' := w') (by rw [HE.out]; exact a) f)
            obtain ⟨at', hat⟩ : ∃ at', (bst j).2.2 = at' := ⟨_, rfl⟩
            rw [hat] at h7 hrg HA ⊢
            have hcell : ∀ X : World, X.heap[gr]? = some (.cells #[.int .i64 3, .int .i64 6, .int .i64 12, .int .i64 15, .int .i64 18, .int .i64 24, .int .i64 36] 3 (0, 0)) → X.cell? ⟨gr, at', none⟩ = some (.int .i64 z) := fun X hX => by
              rw [row_cell hX, ← hz, ← hrg]
              rcases at' with _ | _ | _ | _ | _ | _ | _ | q <;> first | rfl | omega
            have HCL := hid hcell
            have h7I : (at' : Int) < 7 := by omega
            have h7G : ¬ (7 : Int) ≤ at' := by omega
            have hwa : wrap64 ((at' : Int) + 1) = (at' : Int) + 1 := by unfold wrap64; omega
            rw [hz]
            clear f1 f2 f3 f4 f5 h1 hE hbl hrow hrg hat hcell hz
            go_wp2_with (fail)
            go_at_call 11
            refine C11.out.mono ?_
            rintro e w7 ⟨rfl, a7, f7⟩
            have H7 := hid (HFT.out w7 a7 f7)
            have c7 := HCL.out w7 H7.out.row
            clear C11 a7 f7 HFT
            go_wp2
            simp only [hwz, hwa]
            go_roundw
            case rel => exact ⟨j + 1, hlt, by rw [HA.out], by rw [← HZ.out]; go_num, H7⟩
            case measure => have := HZ.out; simp [intOf]; omega
          · have hE := bst_no h1
            have HE := hid hE
            have C11 := hid (tick24_no HR.out.bell (by omega) (by omega))
            have HFT := hid (fun (w' : World) (a : Bl 49 be 3 (bst j).1 ((bst j).2.1 - 1) w') (f : Fq (fun g => g ≠ be) wr w') => HR.out.tick (w' := w') (by rw [HE.out]; exact a) f)
            have HA := hid (show (bst (j + 1)).2.2 = (bst j).2.2 by rw [hE])
            rw [hz]
            clear f1 f2 f3 f4 f5 h1 hE hz
            go_wp2_with (fail)
            go_at_call 11
            refine C11.out.mono ?_
            rintro e w7 ⟨rfl, a7, f7⟩
            have H7 := hid (HFT.out w7 a7 f7)
            clear C11 a7 f7 HFT
            go_wp2
            simp only [hwz]
            go_roundw
            case rel => exact ⟨j + 1, hlt, by rw [HA.out], by rw [← HZ.out]; go_num, H7⟩
            case measure => have := HZ.out; simp [intOf]; omega
        · obtain rfl : j = 36 := by omega
          have hend : (bst 36).2.2 = 7 := by rw [bst_end]
          rw [hend, hz]
          have hk : ¬ z ≤ 36 := by omega
          have HF1 := hid HR.out.four
          have hb8 := HR.out.bell
          rw [bst_end] at hb8
          have C12a := hid (new10_no (-1) wr (.inl (by omega)))
          have C12b := hid (new10_no 31 wr (.inr (by omega)))
          have C10a := hid (bnew22_no 0 wr (.inl (by omega)))
          have C10b := hid (bnew22_no 2147483648 wr (.inr (by omega)))
          have C13 := hid (round26 hb8)
          have C6 := hid (add12_nil 1 wr)
          have C5 := hid (value14_nil wr)
          have C7 := hid (count15_nil wr)
          have C9a := hid (above17_nil (m := 5) (a := none) (b := some ⟨bb, 0, none⟩) wr (.inl rfl))
          have C9b := hid (above17_nil (m := 5) (a := some ⟨bb, 0, none⟩) (b := none) wr (.inr rfl))
          have C11 := hid (tick24_nil wr)
          have C13b := hid (round26_nil wr)
          have C14 := hid (works9 wr)
          clear HR hb8 hend hz
          go_wp2_with (fail)
          go_at_call 12
          refine C12a.out.mono ?_
          rintro e w7 ⟨rfl, hw7⟩
          rw [hw7]
          clear hw7 C12a
          go_wp2_with (fail)
          go_at_call 12
          refine C12b.out.mono ?_
          rintro e w7 ⟨rfl, hw7⟩
          rw [hw7]
          clear hw7 C12b
          go_wp2_with (fail)
          go_at_call 10
          refine C10a.out.mono ?_
          rintro e w7 ⟨rfl, hw7⟩
          rw [hw7]
          clear hw7 C10a
          go_wp2_with (fail)
          go_at_call 10
          refine C10b.out.mono ?_
          rintro e w7 ⟨rfl, hw7⟩
          rw [hw7]
          clear hw7 C10b
          go_wp2_with (fail)
          go_at_call 13
          refine C13.out.mono ?_
          rintro e w7 ⟨rfl, hw7⟩
          rw [hw7]
          clear hw7 C13
          go_wp2_with (fail)
          go_at_call 6
          refine C6.out.mono ?_
          rintro e w7 ⟨rfl, hw7⟩
          rw [hw7]
          clear hw7 C6
          go_wp2_with (fail)
          go_at_call 5
          refine C5.out.mono ?_
          rintro e w7 ⟨rfl, hw7⟩
          rw [hw7]
          clear hw7 C5
          go_wp2_with (fail)
          go_at_call 7
          refine C7.out.mono ?_
          rintro e w7 ⟨rfl, hw7⟩
          rw [hw7]
          clear hw7 C7
          go_wp2_with (fail)
          go_at_call 9
          refine C9a.out.mono ?_
          rintro e w7 ⟨rfl, hw7⟩
          rw [hw7]
          clear hw7 C9a
          go_wp2_with (fail)
          go_at_call 9
          refine C9b.out.mono ?_
          rintro e w7 ⟨rfl, hw7⟩
          rw [hw7]
          clear hw7 C9b
          go_wp2_with (fail)
          go_at_call 11
          refine C11.out.mono ?_
          rintro e w7 ⟨rfl, hw7⟩
          rw [hw7]
          clear hw7 C11
          go_wp2_with (fail)
          go_at_call 13
          refine C13b.out.mono ?_
          rintro e w7 ⟨rfl, hw7⟩
          rw [hw7]
          clear hw7 C13b
          go_wp2_with (go_at_call 14; refine C14.out.mono ?_; rintro e w9 ⟨rfl, b9⟩)
          go_ret
          exact ⟨rfl, HF1.out.bel.trans (b9.mono HF1.out.bel.size)⟩
end Go.Proofs.Ytcoajalgodlphab
