/- The document's Swap. -/
import Derived.Test.YtblogmelmpkfhaaDcP
import Derived.Test.YtblogmelmpkfhaaSwp
namespace Go.Proofs.Ytblogmelmpkfhaa
open Go.RowKit Go.Maps
set_option linter.unusedVariables false

theorem lr_own {base : Nat} {W : World} {g c k : Nat} {xs : List Int} (hk : xs.length = k) (ho : W.ownsRow base 48 1 (.slice (some ⟨g, 0, none⟩) k c) k (xs.map (Value.int .i32))) (hx : ∀ x ∈ xs, -2147483648 ≤ x ∧ x ≤ 2147483647) (W' : World) (hw : W'.heap[g]? = W.heap[g]?) : LR W' (some ⟨g, 0, none⟩) xs := by
  obtain ⟨_, cur, hgc⟩ := own_blk (g := g) ho rfl
  refine ⟨hx, .inr ⟨g, 0, cur, rfl, hw.trans hgc, fun j hj => ?_⟩⟩
  have := ho.cellAt j (by omega)
  rw [row_cell hgc] at this
  rw [Nat.zero_add, this, List.getElem?_map, List.getElem?_eq_getElem hj, List.getD, List.getElem?_eq_getElem hj]
  rfl
theorem Arn.swapL_map (l : List Int) (s t : Nat) : ((l.map (Value.int .i32)).set s (.int .i32 (l.getD t 0))).set t (.int .i32 (l.getD s 0)) = (Arn.swapL l s t).map (Value.int .i32) := by
  unfold Arn.swapL
  rw [List.map_set, List.map_set]
set_option maxRecDepth 100000 in
set_option maxHeartbeats 2000000 in
theorem swap32 {n db lim : Nat} {M : List Arn.It} {W : World} (hA : Dcx n db lim M W) (r p q : Int) :
    Calls Try.prog 32 #[.pointer (some ⟨db, 0, none⟩), .int .i64 r, .int .i64 p, .int .i64 q] W fun e w' => e = .returned (.int .i64 (Arn.errW (Arn.find M r) p q)) ∧ DidD n db lim W (Arn.swap M r p q) w' := by
  obtain ⟨v, E, h, rfl⟩ := hA
  have C48 := hid (find48 h r)
  have HD := hid h
  go_enter Try.func32, Try.ntmps32
  go_wp2_with (fail)
  go_at_call 48
  refine C48.out.mono ?_
  rintro e w2 ⟨hf, hw2⟩
  rw [hw2]
  clear hw2 C48
  rcases hf with ⟨rfl, hf⟩ | ⟨i, x, rfl, hx, hp, hd⟩
  · have HE := hid (show Arn.errW (Arn.find (items E) r) p q = 91 by rw [hf]; rfl)
    have HK := hid (show Arn.swap (items E) r p q = items E by unfold Arn.swap; rw [hf])
    clear hf h
    go_wp2
    go_ret
    exact ⟨by rw [HE.out]; rfl, by rw [HK.out]; exact DidD.below ⟨v, E, HD.out, rfl⟩ (Below.refl _ _)⟩
  · obtain ⟨g, c, a, cap, rfl, he, hi, hEl, hg, hok, hroom, hpz⟩ := h.hit hx
    have hat := Arn.at_take h.ok hx
    rw [hp] at hat
    have hfind : Arn.find (items E) r = some x := Arn.find_some.2 ⟨hat.1, hd⟩
    have hlb : x.lits.length ≤ 268435456 := by have := hok.fits; omega
    have x0 := h.cell he (t := 0) rfl
    have x1 := h.cell he (t := 1) rfl
    have x2 := h.cell he (t := 2) rfl
    have x3 := h.cell he (t := 3) rfl
    have x4 := h.cell he (t := 4) rfl
    have x5 := h.cell he (t := 5) rfl
    have x6 := h.cell he (t := 6) rfl
    have x7 := h.cell he (t := 7) rfl
    simp only [hd] at x7
    rw [Nat.add_zero, hp] at x0
    have hc1 := row_cell h.blk 1
    have hiE : (i : Int) < E.length := by omega
    by_cases hs : Arn.places x p q = true
    · have HE := hid (show Arn.errW (Arn.find (items E) r) p q = 0 by rw [hfind]; simp only [Arn.errW]; rw [if_pos hs])
      have HK := hid (show Arn.swap (items E) r p q = (items E).set i { x with lits := Arn.swapL x.lits p.toNat q.toNat } by unfold Arn.swap; rw [hfind]; simp only []; rw [if_pos hs]; exact hat.2 _)
      simp only [Arn.places, Bool.and_eq_true, decide_eq_true_eq] at hs
      obtain ⟨⟨hp1, hp2⟩, hp3, hp4⟩ := hs
      obtain ⟨s, rfl⟩ : ∃ s' : Nat, p = s' := ⟨p.toNat, by omega⟩
      obtain ⟨t, rfl⟩ : ∃ s' : Nat, q = s' := ⟨q.toNat, by omega⟩
      rw [Int.toNat_natCast, Int.toNat_natCast] at HK
      have hsL : s < x.lits.length := by omega
      have htL : t < x.lits.length := by omega
      have HLR := hid (h.lits (x, a, cap) (List.mem_of_getElem? he))
      obtain ⟨b, off, rfl⟩ : ∃ b off, a = some ⟨b, off, none⟩ := by
        rcases HLR.out.lits.shape with h | h
        · exact absurd h (by show ¬ x.lits.length = 0; omega)
        · exact h
      have hb := below_box W (.cells #[.int .i64 r, .int .i64 (x.room : Nat), .int .i64 x.id, .slice (some ⟨b, off, none⟩) x.lits.length cap, .bool x.red, .int .i64 x.lbd, .int .i64 x.used, .bool false] 92)
      obtain ⟨W0, hW0⟩ : ∃ W0, W.alloc (.cells #[.int .i64 r, .int .i64 (x.room : Nat), .int .i64 x.id, .slice (some ⟨b, off, none⟩) x.lits.length cap, .bool x.red, .int .i64 x.lbd, .int .i64 x.used, .bool false] 92) = W0 := ⟨_, rfl⟩
      have hbx : W0.heap[W.heap.size]? = some (.cells #[.int .i64 r, .int .i64 (x.room : Nat), .int .i64 x.id, .slice (some ⟨b, off, none⟩) x.lits.length cap, .bool x.red, .int .i64 x.lbd, .int .i64 x.used, .bool false] 92 (0, 0)) := by rw [← hW0]; exact heap_alloc_new _ _
      have hsz0 : W0.heap.size = W.heap.size + 1 := by rw [← hW0]; simp
      rw [hW0] at hb
      have HW0 := hid hW0
      obtain ⟨o', c', W1, hr1, hb1, hlr, hcap, hnew, hown⟩ := own_copy (W := W0) (cap := cap) (c := x.lits) rfl hlb (HLR.out.lits.below hb)
      obtain ⟨g1, rfl, hg1, hg1b⟩ : ∃ g1, o' = some ⟨g1, 0, none⟩ ∧ W0.heap.size ≤ g1 ∧ g1 < W1.heap.size := by
        obtain ⟨g1, c1, e1, hg1, _⟩ := hown.form (by omega)
        cases e1
        exact ⟨g1, rfl, hnew _ _ rfl⟩
      have HR1 := hid hr1
      rw [← hW0] at HR1
      have hB1 := (hb1.block _ (by omega : W.heap.size < W0.heap.size)).trans hbx
      have hb01 : Below W.heap.size W W1 := hb.trans (hb1.mono (by omega))
      obtain ⟨_, _, es, hbs, cs, _⟩ := (HLR.out.lits.below hb01).at (j := s) hsL
      cases es
      obtain ⟨_, _, et, _, ct, _⟩ := (HLR.out.lits.below hb01).at (j := t) htL
      cases et
      have hbW : b < W.heap.size := by
        obtain ⟨_, _, e3, h3, _⟩ := HLR.out.lits.at (j := s) hsL
        cases e3
        exact h3
      have hgW : g < W.heap.size := cell_lt x0
      have hdW : db < W.heap.size := lt_of_blk h.blk
      have hst := (hown.stored s (.int .i32 (x.lits.getD t 0))).1.stored t (.int .i32 (x.lits.getD s 0))
      rw [Arn.swapL_map] at hst
      have hvm : ∀ y ∈ Arn.swapL x.lits s t, y ∈ x.lits := fun y hy => by
        rcases List.mem_or_eq_of_mem_set hy with hy | rfl
        · rcases List.mem_or_eq_of_mem_set hy with hy | rfl
          · exact hy
          · exact Arn.getD_mem _ _ htL
        · exact Arn.getD_mem _ _ hsL
      have hLs : (Arn.swapL x.lits s t).length = x.lits.length := by simp [Arn.swapL]
      have hlr2 := lr_own hLs hst.1 (fun y hy => hok.lits y (hvm y hy)) ((((W1.setCell ⟨g1, s, none⟩ (.int .i32 (x.lits.getD t 0))).setCell ⟨g1, t, none⟩ (.int .i32 (x.lits.getD s 0))).setCell ⟨W.heap.size, 3, none⟩ (.slice (some ⟨g1, 0, none⟩) x.lits.length c'))) (Below.heap_setCell _ _ _ _ (by show g1 ≠ W.heap.size; omega))
      have hb2 : Below W.heap.size W (((W1.setCell ⟨g1, s, none⟩ (.int .i32 (x.lits.getD t 0))).setCell ⟨g1, t, none⟩ (.int .i32 (x.lits.getD s 0))).setCell ⟨W.heap.size, 3, none⟩ (.slice (some ⟨g1, 0, none⟩) x.lits.length c')) := ((hb01.setCell (by show W.heap.size ≤ g1; omega) _).setCell (by show W.heap.size ≤ g1; omega) _).setCell (Nat.le_refl _) _
      have hD2 := h.below hb2
      have hT := hD2.turn (e := (x, some ⟨b, off, none⟩, cap)) (e' := ({ x with lits := Arn.swapL x.lits s t }, some ⟨g1, 0, none⟩, c')) he rfl ⟨by show 4 + (Arn.swapL x.lits s t).length ≤ x.room; rw [hLs]; exact hok.fits, hok.id1, hok.id2, hok.lbd1, hok.lbd2, hok.used1, hok.used2, fun l hl => hok.lits l (hvm l hl)⟩ hlr2 (by show (Arn.swapL x.lits s t).length ≤ c' ∧ _; rw [hLs]; exact hcap) r hp.symm
      have HT1 := hid (hT.1.below (Below.refl _ _).drew)
      have HT2 := hid (hT.2.trans (Fr.of_below (Below.refl _ _).drew))
      unfold set8 at HT1 HT2
      simp only [hd, hLs] at HT1 HT2
      have HB := hid hb2
      have z3 := row_cell hB1 3
      have os := hown.cellAt s (by omega)
      have ot := hown.cellAt t (by omega)
      rw [List.getElem?_map, List.getElem?_eq_getElem hsL] at os
      rw [List.getElem?_map, List.getElem?_eq_getElem htL] at ot
      simp only [Option.map_some] at os ot
      have fs := hown.frozenAt s
      have ft := hown.frozenAt t
      have hB2 : ((W1.setCell ⟨g1, s, none⟩ (.int .i32 (x.lits.getD t 0))).setCell ⟨g1, t, none⟩ (.int .i32 (x.lits.getD s 0))).heap[W.heap.size]? = _ := ((Below.heap_setCell _ _ _ _ (by show W.heap.size ≠ g1; omega)).trans (Below.heap_setCell _ _ _ _ (by show W.heap.size ≠ g1; omega))).trans hB1
      have zf := row_frozen hB2 3
      have hB3 := heap_set_row (k := 3) hB2 (.slice (some ⟨g1, 0, none⟩) x.lits.length c')
      obtain ⟨WC, hWC⟩ : ∃ WC, (((W1.setCell ⟨g1, s, none⟩ (.int .i32 (x.lits.getD t 0))).setCell ⟨g1, t, none⟩ (.int .i32 (x.lits.getD s 0))).setCell ⟨W.heap.size, 3, none⟩ (.slice (some ⟨g1, 0, none⟩) x.lits.length c')) = WC := ⟨_, rfl⟩
      rw [hWC] at hb2 HB HT1 HT2 hB3
      have HWC := hid hWC
      have z0 : WC.cell? ⟨W.heap.size, 0, none⟩ = _ := row_cell hB3 0
      have z1 : WC.cell? ⟨W.heap.size, 1, none⟩ = _ := row_cell hB3 1
      have z2 : WC.cell? ⟨W.heap.size, 2, none⟩ = _ := row_cell hB3 2
      have z3' : WC.cell? ⟨W.heap.size, 3, none⟩ = some (.slice (some ⟨g1, 0, none⟩) x.lits.length c') := row_cell hB3 3
      have z4 : WC.cell? ⟨W.heap.size, 4, none⟩ = _ := row_cell hB3 4
      have z5 : WC.cell? ⟨W.heap.size, 5, none⟩ = _ := row_cell hB3 5
      have z6 : WC.cell? ⟨W.heap.size, 6, none⟩ = _ := row_cell hB3 6
      have z7 : WC.cell? ⟨W.heap.size, 7, none⟩ = _ := row_cell hB3 7
      have hfz : ∀ t, WC.frozen? ⟨g, t, none⟩ = false := fun t => (h.below hb2).own.frozenAt t
      have hd1 := row_cell (h.below hb2).blk 1
      have y0 := (hb2.cell (p := ⟨g, i * 8, none⟩) hgW).trans x0
      have y1 := (hb2.cell (p := ⟨g, i * 8 + 1, none⟩) hgW).trans x1
      have y2 := (hb2.cell (p := ⟨g, i * 8 + 2, none⟩) hgW).trans x2
      have y3 := (hb2.cell (p := ⟨g, i * 8 + 3, none⟩) hgW).trans x3
      have y4 := (hb2.cell (p := ⟨g, i * 8 + 4, none⟩) hgW).trans x4
      have y5 := (hb2.cell (p := ⟨g, i * 8 + 5, none⟩) hgW).trans x5
      have y6 := (hb2.cell (p := ⟨g, i * 8 + 6, none⟩) hgW).trans x6
      have y7 := (hb2.cell (p := ⟨g, i * 8 + 7, none⟩) hgW).trans x7
      have n2 : ¬ W.heap.size = g1 := by omega
      have n1 : ¬ g1 = W.heap.size := by omega
      have n3 : ¬ b = g1 := by omega
      have n4 : ¬ g1 = b := by omega
      have n7 : ¬ g = W.heap.size := by omega
      have n8 : ¬ W.heap.size = g := by omega
      generalize x.lits.getD s 0 = u1 at *
      generalize x.lits.getD t 0 = u2 at *
      clear hfind hat hW0 hT hD2 hb2 hlr2 hst hvm hr1 hown hlr hcap hnew hWC h HD hB1 hB2 hB3 hb hb1 hb01 hbx
      by_cases hst : s = t
      · subst hst
        obtain rfl : u1 = u2 := by rw [cs] at ct; cases ct; rfl
        go_wp2_with (at_builtin; refine wpList_append_run rfl (.tmp 44) (.tmp 46) 30 30 rfl rfl rfl HR1.out ?_)
        rw [HWC.out]
        clear x0 x1 x2 x3 x4 x5 x6 x7 hc1 HR1 z3 cs ct fs ft zf
        go_region
        all_goals
          go_wp2
          go_ret
          exact ⟨by rw [HE.out]; rfl, by rw [HK.out]; exact ⟨⟨_, _, HT1.out, by rw [items_set]; simp only [hd]⟩, (Fr.of_below HB.out).trans HT2.out⟩⟩
      · have hst2 : ¬ t = s := fun e => hst e.symm
        go_wp2_with (at_builtin; refine wpList_append_run rfl (.tmp 44) (.tmp 46) 30 30 rfl rfl rfl HR1.out ?_)
        rw [HWC.out]
        clear x0 x1 x2 x3 x4 x5 x6 x7 hc1 HR1 z3 cs ct fs ft zf
        go_region
        all_goals
          go_wp2
          go_ret
          exact ⟨by rw [HE.out]; rfl, by rw [HK.out]; exact ⟨⟨_, _, HT1.out, by rw [items_set]; simp only [hd]⟩, (Fr.of_below HB.out).trans HT2.out⟩⟩
    · have HE := hid (show Arn.errW (Arn.find (items E) r) p q = 2 by rw [hfind]; simp only [Arn.errW]; rw [if_neg hs])
      have HK := hid (show Arn.swap (items E) r p q = items E by unfold Arn.swap; rw [hfind]; simp only []; rw [if_neg hs])
      have HBX := hid (fun o => below_box W o)
      clear hfind hat h
      by_cases h1 : p < 0
      · go_wp2
        go_ret
        exact ⟨by rw [HE.out]; rfl, by rw [HK.out]; exact DidD.below ⟨_, E, HD.out, rfl⟩ (HBX.out _)⟩
      · by_cases h2 : q < 0
        · go_wp2
          go_ret
          exact ⟨by rw [HE.out]; rfl, by rw [HK.out]; exact DidD.below ⟨_, E, HD.out, rfl⟩ (HBX.out _)⟩
        · by_cases h3 : p < (x.lits.length : Int)
          · have h4 : ¬ q < (x.lits.length : Int) := fun h4 => hs (by simp only [Arn.places, Bool.and_eq_true, decide_eq_true_eq]; exact ⟨⟨by omega, h3⟩, by omega, h4⟩)
            go_wp2
            go_ret
            exact ⟨by rw [HE.out]; rfl, by rw [HK.out]; exact DidD.below ⟨_, E, HD.out, rfl⟩ (HBX.out _)⟩
          · go_wp2
            go_ret
            exact ⟨by rw [HE.out]; rfl, by rw [HK.out]; exact DidD.below ⟨_, E, HD.out, rfl⟩ (HBX.out _)⟩
end Go.Proofs.Ytblogmelmpkfhaa
