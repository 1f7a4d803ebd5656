/- The table made of a formula. -/
import Derived.Test.YthpebfojkpnojaaGreatJaw
import Derived.Deep.RegionLaw
/- The table made of a formula. -/
namespace Tru
theorem masks_take (cs : List (List Int)) (k : Nat) (h : k < cs.length) : masks (cs.take (k + 1)) = masks (cs.take k) ++ (if always (mask (cs.getD k [])) then [] else [mask (cs.getD k [])]) := by
  unfold masks
  rw [show cs.take (k + 1) = cs.take k ++ [cs.getD k []] by rw [List.take_add_one]; simp [List.getD, List.getElem?_eq_getElem h], List.map_append, List.filter_append]
  congr 1
  generalize cs.getD k [] = c
  cases hh : always (mask c) <;> simp [hh]
theorem masks_len (cs : List (List Int)) : (masks cs).length ≤ cs.length := by
  unfold masks
  exact Nat.le_trans (List.length_filter_le _ _) (by simp)
end Tru
namespace Go.Proofs.YthpebfojkpnojaaGreat.Tr
open Go.RowKit Go.Lib Go.Sort Go.Shelf
set_option linter.unusedVariables false

theorem info56 : (Tryz.prog.info? 122).map (fun i => (i.zero, i.size, i.bytes)) = some (some (.agg #[.int .u32 0, .int .u32 0]), 2, 8) := by kernel_rfl
theorem flatM_on (ms : List (Nat × Nat)) (p : Nat × Nat) : flatM (ms ++ [p]) = flatM ms ++ [.int .u32 p.1, .int .u32 p.2] := by simp [flatM, encM]

theorem own_below {w w' : World} {B e size n : Nat} {v : Value} {xs : List Value} (h : w.ownsRow B e size v n xs) (hb : Below w.heap.size w w') : w'.ownsRow B e size v n xs := by
  refine ⟨h.1, ?_⟩
  rcases h.2 with h0 | ⟨g, cap, cur, e1, h1, h2, h3⟩
  · exact .inl h0
  · exact .inr ⟨g, cap, cur, e1, h1, (hb.block g (Array.getElem?_eq_some_iff.1 h2).1).trans h2, h3⟩
theorem box_c0 (w : World) (x y : Value) : (w.alloc (.cells #[x, y] 122)).cell? ⟨w.heap.size, 0, none⟩ = some x := by rw [row_cell (World.alloc_heap_new w _) 0]; rfl
theorem box_c1 (w : World) (x y : Value) : (w.alloc (.cells #[x, y] 122)).cell? ⟨w.heap.size, 1, none⟩ = some y := by rw [row_cell (World.alloc_heap_new w _) 1]; rfl

theorem frozen_block {W W' : World} {g k : Nat} (h : W'.heap[g]? = W.heap[g]?) : W'.frozen? ⟨g, k, none⟩ = W.frozen? ⟨g, k, none⟩ := by
  simp [World.frozen?, h]

/-- A table, made and not yet asked. -/
def MadeOut (cs : List (List Int)) (w : World) (e : Ending) (w' : World) : Prop := ∃ (g T cap : Nat) (ms : List (Nat × Nat)), e = .returned (.pointer (some ⟨T, 0, none⟩)) ∧ w'.heap[T]? = some (.cells #[.slice (some ⟨g, 0, none⟩) ms.length cap, .slice none 0 0, .int .i64 (-1)] 154 (0, 0)) ∧ w.heap.size ≤ g ∧ g < T ∧ HoldsK encM 2 w' g 0 ms.toArray ∧ (∀ p, p ∈ ms ↔ p ∈ Tru.masks cs) ∧ ms.length ≤ cs.length ∧ Below w.heap.size w w'

set_option maxRecDepth 100000 in
set_option maxHeartbeats 8000000 in
theorem made21 (u : Nat) (a : Option Addr) (n cap : Nat) (cs : List (List Int)) (w : World) (hn : cs.length = n) (hN : n ≤ 1048576) (hu : u ≤ 16) (hL : cs.flatten.length ≤ 16777216) (hc : Cls w a cs) (hv : ∀ c ∈ cs, ∀ l ∈ c, 1 ≤ Cnt.vr l ∧ Cnt.vr l ≤ u) :
    Calls Tryz.prog 74 #[.agg #[.int .i64 u, .slice a n cap]] w fun e w' => MadeOut cs w e w' := by
  obtain ⟨i0, hi, hz⟩ := Option.map_eq_some_iff.1 info56
  simp only [Prod.mk.injEq] at hz
  obtain ⟨hz0, hz1, hz2⟩ := hz
  have HL := hid (clause_bnd (w := w) (a := a) hL)
  have HC := hid hc
  have HN := hid hn
  have HV := hid (fun c hc l hl => And.intro (hv c hc l hl).1 (Int.le_trans (hv c hc l hl).2 (by omega : (u : Int) ≤ 16)))
  obtain ⟨W2, hmk, hown, hgr⟩ := run_make_own (P := Tryz.prog) (w.alloc (.cells #[.int .i64 u, .slice a n cap] 24)) w.heap.size 147 122 i0 (.agg #[.int .u32 0, .int .u32 0]) 2 Tryz.underlying147 hi hz0 hz1 .i64 .i64 n (by rw [hz2]; omega) (by simp [maxLen]; omega) (by simp)
  have HB2 := hid (show Below w.heap.size w W2 from (below_box _ _).grown hgr (by simp) (fun q hq => by cases hq))
  have HO2 := hid hown
  have hcell : (w.alloc (.cells #[.int .i64 u, .slice a n cap] 24)).heap.size = w.heap.size + 1 := by simp
  have x1 : W2.cell? ⟨w.heap.size, 1, none⟩ = some (.slice a n cap) := by
    rw [hgr.cell_far ⟨w.heap.size, 1, none⟩ (by simp) (by simp), row_cell (World.alloc_heap_new w _) 1]; rfl
  rw [hcell] at hmk HO2
  have HI := hid hi
  have HZ0 := hid hz0
  have HZ1 := hid hz1
  have HZ2 := hid hz2
  clear hc hn hv hL hown hgr hcell hi hz0 hz1 hz2
  go_enter Tryz.func74, Tryz.ntmps74
  go_wp2
  clear x1 hmk
  go_loopw [3, 14] (fun m i wr => ∃ (j g L capm : Nat), j ≤ n ∧ L ≤ j ∧ i = .int .i64 j ∧ m = .slice (some ⟨g, 0, none⟩) L capm ∧ Hid ((Tru.masks (cs.take j)).length = L) ∧ Hid (wr.ownsRow w.heap.size 122 2 (.slice (some ⟨g, 0, none⟩) L capm) L (flatM (Tru.masks (cs.take j)))) ∧ Hid (Below w.heap.size w wr)) (fun _ i _ => n - (intOf i).toNat)
  case atStart => exact ⟨0, _, 0, n, Nat.zero_le _, Nat.le_refl _, rfl, rfl, hid rfl, HO2, HB2⟩
  case round =>
    clear HO2 HB2
    obtain ⟨j, g, L, capm, hj, hLj, rfl, rfl, HLen, HO, HB⟩ := hrel
    by_cases hlt : j < n
    · have hlt' : (j : Int) < n := by omega
      obtain ⟨b, off, a', cap', rfl, hbl, hcell, hL, hln⟩ := HC.out.at (k := j) (by rw [HN.out]; exact hlt)
      have hcl := (HB.out.cell (p := ⟨b, off + j, none⟩) (World.block_lt_of_cell? w _ hcell)).trans hcell
      have hmem := Cnt.getD_cls cs j (by rw [HN.out]; exact hlt)
      have HT := hid (Tru.masks_take cs j (by rw [HN.out]; exact hlt))
      have C28 := hid (turned28 a' (cs.getD j []).length cap' (cs.getD j []) wr rfl (HL.out _ hmem) (hL.below HB.out) (HV.out _ hmem))
      have HSM := hid (Tru.mask_small (cs.getD j []) (HV.out _ hmem))
      clear hL hcell hmem
      generalize Tru.mask (cs.getD j []) = p at C28 HT HSM
      generalize (cs.getD j []).length = ln at hcl hln C28
      obtain ⟨p, q⟩ := p
      have hs := HB.out.size
      have C36 := hid (fun (W : World) => always36 p q W HSM.out.1 HSM.out.2)
      generalize hal : Tru.always (p, q) = r at C36
      cases r
      · have HT2 := hid (show Tru.masks (cs.take (j + 1)) = Tru.masks (cs.take j) ++ [(p, q)] by rw [HT.out, hal]; rfl)
        clear HT hal
        go_wp2_with (first
          | (go_at_call 72; refine C28.out.mono ?_; clear C28; rintro e w8 ⟨rfl, hw8⟩; have HW8 := hid hw8; clear hw8)
          | (go_at_call 102; refine (C36.out _).mono ?_; clear C36; rintro e w9 ⟨rfl, hw9⟩
             have y0 := (hw9.cell (p := ⟨w8.heap.size, 0, none⟩) (by simp)).trans (box_c0 w8 _ _)
             have y1 := (hw9.cell (p := ⟨w8.heap.size, 1, none⟩) (by simp)).trans (box_c1 w8 _ _)
             have h9 := HW8.out.trans ((box_below w8 _ hw9).mono HW8.out.size)
             have HO9 := hid (own_below HO.out h9)
             have h9s := h9.size
             have H9 := hid h9
             clear hw9 h9 HW8 HO)
          | (at_builtin; refine wpList_append_lies _ rfl _ _ 147 rfl w.heap.size 122 i0 (.agg #[.int .u32 0, .int .u32 0]) 2 8 Tryz.underlying147 HI.out HZ0.out HZ1.out HZ2.out rfl (by decide) (.slice (some ⟨g, 0, none⟩) L capm) L _ rfl (HO9.out.alloc _) ⟨w9.heap.size, 0, none⟩ 1 1 [.int .u32 p, .int .u32 q] rfl rfl (World.news_of_block (World.alloc_heap_new w9 (.cells #[.int .u32 p, .int .u32 q] 122))) (by intro u hu; simp at hu; rcases hu with rfl | rfl <;> rfl) (by decide) (by simp [maxLen]; omega) (by omega) (by simp; omega) (w9.heap.size + 1) (by simp) ?_))
        intro g8 cap8 wa hown8 hgrow8 hat8 hlt8
        have B8 : Below w.heap.size w9 wa := ((Below.refl _ w9).alloc (by omega) _).grown hgrow8 (by simp; omega) (fun q hq => (HO9.out.lt q hq).1)
        have HB8 := hid ((HB.out.trans (H9.out.mono hs)).trans B8)
        have HR8 := hid (show wa.ownsRow w.heap.size 122 2 (.slice (some ⟨g8, 0, none⟩) (L + 1) cap8) (L + 1) (flatM (Tru.masks (cs.take (j + 1)))) by rw [HT2.out, flatM_on]; exact hown8)
        have HL8 := hid (show (Tru.masks (cs.take (j + 1))).length = L + 1 by rw [HT2.out, List.length_append, HLen.out]; rfl)
        clear B8 hown8 hgrow8 hat8 hlt8 HO9 HB H9
        go_wp2
        go_roundw
        case rel => exact ⟨j + 1, g8, L + 1, cap8, by omega, by omega, by go_num, rfl, HL8, HR8, HB8⟩
        case measure => simp [intOf]; omega
      · have HT2 := hid (show Tru.masks (cs.take (j + 1)) = Tru.masks (cs.take j) by rw [HT.out, hal]; simp)
        clear HT hal
        go_wp2_with (first
          | (go_at_call 72; refine C28.out.mono ?_; clear C28; rintro e w8 ⟨rfl, hw8⟩; have HW8 := hid hw8; clear hw8)
          | (go_at_call 102; refine (C36.out _).mono ?_; clear C36; rintro e w9 ⟨rfl, hw9⟩
             have h9 := HW8.out.trans ((box_below w8 _ hw9).mono HW8.out.size)
             have HO9 := hid (own_below HO.out h9)
             have H9 := hid h9
             clear hw9 h9 HW8 HO))
        go_roundw
        case rel => exact ⟨j + 1, g, L, capm, by omega, by omega, by go_num, rfl, hid (by rw [HT2.out]; exact HLen.out), hid (by rw [HT2.out]; exact HO9.out), hid (HB.out.trans (H9.out.mono hs))⟩
        case measure => simp [intOf]; omega
    · have hge : ¬ (j : Int) < n := by omega
      obtain rfl : j = n := by omega
      have hs := HB.out.size
      have HE := hid (show cs.take j = cs from List.take_of_length_le (by rw [HN.out]; exact Nat.le_refl _))
      have hbc := own_masks HLen.out HO.out
      have C37 := hid (sortM w.heap.size g capm L (Tru.masks (cs.take j)) wr HLen.out (by omega) hs HO.out)
      have HG := hid hbc
      clear hbc
      go_wp2_with (first
        | (go_at_call 103; refine C37.out.mono ?_; clear C37; rintro e w8 ⟨rfl, hw8⟩
           have C41 := hid (onceM w.heap.size g capm L (Tru.masks (cs.take j)) wr w8 HLen.out (by omega) HG.out.2.2.2 HG.out.2.2.1 hw8)
           clear hw8)
        | (go_at_call 107; refine C41.out.mono ?_; clear C41; rintro e w9 ⟨ns, rfl, hx⟩
           have HX := hid hx
           clear hx))
      go_ret
      obtain ⟨k1, k2, k3, k4, k5⟩ := HX.out
      rw [HE.out] at k1 k2
      refine ⟨g, w9.heap.size, capm, ns, rfl, World.alloc_heap_new w9 _, HG.out.2.2.1, k4, ?_, k1, Nat.le_trans k2 (Tru.masks_len cs), ?_⟩
      · intro t ht
        have := k3 t ht
        have hbb := below_box w9 (.cells #[.slice (some ⟨g, 0, none⟩) ns.length capm, .slice none 0 0, .int .i64 (-1)] 154)
        refine ⟨(hbb.cell (p := ⟨g, 0 + t, none⟩) k4).trans this.1, ?_⟩
        exact (frozen_block (hbb.block g k4)).trans this.2
      · exact (HB.out.trans k5).trans ((below_box w9 _).mono (Nat.le_trans hs k5.size))
end Go.Proofs.YthpebfojkpnojaaGreat.Tr

/- The table goes to another block: what is open there is set aside. -/
namespace Tru
theorem open_take (ms : List (Nat × Nat)) (b k : Nat) (h : k < ms.length) : openAt (ms.take (k + 1)) b = openAt (ms.take k) b ++ (if mh (high ms.toArray[k]!) (b * 256) then [] else [ms.toArray[k]!]) := by
  unfold openAt
  rw [show ms.take (k + 1) = ms.take k ++ [ms.toArray[k]!] by rw [List.take_add_one]; simp [h], List.filter_append]
  congr 1
  generalize ms.toArray[k]! = p
  cases hh : mh (high p) (b * 256) <;> simp [hh]
theorem open_len (ms : List (Nat × Nat)) (b : Nat) : (openAt ms b).length ≤ ms.length := List.length_filter_le _ _
end Tru
namespace Go.Proofs.YthpebfojkpnojaaGreat.Tr
open Go.RowKit Go.Lib Go.Sort Go.Shelf
set_option linter.unusedVariables false
set_option linter.unusedSimpArgs false

theorem own_cut {W : World} {base : Nat} {o : Option Addr} {n cap : Nat} {xs : List Value} (h : W.ownsRow base 122 2 (.slice o n cap) n xs) : W.ownsRow base 122 2 (.slice o 0 cap) 0 [] := by
  refine ⟨rfl, ?_⟩
  rcases h.2 with ⟨e, h0⟩ | ⟨g, cap', cur, e, h1, h2, h3, h4, h5, h6⟩
  · injection e with e1 e2 e3; subst e1 e3; exact .inl ⟨rfl, rfl⟩
  · injection e with e1 e2 e3; subst e1 e3; exact .inr ⟨g, cap, cur, rfl, h1, h2, by omega, h4, h5, by simp⟩
theorem own_other {W : World} {base b k : Nat} {v : Value} {n : Nat} {xs : List Value} (h : W.ownsRow base 122 2 v n xs) (hb : b < base) (u : Value) : (W.setCell ⟨b, k, none⟩ u).ownsRow base 122 2 v n xs := by
  refine ⟨h.1, ?_⟩
  rcases h.2 with h0 | ⟨g, cap', cur, e, h1, h2, h3⟩
  · exact .inl h0
  · exact .inr ⟨g, cap', cur, e, h1, (heap_other W u (by omega)).trans h2, h3⟩
/-- A table at block T: all its masks, what is open in the block bb (none yet: -1). -/
def Tab (T g cap : Nat) (ms : List (Nat × Nat)) (bb : Int) (W : World) : Prop := ∃ (o : Option Addr) (no cap2 : Nat) (os : List (Nat × Nat)), W.heap[T]? = some (.cells #[.slice (some ⟨g, 0, none⟩) ms.length cap, .slice o no cap2, .int .i64 bb] 154 (0, 0)) ∧ g < T ∧ HoldsK encM 2 W g 0 ms.toArray ∧ os.length = no ∧ no ≤ ms.length ∧ W.ownsRow (T + 1) 122 2 (.slice o no cap2) no (flatM os) ∧ (0 ≤ bb → os = Tru.openAt ms bb.toNat)
theorem HoldsK.under {T g : Nat} {W W' : World} {d : Array (Nat × Nat)} (h : HoldsK encM 2 W g 0 d) (hb : Below T W W') (hg : g < T) : HoldsK encM 2 W' g 0 d := by
  intro t ht
  have := h t ht
  have hk := hb.block g hg
  exact ⟨by rw [← this.1]; simp [World.cell?, hk], by rw [← this.2]; exact frozen_block hk⟩

set_option maxRecDepth 100000 in
set_option maxHeartbeats 8000000 in
theorem enter42 (T g cap b : Nat) (ms : List (Nat × Nat)) (bb : Int) (w : World) (hb : b < 256) (hN : ms.length ≤ 1048576) (hsm : ∀ p ∈ ms, Tru.small p) (h : Tab T g cap ms bb w) :
    Calls Tryz.prog 108 #[.pointer (some ⟨T, 0, none⟩), .int .i64 b] w fun e w' => e = .returned (.tuple #[]) ∧ Tab T g cap ms b w' ∧ Below T w w' := by
  obtain ⟨o, no, cap2, os, hT, hg, hH, hos, hno, hown, hop⟩ := h
  clear hop
  obtain ⟨i0, hi, hz⟩ := Option.map_eq_some_iff.1 info56
  simp only [Prod.mk.injEq] at hz
  obtain ⟨hz0, hz1, hz2⟩ := hz
  have mixed : Tryz.prog.follows .mixedOrders = true := by kernel_rfl
  have h0 := row_cell hT 0
  have h1 := row_cell hT 1
  have h2 := row_cell hT 2
  simp only [List.getElem?_toArray, List.getElem?_cons_zero, List.getElem?_cons_succ] at h0 h1 h2
  have f0 := row_frozen hT 0
  have f1 := row_frozen hT 1
  have f2 := row_frozen hT 2
  obtain ⟨W1, hW1⟩ : ∃ W1, ((w.setCell ⟨T, 2, none⟩ (.int .i64 b)).setCell ⟨T, 1, none⟩ (.slice o 0 cap2)).drew = W1 := ⟨_, rfl⟩
  have hT1 : W1.heap[T]? = some (.cells #[.slice (some ⟨g, 0, none⟩) ms.length cap, .slice o 0 cap2, .int .i64 b] 154 (0, 0)) := by
    rw [← hW1]; exact heap_set_row (heap_set_row hT (.int .i64 b)) (.slice o 0 cap2)
  have hO1 : W1.ownsRow (T + 1) 122 2 (.slice o 0 cap2) 0 (flatM (Tru.openAt (ms.take 0) b)) := by
    rw [← hW1]; exact own_cut (own_other (own_other hown (by omega) _) (by omega) _)
  have hB1 : Below T w W1 := by
    rw [← hW1]; exact (((Below.refl T w).setCell (p := ⟨T, 2, none⟩) (Nat.le_refl _) _).setCell (p := ⟨T, 1, none⟩) (Nat.le_refl _) _).drew
  have hTs := (Array.getElem?_eq_some_iff.1 hT).1
  have HT1 := hid hT1
  have HO1 := hid hO1
  have HB1 := hid hB1
  have x0 := row_cell hT1 0
  simp only [List.getElem?_toArray, List.getElem?_cons_zero, List.getElem?_cons_succ] at x0
  have HH := hid hH
  have HSM := hid hsm
  have HI := hid hi
  have HZ0 := hid hz0
  have HZ1 := hid hz1
  have HZ2 := hid hz2
  obtain ⟨n, hn⟩ : ∃ n, ms.length = n := ⟨_, rfl⟩
  rw [hn] at h0 x0 hN hno
  have HNN := hid hn
  clear hT hH hos hown hT1 hO1 hB1 hsm hi hz0 hz1 hz2 hn
  go_enter Tryz.func108, Tryz.ntmps108
  go_wp2_with fail
  go_region_o
  clear h0 h1 h2 f0 f1 f2 hW1
  go_wp2
  clear x0
  go_loopw [23] (fun i wr => ∃ (j : Nat) (o' : Option Addr) (no' cap' : Nat), j ≤ n ∧ no' ≤ j ∧ i = .int .i64 j ∧ Hid ((Tru.openAt (ms.take j) b).length = no') ∧ Hid (wr.heap[T]? = some (.cells #[.slice (some ⟨g, 0, none⟩) n cap, .slice o' no' cap', .int .i64 b] 154 (0, 0))) ∧ Hid (wr.ownsRow (T + 1) 122 2 (.slice o' no' cap') no' (flatM (Tru.openAt (ms.take j) b))) ∧ Hid (Below T w wr)) (fun i _ => n - (intOf i).toNat)
  case atStart => exact ⟨0, o, 0, cap2, Nat.zero_le _, Nat.le_refl _, rfl, hid rfl, hid (by rw [← HNN.out]; exact HT1.out), HO1, HB1⟩
  case round =>
    clear HT1 HO1 HB1
    obtain ⟨j, o', no', cap', hj, hnj, rfl, HLen, HT, HO, HB⟩ := hrel
    by_cases hlt : j < n
    · have hlt' : (j : Int) < n := by omega
      have hHj := HoldsK.under HH.out HB.out hg
      obtain ⟨a0, a1, _, _⟩ := rowM hHj j (by simp; rw [HNN.out]; exact hlt)
      have hsp : Tru.small ms.toArray[j]! := by
        have hl : j < ms.length := by rw [HNN.out]; exact hlt
        rw [getElem!_pos ms.toArray j (by simpa using hl)]
        exact HSM.out _ (by simp)
      have HTk := hid (Tru.open_take ms b j (by rw [HNN.out]; exact hlt))
      generalize ms.toArray[j]! = p at a0 a1 hsp HTk
      obtain ⟨p, q⟩ := p
      simp only [Nat.zero_add] at a0 a1
      clear hHj
      have C48 := hid (fun (W : World) => high48 p q W hsp.1 hsp.2)
      have hhs := Tru.high_small (p, q) hsp
      have C29 := hid (fun (W : World) => mholds29 (Tru.high (p, q)).1 (Tru.high (p, q)).2 (b * 256) W hhs.1 hhs.2 (by omega))
      generalize hal : Tru.mh ((Tru.high (p, q)).1, (Tru.high (p, q)).2) (b * 256) = r at C29
      have HTk2 := hid (show Tru.openAt (ms.take (j + 1)) b = Tru.openAt (ms.take j) b ++ (if r then [] else [(p, q)]) by rw [HTk.out, ← hal])
      clear HTk hal hhs
      generalize (Tru.high (p, q)).1 = P at C48 C29
      generalize (Tru.high (p, q)).2 = Q at C48 C29
      have hbs : (((b * 256 : Nat)) : Int) = (b : Int) * 256 := by omega
      rw [hbs] at C29
      have hTr := (Array.getElem?_eq_some_iff.1 HT.out).1
      cases r
      · have HT2 := hid (show Tru.openAt (ms.take (j + 1)) b = Tru.openAt (ms.take j) b ++ [(p, q)] from HTk2.out)
        clear HTk2
        go_wp2_with (first
          | (go_at_call 118; refine (C48.out _).mono ?_; clear C48; rintro e w8 ⟨rfl, hw8⟩; have HW8 := hid hw8; clear hw8)
          | (go_at_call 76; refine (C29.out _).mono ?_; clear C29; rintro e w9 ⟨rfl, hw9⟩; have HW9 := hid hw9; clear hw9))
        have hwz := HW8.out.trans (HW9.out.mono HW8.out.size)
        have y0 := (hwz.cell (p := ⟨wr.heap.size, 0, none⟩) (by simp)).trans (box_c0 wr _ _)
        have y1 := (hwz.cell (p := ⟨wr.heap.size, 1, none⟩) (by simp)).trans (box_c1 wr _ _)
        have h9 := box_below wr _ hwz
        have hT9 := (h9.block T hTr).trans HT.out
        have t1 := row_cell hT9 1
        simp only [List.getElem?_toArray, List.getElem?_cons_zero, List.getElem?_cons_succ] at t1
        have tf := row_frozen hT9 1
        have t2 := ((below_box w9 (.cells #[.int .u32 p, .int .u32 q] 122)).cell (p := ⟨T, 1, none⟩) (Array.getElem?_eq_some_iff.1 hT9).1).trans t1
        have HO9 := hid (own_below HO.out h9)
        have h9s := h9.size
        have H9 := hid h9
        have HT9 := hid hT9
        have D5 := hid (show ∀ (wa : World), (w9.drew.alloc (.cells #[.int .u32 p, .int .u32 q] 122)).grownBy wa (Value.slice o' no' cap').ownBlock → Below (T + 1) w9 wa from fun wa hg => ((Below.refl _ w9).alloc (by omega) _).grown (w := w9.alloc (.cells #[.int .u32 p, .int .u32 q] 122)) ⟨hg.os, hg.tape, hg.output, hg.size, hg.block⟩ (by simp; omega) (fun k hk => (HO9.out.lt k hk).1))
        clear hwz h9 hT9 HW8 HW9 HO HT
        go_region_law (
          (refine step_append_lies _ (by rfl) _ _ 147 (by rfl) (T + 1) 122 i0 (.agg #[.int .u32 0, .int .u32 0]) 2 8 Tryz.underlying147 HI.out HZ0.out HZ1.out HZ2.out (by rfl) (by decide) (.slice o' no' cap') no' (flatM (Tru.openAt (ms.take j) b)) (by rfl) (World.ownsRow.alloc (w := w9.drew) ⟨HO9.out.1, HO9.out.2⟩ _) ⟨w9.heap.size, 0, none⟩ 1 1 [.int .u32 p, .int .u32 q] (by rfl) (by rfl) (World.news_of_block (World.alloc_heap_new w9.drew (.cells #[.int .u32 p, .int .u32 q] 122))) (by intro u hu; simp at hu; rcases hu with rfl | rfl <;> rfl) (by decide) (by simp [maxLen]; omega) (by omega) (by simp; omega) (w9.heap.size + 1) (by simp) ?_
           intro g8 cap8 wa hown8 hgrow8 hat8 hlt8
           have B8 := D5.out wa hgrow8
           have z1 := (B8.cell (p := ⟨T, 1, none⟩) (by simp)).trans t1
           have zf := (frozen_block (k := 1) (B8.block T (by omega))).trans tf
           have HB8 := hid B8
           have HR8 := hid hown8
           clear B8 hown8 hgrow8 hat8 hlt8))
        all_goals
          have HT8 := hid (heap_set_row ((HB8.out.block T (by omega)).trans HT9.out) (k := 1) (.slice (some ⟨g8, 0, none⟩) (no' + 1) cap8))
          have HO8 := hid (own_other (b := T) (k := 1) (show wa.ownsRow (T + 1) 122 2 (.slice (some ⟨g8, 0, none⟩) (no' + 1) cap8) (no' + 1) (flatM (Tru.openAt (ms.take (j + 1)) b)) by rw [HT2.out, flatM_on]; exact HR8.out) (by omega) (.slice (some ⟨g8, 0, none⟩) (no' + 1) cap8))
          have HBB := hid (((HB.out.trans (H9.out.mono (by omega))).trans (HB8.out.mono (by omega))).setCell (p := ⟨T, 1, none⟩) (Nat.le_refl _) (.slice (some ⟨g8, 0, none⟩) (no' + 1) cap8))
          have HL8 := hid (show (Tru.openAt (ms.take (j + 1)) b).length = no' + 1 by rw [HT2.out, List.length_append, HLen.out]; rfl)
          clear z1 zf t1 t2 tf HR8 HB8 H9 HB HO9 HT9 y0 y1 D5
          go_wp2
          go_roundw
          case rel => exact ⟨j + 1, _, no' + 1, cap8, by omega, by omega, by go_num, HL8, HT8, HO8, HBB⟩
          case measure => simp [intOf]; omega
      · have HT2 := hid (show Tru.openAt (ms.take (j + 1)) b = Tru.openAt (ms.take j) b by rw [HTk2.out]; simp)
        clear HTk2
        go_wp2_with (first
          | (go_at_call 118; refine (C48.out _).mono ?_; clear C48; rintro e w8 ⟨rfl, hw8⟩; have HW8 := hid hw8; clear hw8)
          | (go_at_call 76; refine (C29.out _).mono ?_; clear C29; rintro e w9 ⟨rfl, hw9⟩; have HW9 := hid hw9; clear hw9))
        have H9 := hid (box_below wr _ (HW8.out.trans (HW9.out.mono HW8.out.size)))
        go_roundw
        case rel => exact ⟨j + 1, o', no', cap', by omega, by omega, by go_num, hid (by rw [HT2.out]; exact HLen.out), hid ((H9.out.block T hTr).trans HT.out), hid (by rw [HT2.out]; exact own_below HO.out H9.out), hid (HB.out.trans (H9.out.mono (by omega)))⟩
        case measure => simp [intOf]; omega
    · have hge : ¬ (j : Int) < n := by omega
      obtain rfl : j = n := by omega
      have HE := hid (show ms.take j = ms from List.take_of_length_le (by rw [HNN.out]; exact Nat.le_refl _))
      go_wp2
      go_end0
      refine ⟨rfl, ⟨o', no', cap', Tru.openAt (ms.take j) b, by rw [HNN.out]; exact HT.out, hg, HoldsK.under HH.out HB.out hg, HLen.out, by rw [HNN.out]; exact hnj, HO.out, fun _ => by rw [HE.out]; rfl⟩, HB.out⟩
end Go.Proofs.YthpebfojkpnojaaGreat.Tr

