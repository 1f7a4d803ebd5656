/- The table made of a formula. -/
import Derived.Test.YtccncojidkdddaaSorted
namespace Tru
theorem masks_take (cs : List (List Int)) (k : Nat) (h : k < cs.length) : masks (cs.take (k + 1)) = masks (cs.take k) ++ (if always (mask (cs.getD k [])) then [] else [mask (cs.getD k [])]) := by
  unfold masks
  rw [show cs.take (k + 1) = cs.take k ++ [cs.getD k []] by rw [List.take_add_one]; simp [List.getD, List.getElem?_eq_getElem h], List.map_append, List.filter_append]
  congr 1
  generalize cs.getD k [] = c
  cases hh : always (mask c) <;> simp [hh]
theorem masks_len (cs : List (List Int)) : (masks cs).length ≤ cs.length := by
  unfold masks
  exact Nat.le_trans (List.length_filter_le _ _) (by simp)
end Tru
namespace Go.Proofs.Ytccncojidkdddaa
open Go.RowKit Go.Lib Go.Sort Go.Shelf
set_option linter.unusedVariables false

theorem info56 : (Try.prog.info? 56).map (fun i => (i.zero, i.size, i.bytes)) = some (some (.agg #[.int .u32 0, .int .u32 0]), 2, 8) := by kernel_rfl
theorem flatM_on (ms : List (Nat × Nat)) (p : Nat × Nat) : flatM (ms ++ [p]) = flatM ms ++ [.int .u32 p.1, .int .u32 p.2] := by simp [flatM, encM]

theorem own_below {w w' : World} {B e size n : Nat} {v : Value} {xs : List Value} (h : w.ownsRow B e size v n xs) (hb : Below w.heap.size w w') : w'.ownsRow B e size v n xs := by
  refine ⟨h.1, ?_⟩
  rcases h.2 with h0 | ⟨g, cap, cur, e1, h1, h2, h3⟩
  · exact .inl h0
  · exact .inr ⟨g, cap, cur, e1, h1, (hb.block g (Array.getElem?_eq_some_iff.1 h2).1).trans h2, h3⟩
theorem box_c0 (w : World) (x y : Value) : (w.alloc (.cells #[x, y] 56)).cell? ⟨w.heap.size, 0, none⟩ = some x := by rw [row_cell (World.alloc_heap_new w _) 0]; rfl
theorem box_c1 (w : World) (x y : Value) : (w.alloc (.cells #[x, y] 56)).cell? ⟨w.heap.size, 1, none⟩ = some y := by rw [row_cell (World.alloc_heap_new w _) 1]; rfl

theorem frozen_block {W W' : World} {g k : Nat} (h : W'.heap[g]? = W.heap[g]?) : W'.frozen? ⟨g, k, none⟩ = W.frozen? ⟨g, k, none⟩ := by
  simp [World.frozen?, h]

/-- A table, made and not yet asked. -/
def MadeOut (cs : List (List Int)) (w : World) (e : Ending) (w' : World) : Prop := ∃ (g T cap : Nat) (ms : List (Nat × Nat)), e = .returned (.pointer (some ⟨T, 0, none⟩)) ∧ w'.heap[T]? = some (.cells #[.slice (some ⟨g, 0, none⟩) ms.length cap, .slice none 0 0, .int .i64 (-1)] 67 (0, 0)) ∧ w.heap.size ≤ g ∧ g < T ∧ HoldsK encM 2 w' g 0 ms.toArray ∧ (∀ p, p ∈ ms ↔ p ∈ Tru.masks cs) ∧ ms.length ≤ cs.length ∧ Below w.heap.size w w'

set_option maxRecDepth 100000 in
set_option maxHeartbeats 8000000 in
theorem made21 (u : Nat) (a : Option Addr) (n cap : Nat) (cs : List (List Int)) (w : World) (hn : cs.length = n) (hN : n ≤ 1048576) (hu : u ≤ 16) (hL : cs.flatten.length ≤ 16777216) (hc : Cls w a cs) (hv : ∀ c ∈ cs, ∀ l ∈ c, 1 ≤ Cnf.vr l ∧ Cnf.vr l ≤ u) :
    Calls Try.prog 21 #[.agg #[.int .i64 u, .slice a n cap]] w fun e w' => MadeOut cs w e w' := by
  obtain ⟨i0, hi, hz⟩ := Option.map_eq_some_iff.1 info56
  simp only [Prod.mk.injEq] at hz
  obtain ⟨hz0, hz1, hz2⟩ := hz
  have HL := hid (clause_bnd (w := w) (a := a) hL)
  have HC := hid hc
  have HN := hid hn
  have HV := hid (fun c hc l hl => And.intro (hv c hc l hl).1 (Int.le_trans (hv c hc l hl).2 (by omega : (u : Int) ≤ 16)))
  obtain ⟨W2, hmk, hown, hgr⟩ := run_make_own (P := Try.prog) (w.alloc (.cells #[.int .i64 u, .slice a n cap] 24)) w.heap.size 60 56 i0 (.agg #[.int .u32 0, .int .u32 0]) 2 Try.underlying60 hi hz0 hz1 .i64 .i64 n (by rw [hz2]; omega) (by simp [maxLen]; omega) (by simp)
  have HB2 := hid (show Below w.heap.size w W2 from (below_box _ _).grown hgr (by simp) (fun q hq => by cases hq))
  have HO2 := hid hown
  have hcell : (w.alloc (.cells #[.int .i64 u, .slice a n cap] 24)).heap.size = w.heap.size + 1 := by simp
  have x1 : W2.cell? ⟨w.heap.size, 1, none⟩ = some (.slice a n cap) := by
    rw [hgr.cell_far ⟨w.heap.size, 1, none⟩ (by simp) (by simp), row_cell (World.alloc_heap_new w _) 1]; rfl
  rw [hcell] at hmk HO2
  have HI := hid hi
  have HZ0 := hid hz0
  have HZ1 := hid hz1
  have HZ2 := hid hz2
  clear hc hn hv hL hown hgr hcell hi hz0 hz1 hz2
  go_enter Try.func21, Try.ntmps21
  go_wp2
  clear x1 hmk
  go_loopw [3, 14] (fun m i wr => ∃ (j g L capm : Nat), j ≤ n ∧ L ≤ j ∧ i = .int .i64 j ∧ m = .slice (some ⟨g, 0, none⟩) L capm ∧ Hid ((Tru.masks (cs.take j)).length = L) ∧ Hid (wr.ownsRow w.heap.size 56 2 (.slice (some ⟨g, 0, none⟩) L capm) L (flatM (Tru.masks (cs.take j)))) ∧ Hid (Below w.heap.size w wr)) (fun _ i _ => n - (intOf i).toNat)
  case atStart => exact ⟨0, _, 0, n, Nat.zero_le _, Nat.le_refl _, rfl, rfl, hid rfl, HO2, HB2⟩
  case round =>
    clear HO2 HB2
    obtain ⟨j, g, L, capm, hj, hLj, rfl, rfl, HLen, HO, HB⟩ := hrel
    by_cases hlt : j < n
    · have hlt' : (j : Int) < n := by omega
      obtain ⟨b, off, a', cap', rfl, hbl, hcell, hL, hln⟩ := HC.out.at (k := j) (by rw [HN.out]; exact hlt)
      have hcl := (HB.out.cell (p := ⟨b, off + j, none⟩) (World.block_lt_of_cell? w _ hcell)).trans hcell
      have hmem := Cnf.getD_cls cs j (by rw [HN.out]; exact hlt)
      have HT := hid (Tru.masks_take cs j (by rw [HN.out]; exact hlt))
      have C28 := hid (turned28 a' (cs.getD j []).length cap' (cs.getD j []) wr rfl (HL.out _ hmem) (hL.below HB.out) (HV.out _ hmem))
      have HSM := hid (Tru.mask_small (cs.getD j []) (HV.out _ hmem))
      clear hL hcell hmem
      generalize Tru.mask (cs.getD j []) = p at C28 HT HSM
      generalize (cs.getD j []).length = ln at hcl hln C28
      obtain ⟨p, q⟩ := p
      have hs := HB.out.size
      have C36 := hid (fun (W : World) => always36 p q W HSM.out.1 HSM.out.2)
      generalize hal : Tru.always (p, q) = r at C36
      cases r
      · have HT2 := hid (show Tru.masks (cs.take (j + 1)) = Tru.masks (cs.take j) ++ [(p, q)] by rw [HT.out, hal]; rfl)
        clear HT hal
        go_wp2_with (first
          | (go_at_call 28; refine C28.out.mono ?_; clear C28; rintro e w8 ⟨rfl, hw8⟩; have HW8 := hid hw8; clear hw8)
          | (go_at_call 36; refine (C36.out _).mono ?_; clear C36; rintro e w9 ⟨rfl, hw9⟩
             have y0 := (hw9.cell (p := ⟨w8.heap.size, 0, none⟩) (by simp)).trans (box_c0 w8 _ _)
             have y1 := (hw9.cell (p := ⟨w8.heap.size, 1, none⟩) (by simp)).trans (box_c1 w8 _ _)
             have h9 := HW8.out.trans ((box_below w8 _ hw9).mono HW8.out.size)
             have HO9 := hid (own_below HO.out h9)
             have h9s := h9.size
             have H9 := hid h9
             clear hw9 h9 HW8 HO)
          | (at_builtin; refine wpList_append_lies _ rfl _ _ 60 rfl w.heap.size 56 i0 (.agg #[.int .u32 0, .int .u32 0]) 2 8 Try.underlying60 HI.out HZ0.out HZ1.out HZ2.out rfl (by decide) (.slice (some ⟨g, 0, none⟩) L capm) L _ rfl (HO9.out.alloc _) ⟨w9.heap.size, 0, none⟩ 1 1 [.int .u32 p, .int .u32 q] rfl rfl (World.news_of_block (World.alloc_heap_new w9 (.cells #[.int .u32 p, .int .u32 q] 56))) (by intro u hu; simp at hu; rcases hu with rfl | rfl <;> rfl) (by decide) (by simp [maxLen]; omega) (by omega) (by simp; omega) (w9.heap.size + 1) (by simp) ?_))
        intro g8 cap8 wa hown8 hgrow8 hat8 hlt8
        have B8 : Below w.heap.size w9 wa := ((Below.refl _ w9).alloc (by omega) _).grown hgrow8 (by simp; omega) (fun q hq => (HO9.out.lt q hq).1)
        have HB8 := hid ((HB.out.trans (H9.out.mono hs)).trans B8)
        have HR8 := hid (show wa.ownsRow w.heap.size 56 2 (.slice (some ⟨g8, 0, none⟩) (L + 1) cap8) (L + 1) (flatM (Tru.masks (cs.take (j + 1)))) by rw [HT2.out, flatM_on]; exact hown8)
        have HL8 := hid (show (Tru.masks (cs.take (j + 1))).length = L + 1 by rw [HT2.out, List.length_append, HLen.out]; rfl)
        clear B8 hown8 hgrow8 hat8 hlt8 HO9 HB H9
        go_wp2
        go_roundw
        case rel => exact ⟨j + 1, g8, L + 1, cap8, by omega, by omega, by go_num, rfl, HL8, HR8, HB8⟩
        case measure => simp [intOf]; omega
      · have HT2 := hid (show Tru.masks (cs.take (j + 1)) = Tru.masks (cs.take j) by rw [HT.out, hal]; simp)
        clear HT hal
        go_wp2_with (first
          | (go_at_call 28; refine C28.out.mono ?_; clear C28; rintro e w8 ⟨rfl, hw8⟩; have HW8 := hid hw8; clear hw8)
          | (go_at_call 36; refine (C36.out _).mono ?_; clear C36; rintro e w9 ⟨rfl, hw9⟩
             have h9 := HW8.out.trans ((box_below w8 _ hw9).mono HW8.out.size)
             have HO9 := hid (own_below HO.out h9)
             have H9 := hid h9
             clear hw9 h9 HW8 HO))
        go_roundw
        case rel => exact ⟨j + 1, g, L, capm, by omega, by omega, by go_num, rfl, hid (by rw [HT2.out]; exact HLen.out), hid (by rw [HT2.out]; exact HO9.out), hid (HB.out.trans (H9.out.mono hs))⟩
        case measure => simp [intOf]; omega
    · have hge : ¬ (j : Int) < n := by omega
      obtain rfl : j = n := by omega
      have hs := HB.out.size
      have HE := hid (show cs.take j = cs from List.take_of_length_le (by rw [HN.out]; exact Nat.le_refl _))
      have hbc := own_masks HLen.out HO.out
      have C37 := hid (sortM w.heap.size g capm L (Tru.masks (cs.take j)) wr HLen.out (by omega) hs HO.out)
      have HG := hid hbc
      clear hbc
      go_wp2_with (first
        | (go_at_call 37; refine C37.out.mono ?_; clear C37; rintro e w8 ⟨rfl, hw8⟩
           have C41 := hid (onceM w.heap.size g capm L (Tru.masks (cs.take j)) wr w8 HLen.out (by omega) HG.out.2.2.2 HG.out.2.2.1 hw8)
           clear hw8)
        | (go_at_call 41; refine C41.out.mono ?_; clear C41; rintro e w9 ⟨ns, rfl, hx⟩
           have HX := hid hx
           clear hx))
      go_ret
      obtain ⟨k1, k2, k3, k4, k5⟩ := HX.out
      rw [HE.out] at k1 k2
      refine ⟨g, w9.heap.size, capm, ns, rfl, World.alloc_heap_new w9 _, HG.out.2.2.1, k4, ?_, k1, Nat.le_trans k2 (Tru.masks_len cs), ?_⟩
      · intro t ht
        have := k3 t ht
        have hbb := below_box w9 (.cells #[.slice (some ⟨g, 0, none⟩) ns.length capm, .slice none 0 0, .int .i64 (-1)] 67)
        refine ⟨(hbb.cell (p := ⟨g, 0 + t, none⟩) k4).trans this.1, ?_⟩
        exact (frozen_block (hbb.block g k4)).trans this.2
      · exact (HB.out.trans k5).trans ((below_box w9 _).mono (Nat.le_trans hs k5.size))
end Go.Proofs.Ytccncojidkdddaa
