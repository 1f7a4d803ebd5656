/- Two formulas that are alike are found alike. -/
import Derived.Test.YtlhpnkgdnmnclaaDoorSame
import Derived.Deep.RegionHeld3
namespace Go.Proofs.YtlhpnkgdnmnclaaDoor
open Go.RowKit
set_option linter.unusedVariables false

set_option maxRecDepth 100000 in
set_option maxHeartbeats 4000000 in
theorem sameFormula11 (v : Int) (a b : Option Addr) (n ca cb : Nat) (cs : List (List Int)) (w : World) (hn : cs.length = n) (hN : n ≤ 1099511627776) (hx : Cls w a cs) (hy : Cls w b cs) (hln : ∀ c ∈ cs, c.length ≤ 1099511627776) :
    Calls Tryd.prog 11 #[.agg #[.int .i64 v, .slice a n ca], .agg #[.int .i64 v, .slice b n cb]] w fun e w' => e = .returned (.bool true) ∧ Below w.heap.size w w' := by
  obtain ⟨W2, hW2⟩ : ∃ W2, (w.alloc (.cells #[.int .i64 v, .slice a n ca] 25)).alloc (.cells #[.int .i64 v, .slice b n cb] 25) = W2 := ⟨_, rfl⟩
  have hB : Below w.heap.size w W2 := by rw [← hW2]; exact ((Below.refl _ w).alloc (Nat.le_refl _) _).alloc (by simp) _
  have hb0 : W2.heap[w.heap.size]? = some (.cells #[.int .i64 v, .slice a n ca] 25 (0, 0)) := by
    rw [← hW2, Below.heap_alloc _ _ _ (by simp)]; exact World.alloc_heap_new w _
  have hb1 : W2.heap[w.heap.size + 1]? = some (.cells #[.int .i64 v, .slice b n cb] 25 (0, 0)) := by
    rw [← hW2]
    have := World.alloc_heap_new (w.alloc (.cells #[.int .i64 v, .slice a n ca] 25)) (.cells #[.int .i64 v, .slice b n cb] 25)
    simpa using this
  have e1 := row_cell hb0 1
  have e2 := row_cell hb1 1
  simp only [List.getElem?_toArray, List.getElem?_cons_zero, List.getElem?_cons_succ] at e1 e2
  have HX := hid (hx.below hB)
  have HY := hid (hy.below hB)
  have HN := hid hn
  have HL := hid hln
  have HB := hid hB
  have HW := hid hW2
  clear hx hy hn hln hB hb0 hb1 hW2
  go_enter Tryd.func11, Tryd.ntmps11
  go_wp2
  rw [HW.out]
  clear HW
  go_loopw [5] (fun i wr => ∃ k : Nat, k ≤ n ∧ i = .int .i64 k ∧ Drawn W2 wr) (fun i _ => n - (intOf i).toNat)
  case atStart => exact ⟨0, Nat.zero_le _, rfl, Drawn.refl _⟩
  case round =>
    obtain ⟨k, hk, rfl, HD⟩ := hrel
    by_cases hlt : k < n
    · have hlt' : (k : Int) < n := by omega
      have hk0 : (0 : Int) ≤ k := by omega
      obtain ⟨b1, o1, a1, c1, rfl, _, hc1, hl1, _⟩ := HX.out.at (k := k) (by rw [HN.out]; exact hlt)
      obtain ⟨b2, o2, a2, c2, rfl, _, hc2, hl2, _⟩ := HY.out.at (k := k) (by rw [HN.out]; exact hlt)
      have hm : (cs.getD k []).length ≤ 1099511627776 := HL.out _ (Cnf.getD_cls cs k (by rw [HN.out]; exact hlt))
      generalize cs.getD k [] = ys at hc1 hc2 hl1 hl2 hm
      have x1 := (HD.cell ⟨w.heap.size, 1, none⟩).trans e1
      have x2 := (HD.cell ⟨w.heap.size + 1, 1, none⟩).trans e2
      have x3 := (HD.cell ⟨b1, o1 + k, none⟩).trans hc1
      have x4 := (HD.cell ⟨b2, o2 + k, none⟩).trans hc2
      have C := hid (fun (W : World) (hW : Drawn W2 W) => (same30 a1 a2 ys.length c1 ys.length c2 ys ys W rfl rfl hm hm (hW.lits hl1) (hW.lits hl2)).mono (R' := fun e w' => e = .returned (.bool true) ∧ Drawn W2 w' ∧ w'.cell? ⟨w.heap.size, 1, none⟩ = some (.slice (some ⟨b1, o1, none⟩) n ca) ∧ w'.cell? ⟨w.heap.size + 1, 1, none⟩ = some (.slice (some ⟨b2, o2, none⟩) n cb) ∧ w'.cell? ⟨b1, o1 + k, none⟩ = some (.slice a1 ys.length c1) ∧ w'.cell? ⟨b2, o2 + k, none⟩ = some (.slice a2 ys.length c2)) fun e w' h => ⟨by rw [h.1]; simp, hW.trans h.2, ((hW.trans h.2).cell _).trans e1, ((hW.trans h.2).cell _).trans e2, ((hW.trans h.2).cell _).trans hc1, ((hW.trans h.2).cell _).trans hc2⟩)
      clear hc1 hc2 hl1 hl2
      generalize ys.length = m at x3 x4 C hm
      go_wp2
      go_region_held3 (fun W => W.cell? ⟨w.heap.size, 1, none⟩ = some (.slice (some ⟨b1, o1, none⟩) n ca) ∧ W.cell? ⟨w.heap.size + 1, 1, none⟩ = some (.slice (some ⟨b2, o2, none⟩) n cb) ∧ W.cell? ⟨b1, o1 + k, none⟩ = some (.slice a1 m c1) ∧ W.cell? ⟨b2, o2 + k, none⟩ = some (.slice a2 m c2))
        (first | exact ⟨y1, y2, y3, y4⟩ | go_keep)
        (first | (go_at_call 30; refine (C.out _ ?_).mono ?_; exact HD.drewN 1; rintro e w' ⟨rfl, hd, y1, y2, y3, y4⟩))
      go_wp2
      go_roundw
      case rel => exact ⟨k + 1, by omega, by go_num, hd⟩
      case measure => simp [intOf]; omega
    · have x1 := (HD.cell ⟨w.heap.size, 1, none⟩).trans e1
      have hge : ¬ (k : Int) < n := by omega
      go_wp2
      go_ret
      exact ⟨rfl, HD.below HB.out⟩
end Go.Proofs.YtlhpnkgdnmnclaaDoor
