/- ExtendKnown as a call. -/
import Derived.Test.YtjakfgpgcnbclaaKn
namespace Go.Proofs.Ytjakfgpgcnbclaa
open Go.RowKit
set_option linter.unusedVariables false
set_option linter.unusedSimpArgs false

theorem row_any {W : World} {b : Nat} {t : TypeId} {vs : List Value} {Pr : Value → Prop} (h : W.heap[b]? = some (.cells vs.toArray t (0, 0))) (hp : ∀ v ∈ vs, Pr v) {j : Nat} (hj : j < vs.length) : ∃ v, W.cell? ⟨b, j, none⟩ = some v ∧ Pr v := by
  refine ⟨vs[j], ?_, hp _ (List.getElem_mem hj)⟩
  rw [row_cell h j]
  simp [hj]
set_option maxRecDepth 100000 in
set_option maxHeartbeats 8000000 in
theorem law5 (w : World) : Calls Try.prog 5 #[] w fun e w' => e = .returned (.bool true) ∧ Below w.heap.size w w' := by
  obtain ⟨A, hA, hbA, hsA, hLits, hva, hvb, hrow, hmods⟩ := laid0 w
  simp only [seqA, List.foldl_cons, List.foldl_nil] at hA
  have HBA := hid hbA
  have HL := hid hLits
  have a0 := row_cell hva 0
  have a1 := row_cell hva 1
  have b0 := row_cell hvb 0
  have b1 := row_cell hvb 1
  simp only [List.getElem?_toArray, List.getElem?_cons_zero, List.getElem?_cons_succ] at a0 a1 b0 b1
  have HR := hid hrow
  have HM := hid hmods
  have hlt4 : w.heap.size + 1 + 1 + 1 + 1 < A.heap.size := (Array.getElem?_eq_some_iff.1 hva).1
  have hlt5 : w.heap.size + 1 + 1 + 1 + 1 + 1 < A.heap.size := (Array.getElem?_eq_some_iff.1 hvb).1
  clear hbA hLits hva hvb hrow hmods hsA
  have HA0 := hid a0
  have HA1 := hid a1
  have HB0 := hid b0
  have HB1 := hid b1
  clear a0 a1 b0 b1
  go_enter Try.func5, Try.ntmps5
  go_wp2
  clear hA
  go_loopw [4, 6, 20] (fun _ _ i wr => ∃ j : Nat, j ≤ 5 ∧ i = .int .i64 j ∧ Hid (Below A.heap.size A wr)) (fun _ _ i _ => 5 - (intOf i).toNat)
  case atStart => exact ⟨0, by omega, rfl, hid (Below.refl _ _)⟩
  case round =>
    obtain ⟨j, hj, rfl, HB⟩ := hrel
    by_cases hlt : j < 5
    · have hlt' : (j : Int) < 5 := by omega
      obtain ⟨v, hv, hm⟩ := row_any HR.out HM.out hlt
      have c0 := (HB.out.cell (p := ⟨w.heap.size + 1 + 1 + 1 + 1 + 1 + 1 + 1 + 1 + 1 + 1, j, none⟩) (Array.getElem?_eq_some_iff.1 HR.out).1).trans hv
      obtain ⟨am, nm, cm, m, rfl, hml, hmb⟩ := hm.below HB.out
      have HMB := hid hmb
      have HML := hid hml
      have a0 := (HB.out.cell (p := ⟨w.heap.size + 1 + 1 + 1 + 1, 0, none⟩) hlt4).trans HA0.out
      have a1 := (HB.out.cell (p := ⟨w.heap.size + 1 + 1 + 1 + 1, 1, none⟩) hlt4).trans HA1.out
      have b0 := (HB.out.cell (p := ⟨w.heap.size + 1 + 1 + 1 + 1 + 1, 0, none⟩) hlt5).trans HB0.out
      have b1 := (HB.out.cell (p := ⟨w.heap.size + 1 + 1 + 1 + 1 + 1, 1, none⟩) hlt5).trans HB1.out
      clear hv hm hml hmb
      obtain ⟨l1, l2, l3, l4⟩ := HL.out
      obtain ⟨B, hB, hbB, hsB, hrowB, hstk⟩ := laid1 w wr (l1.below HB.out) (l2.below HB.out) (l3.below HB.out) (l4.below HB.out)
      simp only [seqA, List.foldl_cons, List.foldl_nil] at hB
      obtain ⟨B1, hB1⟩ : ∃ B1, wr.alloc (.cells #[.slice (some ⟨w.heap.size, 0, none⟩) 1 1, .slice (some ⟨w.heap.size + 1, 0, none⟩) 2 2] 42) = B1 := ⟨_, rfl⟩
      have hs1 : B1.heap.size = wr.heap.size + 1 := by rw [← hB1]; simp
      have hb1 : Below wr.heap.size wr B1 := by rw [← hB1]; exact below_box _ _
      rw [hB1] at hB
      obtain ⟨B2, hB2⟩ : ∃ B2, B1.alloc (.cells #[.slice (some ⟨w.heap.size + 1 + 1, 0, none⟩) 2 2, .slice (some ⟨w.heap.size + 1 + 1 + 1, 0, none⟩) 1 1] 42) = B2 := ⟨_, rfl⟩
      have hs2 : B2.heap.size = wr.heap.size + 1 + 1 := by rw [← hB2]; simp [hs1]
      have hb2 : Below B1.heap.size B1 B2 := by rw [← hB2]; exact below_box _ _
      rw [hB2] at hB
      obtain ⟨B3, hB3⟩ : ∃ B3, B2.alloc (.cells #[.slice (some ⟨w.heap.size, 0, none⟩) 1 1, .slice (some ⟨w.heap.size + 1, 0, none⟩) 2 2, .slice (some ⟨w.heap.size + 1 + 1, 0, none⟩) 2 2, .slice (some ⟨w.heap.size + 1 + 1 + 1, 0, none⟩) 1 1] 42) = B3 := ⟨_, rfl⟩
      have hs3 : B3.heap.size = wr.heap.size + 1 + 1 + 1 := by rw [← hB3]; simp [hs2]
      have hb3 : Below B2.heap.size B2 B3 := by rw [← hB3]; exact below_box _ _
      rw [hB3] at hB
      obtain ⟨B4, hB4⟩ : ∃ B4, B3.alloc (.cells #[.slice (some ⟨w.heap.size + 1 + 1, 0, none⟩) 2 2, .slice (some ⟨w.heap.size + 1 + 1 + 1, 0, none⟩) 1 1, .slice (some ⟨w.heap.size, 0, none⟩) 1 1, .slice (some ⟨w.heap.size + 1, 0, none⟩) 2 2] 42) = B4 := ⟨_, rfl⟩
      have hs4 : B4.heap.size = wr.heap.size + 1 + 1 + 1 + 1 := by rw [← hB4]; simp [hs3]
      have hb4 : Below B3.heap.size B3 B4 := by rw [← hB4]; exact below_box _ _
      rw [hB4] at hB
      obtain ⟨B5, hB5⟩ : ∃ B5, B4.alloc (.cells #[.slice (some ⟨w.heap.size, 0, none⟩) 1 1, .slice (some ⟨w.heap.size + 1, 0, none⟩) 2 2, .slice (some ⟨w.heap.size, 0, none⟩) 1 1, .slice (some ⟨w.heap.size + 1, 0, none⟩) 2 2] 42) = B5 := ⟨_, rfl⟩
      have hs5 : B5.heap.size = wr.heap.size + 1 + 1 + 1 + 1 + 1 := by rw [← hB5]; simp [hs4]
      have hb5 : Below B4.heap.size B4 B5 := by rw [← hB5]; exact below_box _ _
      rw [hB5] at hB
      obtain ⟨B16, hB16⟩ : ∃ B16, (((((((((((B5.alloc (.cells #[.slice none 0 0, .slice none 0 0] 42)).alloc (.cells #[.int .i32 1, .int .i32 (-1)] 47)).alloc (.cells #[.slice (some ⟨wr.heap.size + 1 + 1 + 1 + 1 + 1 + 1, 0, none⟩) 2 2, .slice none 0 0] 42)).alloc (.cells #[.int .i32 0] 47)).alloc (.cells #[.slice (some ⟨wr.heap.size + 1 + 1 + 1 + 1 + 1 + 1 + 1 + 1, 0, none⟩) 1 1, .slice none 0 0] 42)).alloc (.cells #[.int .i32 3] 47)).alloc (.cells #[.slice none 0 0, .slice (some ⟨wr.heap.size + 1 + 1 + 1 + 1 + 1 + 1 + 1 + 1 + 1 + 1, 0, none⟩) 1 1] 42)).alloc (.cells #[.int .i32 (-2147483648)] 47)).alloc (.cells #[.int .i32 1] 47)).alloc (.cells #[.slice (some ⟨wr.heap.size + 1 + 1 + 1 + 1 + 1 + 1 + 1 + 1 + 1 + 1 + 1 + 1, 0, none⟩) 1 1, .slice (some ⟨wr.heap.size + 1 + 1 + 1 + 1 + 1 + 1 + 1 + 1 + 1 + 1 + 1 + 1 + 1, 0, none⟩) 1 1] 42)).alloc (.cells #[.int .i32 1, .int .i32 2] 47)) = B16 := ⟨_, rfl⟩
      rw [hB16] at hB
      have hs16 : B16.heap.size = wr.heap.size + 1 + 1 + 1 + 1 + 1 + 1 + 1 + 1 + 1 + 1 + 1 + 1 + 1 + 1 + 1 + 1 := by rw [← hB16]; simp [hs5]
      have hb16 : Below B5.heap.size B5 B16 := by
        rw [← hB16]
        exact (seqA_below B5 [(.cells #[.slice none 0 0, .slice none 0 0] 42), (.cells #[.int .i32 1, .int .i32 (-1)] 47), (.cells #[.slice (some ⟨wr.heap.size + 1 + 1 + 1 + 1 + 1 + 1, 0, none⟩) 2 2, .slice none 0 0] 42), (.cells #[.int .i32 0] 47), (.cells #[.slice (some ⟨wr.heap.size + 1 + 1 + 1 + 1 + 1 + 1 + 1 + 1, 0, none⟩) 1 1, .slice none 0 0] 42), (.cells #[.int .i32 3] 47), (.cells #[.slice none 0 0, .slice (some ⟨wr.heap.size + 1 + 1 + 1 + 1 + 1 + 1 + 1 + 1 + 1 + 1, 0, none⟩) 1 1] 42), (.cells #[.int .i32 (-2147483648)] 47), (.cells #[.int .i32 1] 47), (.cells #[.slice (some ⟨wr.heap.size + 1 + 1 + 1 + 1 + 1 + 1 + 1 + 1 + 1 + 1 + 1 + 1, 0, none⟩) 1 1, .slice (some ⟨wr.heap.size + 1 + 1 + 1 + 1 + 1 + 1 + 1 + 1 + 1 + 1 + 1 + 1 + 1, 0, none⟩) 1 1] 42), (.cells #[.int .i32 1, .int .i32 2] 47)]).1
      have n4 : w.heap.size + 1 + 1 + 1 + 1 < wr.heap.size := Nat.lt_of_lt_of_le hlt4 HB.out.size
      have n5 : w.heap.size + 1 + 1 + 1 + 1 + 1 < wr.heap.size := Nat.lt_of_lt_of_le hlt5 HB.out.size
      have g1 := hb1
      have g2 := g1.trans (hb2.mono (by omega))
      have g3 := g2.trans (hb3.mono (by omega))
      have g4 := g3.trans (hb4.mono (by omega))
      have g5 := g4.trans (hb5.mono (by omega))
      have g16 := g5.trans (hb16.mono (by omega))
      have a0_1 := (g1.cell (p := ⟨w.heap.size + 1 + 1 + 1 + 1, 0, none⟩) n4).trans a0
      have a1_1 := (g1.cell (p := ⟨w.heap.size + 1 + 1 + 1 + 1, 1, none⟩) n4).trans a1
      have b0_1 := (g1.cell (p := ⟨w.heap.size + 1 + 1 + 1 + 1 + 1, 0, none⟩) n5).trans b0
      have b1_1 := (g1.cell (p := ⟨w.heap.size + 1 + 1 + 1 + 1 + 1, 1, none⟩) n5).trans b1
      have a0_2 := (g2.cell (p := ⟨w.heap.size + 1 + 1 + 1 + 1, 0, none⟩) n4).trans a0
      have a1_2 := (g2.cell (p := ⟨w.heap.size + 1 + 1 + 1 + 1, 1, none⟩) n4).trans a1
      have b0_2 := (g2.cell (p := ⟨w.heap.size + 1 + 1 + 1 + 1 + 1, 0, none⟩) n5).trans b0
      have b1_2 := (g2.cell (p := ⟨w.heap.size + 1 + 1 + 1 + 1 + 1, 1, none⟩) n5).trans b1
      have a0_3 := (g3.cell (p := ⟨w.heap.size + 1 + 1 + 1 + 1, 0, none⟩) n4).trans a0
      have a1_3 := (g3.cell (p := ⟨w.heap.size + 1 + 1 + 1 + 1, 1, none⟩) n4).trans a1
      have b0_3 := (g3.cell (p := ⟨w.heap.size + 1 + 1 + 1 + 1 + 1, 0, none⟩) n5).trans b0
      have b1_3 := (g3.cell (p := ⟨w.heap.size + 1 + 1 + 1 + 1 + 1, 1, none⟩) n5).trans b1
      have a0_4 := (g4.cell (p := ⟨w.heap.size + 1 + 1 + 1 + 1, 0, none⟩) n4).trans a0
      have a1_4 := (g4.cell (p := ⟨w.heap.size + 1 + 1 + 1 + 1, 1, none⟩) n4).trans a1
      have b0_4 := (g4.cell (p := ⟨w.heap.size + 1 + 1 + 1 + 1 + 1, 0, none⟩) n5).trans b0
      have b1_4 := (g4.cell (p := ⟨w.heap.size + 1 + 1 + 1 + 1 + 1, 1, none⟩) n5).trans b1
      have a0_16 := (g16.cell (p := ⟨w.heap.size + 1 + 1 + 1 + 1, 0, none⟩) n4).trans a0
      have a1_16 := (g16.cell (p := ⟨w.heap.size + 1 + 1 + 1 + 1, 1, none⟩) n4).trans a1
      have b0_16 := (g16.cell (p := ⟨w.heap.size + 1 + 1 + 1 + 1 + 1, 0, none⟩) n5).trans b0
      have b1_16 := (g16.cell (p := ⟨w.heap.size + 1 + 1 + 1 + 1 + 1, 1, none⟩) n5).trans b1
      have HRB := hid hrowB
      have HSB := hid hstk
      have HBB := hid (HB.out.trans (hbB.mono HB.out.size))
      have HMB2 := hid (HMB.out.below hbB)
      clear l1 l2 l3 l4 hrowB hstk hbB g1 g2 g3 g4 g5 g16 hb1 hb2 hb3 hb4 hb5 hb16 n4 n5 HMB HB hsB
      go_wp2
      clear hB hB1 hB2 hB3 hB4 hB5 hB16 hs1 hs2 hs3 hs4 hs5 hs16 a0 a1 b0 b1 c0 a0_1 a1_1 b0_1 b1_1 a0_2 a1_2 b0_2 b1_2 a0_3 a1_3 b0_3 b1_3 a0_4 a1_4 b0_4 b1_4 a0_16 a1_16 b0_16 b1_16
      obtain ⟨wo, hwo⟩ : ∃ wo, wo = wr := ⟨wr, rfl⟩
      subst hwo


      go_loopw [6, 58] (fun _ i wr => ∃ q : Nat, q ≤ 12 ∧ i = .int .i64 q ∧ Hid (Below B.heap.size B wr)) (fun _ i _ => 12 - (intOf i).toNat)
      case atStart => exact ⟨0, by omega, rfl, hid (Below.refl _ _)⟩
      case round =>
        obtain ⟨q, hq, rfl, HBr⟩ := hrel
        by_cases hqn : q < 12
        · have hqn' : (q : Int) < 12 := by omega
          obtain ⟨v, hv, hm⟩ := row_any HRB.out HSB.out hqn
          have c1 := (HBr.out.cell (p := ⟨wo.heap.size + 1 + 1 + 1 + 1 + 1 + 1 + 1 + 1 + 1 + 1 + 1 + 1 + 1 + 1 + 1 + 1 + 1, q, none⟩) (Array.getElem?_eq_some_iff.1 HRB.out).1).trans hv
          obtain ⟨a2, n2, k2, s2, rfl, hsl, hsn, hsw⟩ := hm.below HBr.out
          have C3 := hid (law3 am a2 nm cm n2 k2 m s2 wr HML.out (HMB2.out.below HBr.out) hsl hsn hsw)
          clear hv hm hsl hsw
          go_wp2_with fail
          go_at_call 3
          refine C3.out.mono ?_
          clear C3
          rintro e w3 ⟨rfl, hb3⟩
          have HB3 := hid (HBr.out.trans (hb3.mono HBr.out.size))
          clear hb3 c1
          go_wp2
          go_roundw
          case rel => exact ⟨q + 1, by omega, by go_num, HB3⟩
          case measure => simp [intOf]; omega
        · have hqn' : ¬ (q : Int) < 12 := by omega
          have HBN := hid (HBB.out.trans (HBr.out.mono HBB.out.size))
          go_wp2
          go_roundw
          case rel => exact ⟨j + 1, by omega, by go_num, HBN⟩
          case measure => simp [intOf]; omega
    · have hlt' : ¬ (j : Int) < 5 := by omega
      have HB0w := hid (HBA.out.trans (HB.out.mono HBA.out.size))
      obtain ⟨B, hB, hbB, hsB, hfB, hcF, hiF, hcG⟩ := laid2 wr
      simp only [seqA, List.foldl_cons, List.foldl_nil] at hB
      have f0 := row_cell hfB 0
      have f1 := row_cell hfB 1
      simp only [List.getElem?_toArray, List.getElem?_cons_zero, List.getElem?_cons_succ] at f0 f1
      have hltf := (Array.getElem?_eq_some_iff.1 hfB).1
      have HBw := hid (HB0w.out.trans (hbB.mono HB0w.out.size))
      have C4 := hid (law4 3 (some ⟨wr.heap.size + 1 + 1 + 1 + 1, 0, none⟩) (some ⟨wr.heap.size + 1 + 1 + 1 + 1 + 1 + 1, 0, none⟩) (some ⟨wr.heap.size + 1 + 1 + 1 + 1 + 1 + 1 + 1 + 1 + 1 + 1 + 1, 0, none⟩) 4 4 4 4 4 4 [[1, 2], [-1, -2], [3, 1], [-3, 2]] [2, 2, 0, 0] [[3], [-3], [1, -2], [-2]] B rfl (by omega) hcF rfl hiF rfl (by omega) hcG)
      have HCF := hid hcF
      clear hbB hsB hfB hcF hiF hcG HB
      go_wp2_with fail
      clear hB
      go_at_call 4
      refine C4.out.mono ?_
      clear C4
      rintro e w2 ⟨rfl, hb2⟩
      have HB2 := hid (HBw.out.trans (hb2.mono HBw.out.size))
      have h0 := (hb2.cell (p := ⟨wr.heap.size + 1 + 1 + 1 + 1 + 1, 0, none⟩) hltf).trans f0
      have h1 := (hb2.cell (p := ⟨wr.heap.size + 1 + 1 + 1 + 1 + 1, 1, none⟩) hltf).trans f1
      obtain ⟨B3, hB3, hbB3, hi3, hc3⟩ := laid3 w2
      simp only [seqA, List.foldl_cons, List.foldl_nil] at hB3
      have C4 := hid (law4 3 (some ⟨wr.heap.size + 1 + 1 + 1 + 1, 0, none⟩) (some ⟨w2.heap.size, 0, none⟩) (some ⟨w2.heap.size + 1 + 1 + 1 + 1 + 1, 0, none⟩) 4 4 4 4 4 4 [[1, 2], [-1, -2], [3, 1], [-3, 2]] [0, 0, 0, 0] [[1], [-1], [3], [2, -3]] B3 rfl (by omega) ((HCF.out.below hb2).below hbB3) rfl hi3 rfl (by omega) hc3)
      have HB3 := hid (HB2.out.trans (hbB3.mono HB2.out.size))
      clear hb2 hbB3 hi3 hc3 f0 f1
      go_wp2_with fail
      clear hB3
      go_at_call 4
      refine C4.out.mono ?_
      clear C4
      rintro e w5 ⟨rfl, hb5⟩
      have HB5 := hid (HB3.out.trans (hb5.mono HB3.out.size))
      clear hb5 h0 h1
      go_wp2_with fail
      go_at_call 10
      refine (works10 _).mono ?_
      rintro e w9 ⟨rfl, hb9⟩
      have HF := hid (HB5.out.trans (hb9.mono HB5.out.size))
      clear hb9
      go_wp2
      go_ret
      exact ⟨rfl, HF.out⟩
end Go.Proofs.Ytjakfgpgcnbclaa
