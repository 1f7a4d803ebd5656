/- Both sides tell the same of themselves. -/
import Derived.Test.YtblogmelmpkfhaaClz
import Derived.Test.YtblogmelmpkfhaaDcX
namespace Go.Proofs.Ytblogmelmpkfhaa
open Go.RowKit Go.Maps
set_option linter.unusedVariables false

set_option maxRecDepth 100000 in
set_option maxHeartbeats 4000000 in
theorem tells11 {n ab n2 db lim lim2 : Nat} {M : List Arn.It} {W : World} (hA : Arx n ab lim M W) (hD : Dcx n2 db lim2 M W) (hs : Arn.size M ≤ 268435456) (hrs : ∀ x ∈ Arn.refs M 0, I64 x) (hK : (Arn.refs M 0).length ≤ 268435456) :
    Calls Try.prog 11 #[.pointer (some ⟨ab, 0, none⟩), .pointer (some ⟨db, 0, none⟩)] W fun e w' => e = .returned (.bool true) ∧ Below W.heap.size W w' := by
  obtain ⟨v, bm, h⟩ := hA
  have C25 := hid (refs25 h)
  have C29 := hid (fun (X : World) (hX : Below W.heap.size W X) => refs29 (hD.below hX))
  have C14 := hid (fun (X : World) (hX : Below W.heap.size W X) => words14 (h.below hX))
  have C36 := hid (fun (X : World) (hX : Below W.heap.size W X) => words36 (hD.below hX))
  have C37 := hid (fun (X : World) (hX : Below W.heap.size W X) (r : Int) (hr : I64 r) => clause37 (lim := lim) (lim2 := lim2) ⟨v, bm, h.below hX⟩ (hD.below hX) r hr)
  clear h hD
  obtain ⟨rs, hrs'⟩ : ∃ rs, Arn.refs M 0 = rs := ⟨_, rfl⟩
  obtain ⟨K, hK'⟩ : ∃ K, rs.length = K := ⟨_, rfl⟩
  rw [hrs'] at C25 C29 hrs hK
  rw [hK'] at hK
  have HRS := hid hrs
  have HK := hid hK'
  generalize Arn.size M = sz at *
  generalize Arn.waste M = ws at *
  clear hrs hrs' hK'
  go_enter Try.func11, Try.ntmps11
  go_wp2_with (fail)
  go_at_call 25
  refine C25.out.mono ?_
  rintro e w1 ⟨⟨v1, rfl, ho1⟩, hb1⟩
  rw [HK.out] at ho1
  obtain ⟨o1, c1, rfl⟩ := own_slc ho1
  have HO1 := hid ho1
  have HB1 := hid hb1
  clear ho1 hb1
  go_wp2_with (fail)
  go_at_call 29
  refine (C29.out _ HB1.out).mono ?_
  rintro e w2 ⟨⟨v2, rfl, ho2⟩, hb2⟩
  rw [HK.out] at ho2
  obtain ⟨o2, c2, rfl⟩ := own_slc ho2
  have HO2 := hid ho2
  have HB2 := hid hb2
  have HB02 := hid (HB1.out.trans (hb2.mono HB1.out.size))
  clear ho2 hb2
  go_wp2_with (fail)
  go_at_call 14
  refine (C14.out _ HB02.out).mono ?_
  rintro e w3 ⟨rfl, hb3⟩
  have HB03 := hid (HB02.out.trans (hb3.mono HB02.out.size))
  have HB3 := hid hb3
  clear hb3
  go_wp2_with (fail)
  go_at_call 36
  refine (C36.out _ HB03.out).mono ?_
  rintro e w4 ⟨rfl, hb4⟩
  have HB04 := hid (HB03.out.trans (hb4.mono HB03.out.size))
  have HB4 := hid hb4
  have h04 := HB04.out
  have D37 := hid (fun (X : World) (hX : Below w4.heap.size w4 X) (r : Int) (hr : I64 r) => (C37.out X (h04.trans (hX.mono h04.size)) r hr).mono (fun e w' hw => (⟨hw.1, hX.trans (hw.2.mono hX.size)⟩ : e = .returned (.bool true) ∧ Below w4.heap.size w4 w')))
  have hO1 := own_below (own_below (own_below HO1.out HB2.out) HB3.out) hb4
  have hO2 := own_below (own_below HO2.out HB3.out) hb4
  have HO1' := hid hO1
  have HO2' := hid hO2
  have hsh : K = 0 ∨ ∃ g1 g2, o1 = some ⟨g1, 0, none⟩ ∧ o2 = some ⟨g2, 0, none⟩ := by
    rcases Nat.eq_zero_or_pos K with h0 | h0
    · exact .inl h0
    · obtain ⟨g1, c9, e9, _⟩ := hO1.form (by omega)
      obtain ⟨g2, c8, e8, _⟩ := hO2.form (by omega)
      cases e9
      cases e8
      exact .inr ⟨g1, g2, rfl, rfl⟩
  clear hb4 C25 C29 C14 C36 C37 h04 hO1 hO2 HO1 HO2 HB1 HB2 HB02 HB3 HB03 HB4
  go_wp2_with (fail)
  go_at_call 37
  refine (D37.out _ (Below.refl _ _) (-1) (by constructor <;> omega)).mono ?_
  rintro e w5 ⟨rfl, hb5⟩
  go_wp2_with (fail)
  go_at_call 37
  refine (D37.out _ hb5 sz (by constructor <;> omega)).mono ?_
  rintro e w6 ⟨rfl, hb6⟩
  go_wp2_with (fail)
  go_at_call 37
  refine (D37.out _ hb6 3 (by constructor <;> omega)).mono ?_
  rintro e w7 ⟨rfl, hb7⟩
  clear hb5 hb6
  have HB7 := hid hb7
  clear hb7
  go_wp2_with (fail)
  rcases hsh with h0 | ⟨g1, g2, rfl, rfl⟩
  · go_loopw [11] (fun iv wx => iv = .int .i64 0 ∧ wx = w7) (fun _ _ => 0)
    case atStart => exact ⟨rfl, rfl⟩
    case round =>
      obtain ⟨rfl, hwx⟩ := hrel
      rw [hwx]
      clear hwx
      have hL0 : ¬ (0 : Int) < K := by omega
      go_wp2
      go_ret
      exact ⟨rfl, HB04.out.trans (HB7.out.mono HB04.out.size)⟩
  · go_loopw [11] (fun iv wx => ∃ j : Nat, j ≤ K ∧ iv = .int .i64 j ∧ Hid (Below w4.heap.size w4 wx)) (fun iv _ => K - (intOf iv).toNat)
    case atStart => exact ⟨0, Nat.zero_le _, rfl, HB7⟩
    case round =>
      obtain ⟨j, hj, rfl, HBX⟩ := hrel
      by_cases hjL : j < K
      · have hjL' : (j : Int) < K := by omega
        have q1 := (own_below HO1'.out HBX.out).cellAt j (by omega)
        have q2 := (own_below HO2'.out HBX.out).cellAt j (by omega)
        rw [List.getElem?_map, List.getElem?_eq_getElem (by rw [HK.out]; exact hjL)] at q1 q2
        have hI := HRS.out _ (List.getElem_mem (by rw [HK.out]; exact hjL))
        simp only [Option.map_some] at q1 q2
        have QQ1 := hid (fun (X : World) (hX : Below w4.heap.size w4 X) => by
          have q := (own_below HO1'.out hX).cellAt j (by omega)
          rw [List.getElem?_map, List.getElem?_eq_getElem (by rw [HK.out]; exact hjL)] at q
          exact q)
        have QQ2 := hid (fun (X : World) (hX : Below w4.heap.size w4 X) => by
          have q := (own_below HO2'.out hX).cellAt j (by omega)
          rw [List.getElem?_map, List.getElem?_eq_getElem (by rw [HK.out]; exact hjL)] at q
          exact q)
        simp only [Option.map_some] at QQ1 QQ2
        generalize rs[j]'_ = rv at *
        have HC := hid (D37.out wr.drew HBX.out.drew rv hI)
        have HQ := hid (fun (X : World) (hX : Below w4.heap.size w4 X) => show X.cell? ⟨g1, j, none⟩ = some (.int .i64 rv) ∧ X.cell? ⟨g2, j, none⟩ = some (.int .i64 rv) ∧ Below w4.heap.size w4 X from ⟨QQ1.out X hX, QQ2.out X hX, hX⟩)
        clear hI q1 q2 QQ1 QQ2
        go_wp2_with (fail)
        go_region_held3 (fun X => X.cell? ⟨g1, j, none⟩ = some (.int .i64 rv) ∧ X.cell? ⟨g2, j, none⟩ = some (.int .i64 rv) ∧ Below w4.heap.size w4 X)
          (first | exact HQ.out _ HBX.out.drew | exact HQ.out _ hb9)
          (first | (go_at_call 37; refine HC.out.mono ?_; rintro e w9 ⟨rfl, hb9⟩))
        go_wp2
        exact ⟨⟨j + 1, by omega, by go_num, hid hb9⟩, by simp only [intOf]; omega⟩
      · have hge : ¬ (j : Int) < K := by omega
        go_wp2
        go_ret
        exact ⟨rfl, HB04.out.trans (HBX.out.mono HB04.out.size)⟩
end Go.Proofs.Ytblogmelmpkfhaa
