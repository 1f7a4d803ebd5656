/- Two texts that are proofs, one behind the other, as a call. -/
import Derived.Test.YtdodfmgbjfhnpaaDoorRow6
namespace Go.Proofs.YtdodfmgbjfhnpaaDoor
open Go.RowKit
set_option linter.unusedVariables false
set_option linter.unusedSimpArgs false

set_option maxRecDepth 100000 in
set_option maxHeartbeats 8000000 in
theorem law6_both (A B : ByteArray) (nn : Int) (w : World) (l : List Lra.Stp) (hA : A.size ≤ 6000) (hB : B.size ≤ 6000) (hp : Lra.parse (Lra.ints A) = .ok l) (m : List Lra.Stp) (hpB : Lra.parse (Lra.ints B) = .ok m) (hT : Tab w.heap.size w) :
    Calls Tryd.prog 6 #[.string A, .string B, .int .i64 nn] w fun e w' => e = .returned (.bool true) ∧ Below w.heap.size w w' := by
  have CW := hid (fun (W : World) (hW : Below w.heap.size w W) => (works10 W (hT.on hW hW.size)).mono (R' := fun e w' => e = .returned (.bool true) ∧ Below w.heap.size w w') fun e w' q => ⟨q.1, hW.trans (q.2.mono hW.size)⟩)
  have hA' : ¬ (6000 : Int) < A.size := by omega
  have hB' : ¬ (6000 : Int) < B.size := by omega
  obtain ⟨hl, CA⟩ := (calls15 A (by omega) w.heap.size w w (Below.refl _ _) (Nat.le_refl _)).2 l hp
  have KA := hid CA
  have hsz : (A ++ B).size = A.size + B.size := ByteArray.size_append
  have hcat : ¬ 9223372036854775807 < A.size + B.size := by omega
  have CB := hid (fun (W : World) (hW : Below w.heap.size w W) => ((calls15 B (by omega) w.heap.size w W hW hW.size).2 m hpB).2)
  have hml := ((calls15 B (by omega) w.heap.size w w (Below.refl _ _) (Nat.le_refl _)).2 m hpB).1
  have hpc : Lra.parse (Lra.ints (A ++ B)) = .ok (l ++ m) := by
    rw [ints_append, Lra.parse_app_ok hp, hpB]
  have CC := hid (fun (W : World) (hW : Below w.heap.size w W) => ((calls15 (A ++ B) (by omega) w.heap.size w W hW hW.size).2 _ hpc).2)
  rw [List.length_append] at CC
  obtain ⟨K, hK, hKw⟩ := rem_fits nn A.size hA
  have HKC := hid (cut_cases A l hp K hK)
  have CK := hid (fun (W : World) (hW : Below w.heap.size w W) => calls15 (A.extract 0 K) (by rw [ByteArray.size_extract]; omega) w.heap.size w W hW hW.size)
  have HKS := hid hK
  have hKi : (K : Int) ≤ A.size := by omega
  have hA6 : (A.size : Int) ≤ 6000 := by omega
  obtain ⟨ln, hln⟩ : ∃ ln, l.length = ln := ⟨_, rfl⟩
  obtain ⟨mn, hmn⟩ : ∃ mn, m.length = mn := ⟨_, rfl⟩
  have HLN := hid hln
  have HMN := hid hmn
  rw [hln] at KA CC hl
  rw [hmn] at CB CC hml
  clear hln hmn
  clear hsz hT CA hB hpc hpB hp hK
  go_enter Tryd.func6, Tryd.ntmps6
  go_wp2_with (first
    | (go_at_call 15; refine KA.out.mono ?_; clear KA; rintro e W1 ⟨a1, c1, rfl, hs1, hc1, hz1, _, hb1⟩; have HB1 := hid hb1; have HS1 := hid hs1; clear hb1 hs1 hz1 hc1)
    | (go_at_call 15; refine (CB.out _ HB1.out).mono ?_; clear CB; rintro e W2 ⟨a2, c2, rfl, hs2, hc2, hz2, hx2, hb2⟩; have HB2 := hid hb2; have HS2 := hid hs2; have HX2 := hid hx2; clear hb2 hs2 hz2 hc2 hx2)
    | (go_at_call 15; refine (CC.out _ HB2.out).mono ?_; clear CC; rintro e W3 ⟨a3, c3, rfl, hs3, hc3, hz3, hx3, hb3⟩; have HB3 := hid hb3; have HS3 := hid hs3; have HX3 := hid hx3; have hc3' : ((ln : Int) + mn) ≤ c3 := by omega
       have hc4 : (ln : Int) ≤ c3 := by omega
       have K14 := hid ((same14 a3 a1 ln c3 ln c1 l l W3 HLN.out HLN.out (by omega) (by omega) hs3.front ((HS1.out.below HX2.out).below hx3)).mono (R' := fun e w' => e = .returned (.bool true) ∧ Below W3.heap.size W3 w') fun e w' q => ⟨by rw [q.1]; simp, q.2⟩)
       have K14b := hid (fun (W4 : World) (h4 : Below W3.heap.size W3 W4) (aa : Option Addr) (cc : Nat) (hsm : Steps W4 aa m) => (same14 aa a2 mn cc mn c2 m m W4 HMN.out HMN.out (by omega) (by omega) hsm ((HS2.out.below hx3).below h4)).mono (R' := fun e w' => e = .returned (.bool true) ∧ Below W4.heap.size W4 w') fun e w' q => ⟨by rw [q.1]; simp, q.2⟩)
       have HSM := hid (hs3.mapped HLN.out)
       have HM0 := hid (show c3 = ln → m = [] from fun h => List.eq_nil_of_length_eq_zero (by rw [HMN.out]; omega))
       clear hb3 hs3 hx3)
    | (go_at_call 14; refine K14.out.mono ?_; clear K14; rintro e W4 ⟨rfl, hb4⟩; have HX4 := hid hb4; clear hb4)
    | (go_at_call 14; refine (K14b.out _ HX4.out _ _ (by first | exact HSM.out.below HX4.out | exact .inl (HM0.out (by omega)))).mono ?_; clear K14b; rintro e W5 ⟨rfl, hb5⟩; have HB5 := hid (HB3.out.trans ((HX4.out.mono HB3.out.size).trans (hb5.mono (Nat.le_trans HB3.out.size HX4.out.size)))); clear hb5))
  all_goals
    try rw [hKw]
    clear hKw
    go_loop [20, 21] (fun lv iv => ∃ i q : Nat, lv = .int .i64 q ∧ iv = .int .i64 i ∧ i ≤ K ∧ q ≤ i ∧ Hid (q = ((Lra.ints A).take i).count 10)) (fun _ iv => K - (intOf iv).toNat)
    case atStart => exact ⟨0, 0, rfl, rfl, Nat.zero_le _, Nat.le_refl _, hid (by simp)⟩
    case round =>
      obtain ⟨i, q, rfl, rfl, hi, hq, HQ⟩ := hrel
      by_cases hlt : i < K
      · have hlt' : (i : Int) < K := by omega
        have hia : i < A.size := by omega
        have hia' : (i : Int) < A.size := by omega
        have HTk := hid (Lra.ints_take A i hia)
        obtain ⟨x, hx⟩ : ∃ x : Int, (A[i].toNat : Int) = x := ⟨_, rfl⟩
        rw [hx] at HTk
        by_cases h10 : x = 10
        · have h10' : (x == 10) = true := by simpa using h10
          have HQ2 := hid (show q + 1 = ((Lra.ints A).take (i + 1)).count 10 by rw [HTk.out, List.count_append, ← HQ.out, h10]; rfl)
          clear h10
          go_wp2
          exact ⟨⟨i + 1, q + 1, by go_num, by go_num, by omega, by omega, HQ2⟩, by simp [intOf]; omega⟩
        · have h10' : (x == 10) = false := by simpa using h10
          have HQ2 := hid (show q = ((Lra.ints A).take (i + 1)).count 10 by rw [HTk.out, List.count_append, ← HQ.out]; simp [h10])
          clear h10
          go_wp2
          exact ⟨⟨i + 1, q, rfl, by go_num, by omega, by omega, HQ2⟩, by simp [intOf]; omega⟩
      · have hlt' : ¬ (i : Int) < K := by omega
        obtain rfl : i = K := by omega
        rcases HKC.out with ⟨h0, m, hm⟩ | ⟨j, hj, hja, h10, m, hm⟩ | ⟨j, hj, hja, h10, hm⟩
        · have KK := hid (fun W hW => ((CK.out W hW).2 m hm).2)
          have h0' : ((i : Int) == 0) = true := by rw [h0]; rfl
          clear CK HKC hm h0
          go_wp2_with (first
            | (go_at_call 15; refine (KK.out _ HB5.out).mono ?_; clear KK; rintro e W7 ⟨a5, c5, rfl, _, _, _, _, hb7⟩; have HB7 := hid hb7; clear hb7)
            | (go_at_call 10; refine (CW.out _ HB7.out).mono ?_; clear CW; rintro e W8 ⟨rfl, hb8⟩; have HB8 := hid hb8; clear hb8))
          go_ret
          exact ⟨rfl, HB8.out⟩
        · have KK := hid (fun W hW => ((CK.out W hW).2 m hm).2)
          clear CK HKC hm
          subst hj
          have hj1 : ¬ ((j : Int) + 1 = 0) := by omega
          have hj2 : (j : Int) < A.size := by omega
          clear hlt hlt' hi
          go_wp2_with (first
            | (go_at_call 15; refine (KK.out _ HB5.out).mono ?_; clear KK; rintro e W7 ⟨a5, c5, rfl, _, _, _, _, hb7⟩; have HB7 := hid hb7; clear hb7)
            | (go_at_call 10; refine (CW.out _ HB7.out).mono ?_; clear CW; rintro e W8 ⟨rfl, hb8⟩; have HB8 := hid hb8; clear hb8))
          go_ret
          exact ⟨rfl, HB8.out⟩
        · have h10' : ((A[j].toNat : Int) == 10) = false := by simpa using h10
          rw [← HQ.out] at hm
          have KK := hid (fun W hW => ((CK.out W hW).1 _ hm).2)
          rw [show ((q + 1 : Nat) : Int) = (q : Int) + 1 from by push_cast; rfl] at KK
          clear CK HKC hm
          subst hj
          have hj1 : ¬ ((j : Int) + 1 = 0) := by omega
          have hj2 : (j : Int) < A.size := by omega
          clear hlt hlt' hi
          go_wp2_with (first
            | (go_at_call 15; refine (KK.out _ HB5.out).mono ?_; clear KK; rintro e W7 ⟨rfl, hb7⟩; have HB7 := hid hb7; clear hb7)
            | (go_at_call 10; refine (CW.out _ HB7.out).mono ?_; clear CW; rintro e W8 ⟨rfl, hb8⟩; have HB8 := hid hb8; clear hb8))
          go_ret
          exact ⟨rfl, HB8.out⟩

theorem law6 (A B : ByteArray) (nn : Int) (w : World) (hT : Tab w.heap.size w) :
    Calls Tryd.prog 6 #[.string A, .string B, .int .i64 nn] w fun e w' => e = .returned (.bool true) ∧ Below w.heap.size w w' := by
  by_cases hA : A.size ≤ 6000
  · by_cases hB : B.size ≤ 6000
    · cases hp : Lra.parse (Lra.ints A) with
      | error k => exact law6_err A B nn w k hA hB hp hT
      | ok l =>
        cases hpB : Lra.parse (Lra.ints B) with
        | error k => exact law6_ok A B nn w l hA hB hp k hpB hT
        | ok m => exact law6_both A B nn w l hA hB hp m hpB hT
    · exact law6_long A B nn w (.inr hB) hT
  · exact law6_long A B nn w (.inl hA) hT
end Go.Proofs.YtdodfmgbjfhnpaaDoor
