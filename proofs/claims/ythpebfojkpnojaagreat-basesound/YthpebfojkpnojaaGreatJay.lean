/- Whether the k-th model makes the formula true, by its table. -/
import Derived.Test.YthpebfojkpnojaaGreatJax
/- Whether the k-th model makes the formula true, by its table. -/
namespace Tru
theorem allH_take (os : List (Nat × Nat)) (k j : Nat) (h : j < os.length) : allH (os.take (j + 1)) k = (allH (os.take j) k && mh os.toArray[j]! k) := by
  unfold allH
  rw [show os.take (j + 1) = os.take j ++ [os.toArray[j]!] by rw [List.take_add_one]; simp [h], List.all_append]
  simp
theorem allH_false (os : List (Nat × Nat)) (k j : Nat) (h : j < os.length) (hm : mh os.toArray[j]! k = false) : allH os k = false := by
  unfold allH
  rw [List.all_eq_false]
  exact ⟨os.toArray[j]!, by rw [getElem!_pos os.toArray j (by simpa using h)]; simp, by rw [hm]; simp⟩
end Tru
namespace Go.Proofs.YthpebfojkpnojaaGreat.Tr
open Go.RowKit Go.Lib Go.Sort Go.Shelf
set_option linter.unusedVariables false
set_option linter.unusedSimpArgs false

/-- What is open is asked, and how the table stands then. -/
def HoldsOut (T g cap k : Nat) (ms : List (Nat × Nat)) (w : World) (e : Ending) (w' : World) : Prop := e = .returned (.bool (Tru.allH ms k)) ∧ Tab T g cap ms ((k / 256 : Nat) : Int) w' ∧ Below T w w'

theorem Tab.on {T g cap : Nat} {ms : List (Nat × Nat)} {bb : Int} {W W' : World} (h : Tab T g cap ms bb W) (hb : Below W.heap.size W W') : Tab T g cap ms bb W' := by
  obtain ⟨o, no, cap2, os, hT, hg, hH, hos, hno, hown, hop⟩ := h
  have hTs := (Array.getElem?_eq_some_iff.1 hT).1
  exact ⟨o, no, cap2, os, (hb.block T hTs).trans hT, hg, HoldsK.under hH (hb.mono (Nat.le_of_lt hTs)) hg, hos, hno, own_below hown hb, hop⟩
theorem own_masks2 {base : Nat} {W : World} {o : Option Addr} {cap n j : Nat} {os : List (Nat × Nat)} (hn : os.length = n) (h : W.ownsRow base 122 2 (.slice o n cap) n (flatM os)) (hj : j < n) : ∃ b, o = some ⟨b, 0, none⟩ ∧ b < W.heap.size ∧ W.cell? ⟨b, j * 2, none⟩ = some (.int .u32 os.toArray[j]!.1) ∧ W.cell? ⟨b, j * 2 + 1, none⟩ = some (.int .u32 os.toArray[j]!.2) := by
  rcases h.2 with ⟨e, h0⟩ | ⟨g', cap', cur, e, h1⟩
  · omega
  · injection e with e1 e2 e3
    subst e1 e3
    obtain ⟨q1, q2, q3, q4⟩ := own_masks hn h
    have := rowM q1 j (by simpa [hn] using hj)
    simp only [Nat.zero_add] at this
    exact ⟨g', rfl, q2, this.1, this.2.1⟩

set_option maxRecDepth 100000 in
set_option maxHeartbeats 8000000 in
theorem holds22 (T g cap k : Nat) (ms : List (Nat × Nat)) (bb : Int) (w : World) (hk : k < 65536) (hN : ms.length ≤ 1048576) (hsm : ∀ p ∈ ms, Tru.small p) (h : Tab T g cap ms bb w) :
    Calls Tryz.prog 75 #[.pointer (some ⟨T, 0, none⟩), .int .i64 k] w fun e w' => HoldsOut T g cap k ms w e w' := by
  have H := hid h
  have HSM := hid hsm
  obtain ⟨o, no, cap2, os, hT, g1, g2, g3, g4, g5, hop⟩ := h
  have h2 := row_cell hT 2
  simp only [List.getElem?_toArray, List.getElem?_cons_zero, List.getElem?_cons_succ] at h2
  have HK := hid hk
  obtain ⟨B, hB⟩ : ∃ B, k / 256 = B := ⟨_, rfl⟩
  have hdiv : ((k : Int) / 256) = (B : Int) := by omega
  have C42 := hid (enter42 T g cap B ms bb w (by omega) hN hsm H.out)
  have HB := hid hB
  clear hT hsm hop g1 g2 g3 g4 g5 hB
  have HKK := hid (rfl : (k : Int) = k)
  obtain ⟨K, hK⟩ : ∃ K : Int, K = k := ⟨_, rfl⟩
  rw [← hK] at hdiv ⊢
  clear HKK
  have HKK := hid hK
  clear hK
  by_cases hbb : bb = (B : Int)
  · subst hbb
    clear C42
    have HTT := H
    obtain ⟨o, no, cap2, os, hT, g1, g2, g3, g4, g5, hop⟩ := H.out
    have hoo := hop (by omega)
    rw [Int.toNat_natCast] at hoo
    have HAL := hid (show Tru.allH os k = Tru.allH ms k by rw [hoo, ← HB.out]; exact Tru.allH_open ms k HSM.out)
    have HSO := hid (show ∀ p ∈ os, Tru.small p from fun p hp => HSM.out p (by rw [hoo] at hp; exact (List.mem_filter.1 hp).1))
    have t1 := row_cell hT 1
    simp only [List.getElem?_toArray, List.getElem?_cons_zero, List.getElem?_cons_succ] at t1
    have hTs := (Array.getElem?_eq_some_iff.1 hT).1
    have HTs := hid hTs
    have hno2 : no ≤ 1048576 := Nat.le_trans g4 hN
    have HOS := hid g3
    have HOW := hid g5
    clear hT hop hoo g1 g2 g3 g4 g5 hTs
    go_enter Tryz.func75, Tryz.ntmps75
    go_wp2
    clear t1 h2 hdiv
    go_loopw [23] (fun i wr => ∃ j : Nat, j ≤ no ∧ i = .int .i64 j ∧ Hid (Tru.allH (os.take j) k = true) ∧ Hid (Below w.heap.size w wr)) (fun i _ => no - (intOf i).toNat)
    case atStart => exact ⟨0, Nat.zero_le _, rfl, hid rfl, hid (Below.refl _ _)⟩
    case round =>
      obtain ⟨j, hj, rfl, HA, HB2⟩ := hrel
      by_cases hlt : j < no
      · have hlt' : (j : Int) < no := by omega
        obtain ⟨b1, rfl, hb1, a0, a1⟩ := own_masks2 HOS.out HOW.out hlt
        have c0 := (HB2.out.cell (p := ⟨b1, j * 2, none⟩) hb1).trans a0
        have c1 := (HB2.out.cell (p := ⟨b1, j * 2 + 1, none⟩) hb1).trans a1
        clear a0 a1
        have hl : j < os.length := by rw [HOS.out]; exact hlt
        have hsp : Tru.small os.toArray[j]! := by
          rw [getElem!_pos os.toArray j (by simpa using hl)]
          exact HSO.out _ (by simp)
        have HTk := hid (Tru.allH_take os k j hl)
        have HF := hid (Tru.allH_false os k j hl)
        generalize os.toArray[j]! = p at c0 c1 hsp HTk HF
        obtain ⟨p, q⟩ := p
        simp only at c0 c1
        have C29 := hid (fun (W : World) => mholds29 p q k W hsp.1 hsp.2 HK.out)
        rw [← HKK.out] at C29
        generalize hal : Tru.mh (p, q) k = r at C29 HTk HF
        clear hal hl
        cases r
        · go_wp2_with (go_at_call 76; refine (C29.out _).mono ?_; clear C29; rintro e w9 ⟨rfl, hw9⟩; have HW9 := hid hw9; clear hw9)
          go_ret
          have h9 := HB2.out.trans ((box_below wr _ HW9.out).mono HB2.out.size)
          exact ⟨by rw [← HAL.out, HF.out (by first | trivial | rfl)]; rfl, by rw [HB.out]; exact HTT.out.on h9, h9.mono (Nat.le_of_lt HTs.out)⟩
        · go_wp2_with (go_at_call 76; refine (C29.out _).mono ?_; clear C29; rintro e w9 ⟨rfl, hw9⟩; have HW9 := hid hw9; clear hw9)
          have H9 := hid (HB2.out.trans ((box_below wr _ HW9.out).mono HB2.out.size))
          go_roundw
          case rel => exact ⟨j + 1, by omega, by go_num, hid (by rw [HTk.out, HA.out]; rfl), H9⟩
          case measure => simp [intOf]; omega
      · have hge : ¬ (j : Int) < no := by omega
        obtain rfl : j = no := by omega
        go_wp2
        go_ret
        have h9 := HB2.out
        exact ⟨by rw [← HAL.out, ← List.take_of_length_le (l := os) (i := j) (by rw [HOS.out]; exact Nat.le_refl _), HA.out]; rfl, by rw [HB.out]; exact HTT.out.on h9, h9.mono (Nat.le_of_lt HTs.out)⟩
  · have hne : (bb == (B : Int)) = false := by simpa using hbb
    go_enter Tryz.func75, Tryz.ntmps75
    go_wp2_with (go_at_call 108; refine C42.out.mono ?_; clear C42; rintro e w8 ⟨rfl, ht8, hw8⟩; have HW8 := hid hw8; have HTT := hid ht8
                 obtain ⟨o, no, cap2, os, hT, g1, g2, g3, g4, g5, hop⟩ := ht8
                 clear hw8
                 have hoo := hop (by omega)
                 rw [Int.toNat_natCast] at hoo
                 have HAL := hid (show Tru.allH os k = Tru.allH ms k by rw [hoo, ← HB.out]; exact Tru.allH_open ms k HSM.out)
                 have HSO := hid (show ∀ p ∈ os, Tru.small p from fun p hp => HSM.out p (by rw [hoo] at hp; exact (List.mem_filter.1 hp).1))
                 have t1 := row_cell hT 1
                 simp only [List.getElem?_toArray, List.getElem?_cons_zero, List.getElem?_cons_succ] at t1
                 have hTs := (Array.getElem?_eq_some_iff.1 hT).1
                 have HTs := hid hTs
                 have hno2 : no ≤ 1048576 := Nat.le_trans g4 hN
                 have HOS := hid g3
                 have HOW := hid g5
                 clear hT hop hoo g1 g2 g3 g4 g5 hTs)
    clear t1 h2 hdiv
    go_loopw [23] (fun i wr => ∃ j : Nat, j ≤ no ∧ i = .int .i64 j ∧ Hid (Tru.allH (os.take j) k = true) ∧ Hid (Below w8.heap.size w8 wr)) (fun i _ => no - (intOf i).toNat)
    case atStart => exact ⟨0, Nat.zero_le _, rfl, hid rfl, hid (Below.refl _ _)⟩
    case round =>
      obtain ⟨j, hj, rfl, HA, HB2⟩ := hrel
      by_cases hlt : j < no
      · have hlt' : (j : Int) < no := by omega
        obtain ⟨b1, rfl, hb1, a0, a1⟩ := own_masks2 HOS.out HOW.out hlt
        have c0 := (HB2.out.cell (p := ⟨b1, j * 2, none⟩) hb1).trans a0
        have c1 := (HB2.out.cell (p := ⟨b1, j * 2 + 1, none⟩) hb1).trans a1
        clear a0 a1
        have hl : j < os.length := by rw [HOS.out]; exact hlt
        have hsp : Tru.small os.toArray[j]! := by
          rw [getElem!_pos os.toArray j (by simpa using hl)]
          exact HSO.out _ (by simp)
        have HTk := hid (Tru.allH_take os k j hl)
        have HF := hid (Tru.allH_false os k j hl)
        generalize os.toArray[j]! = p at c0 c1 hsp HTk HF
        obtain ⟨p, q⟩ := p
        simp only at c0 c1
        have C29 := hid (fun (W : World) => mholds29 p q k W hsp.1 hsp.2 HK.out)
        rw [← HKK.out] at C29
        generalize hal : Tru.mh (p, q) k = r at C29 HTk HF
        clear hal hl
        cases r
        · go_wp2_with (go_at_call 76; refine (C29.out _).mono ?_; clear C29; rintro e w9 ⟨rfl, hw9⟩; have HW9 := hid hw9; clear hw9)
          go_ret
          have h9 := HB2.out.trans ((box_below wr _ HW9.out).mono HB2.out.size)
          exact ⟨by rw [← HAL.out, HF.out (by first | trivial | rfl)]; rfl, by rw [HB.out]; exact HTT.out.on h9, HW8.out.trans (h9.mono (Nat.le_of_lt HTs.out))⟩
        · go_wp2_with (go_at_call 76; refine (C29.out _).mono ?_; clear C29; rintro e w9 ⟨rfl, hw9⟩; have HW9 := hid hw9; clear hw9)
          have H9 := hid (HB2.out.trans ((box_below wr _ HW9.out).mono HB2.out.size))
          go_roundw
          case rel => exact ⟨j + 1, by omega, by go_num, hid (by rw [HTk.out, HA.out]; rfl), H9⟩
          case measure => simp [intOf]; omega
      · have hge : ¬ (j : Int) < no := by omega
        obtain rfl : j = no := by omega
        go_wp2
        go_ret
        have h9 := HB2.out
        exact ⟨by rw [← HAL.out, ← List.take_of_length_le (l := os) (i := j) (by rw [HOS.out]; exact Nat.le_refl _), HA.out]; rfl, by rw [HB.out]; exact HTT.out.on h9, HW8.out.trans (h9.mono (Nat.le_of_lt HTs.out))⟩
end Go.Proofs.YthpebfojkpnojaaGreat.Tr

