/- same; calls of a nil queue. -/
import Derived.Test.YtjnifadfcnpdoaaSof
namespace Go.Proofs.Ytjnifadfcnpdoaa
open Go.RowKit Go.Maps Go.Shelf
set_option linter.unusedVariables false
set_option maxRecDepth 100000

theorem take_eq {xs ys : List Int} {k : Nat} (h1 : k < xs.length) (h2 : k < ys.length) (h : xs.take k = ys.take k) (e : xs.getD k 0 = ys.getD k 0) : xs.take (k + 1) = ys.take (k + 1) := by
  rw [take_snocI xs h1, take_snocI ys h2, h, e]
set_option maxHeartbeats 2000000 in
theorem same22 {W : World} {a b : Option Addr} {c d : Nat} {xs ys : List Int} (h1 : Iw W a xs) (h2 : Iw W b ys) (h8 : xs.length ≤ 4611686018427387904) (h9 : ys.length ≤ 4611686018427387904) :
    Calls Try.prog 22 #[.slice a xs.length c, .slice b ys.length d] W fun e w' => e = .returned (.bool (decide (xs = ys))) ∧ Drawn W w' := by
  by_cases hl : xs.length = ys.length
  · rcases Nat.eq_zero_or_pos xs.length with h0 | h0
    · have e1 := List.length_eq_zero_iff.1 h0
      have e2 := List.length_eq_zero_iff.1 (hl ▸ h0)
      subst e1 e2
      clear h1 h2
      have hE := hid (show decide (([] : List Int) = []) = true from rfl)
      rw [hE.out]
      go_enter Try.func22, Try.ntmps22
      go_wp2
      go_loopw [5] (fun i wr => i = .int .i64 0 ∧ wr = W) (fun _ _ => 0)
      case atStart => exact ⟨rfl, rfl⟩
      case round =>
        obtain ⟨rfl, hw⟩ := hrel
        rw [hw]
        clear hw
        go_wp2
        go_ret
        exact ⟨rfl, Drawn.refl _⟩
    · obtain ⟨b1, o1, rfl⟩ := h1.blk h0
      obtain ⟨b2, o2, rfl⟩ := h2.blk (by omega)
      have H1 := hid (fun (k : Nat) (hk : k < xs.length) => h1.at hk)
      have H2 := hid (fun (k : Nat) (hk : k < ys.length) => h2.at hk)
      obtain ⟨t, ht⟩ : ∃ t, xs.length = t := ⟨_, rfl⟩
      have HT := hid ht
      have HU := hid (show ys.length = t by omega)
      have h8' := hid h8
      rw [ht, HU.out]
      obtain ⟨D, hD⟩ : ∃ D, decide (xs = ys) = D := ⟨_, rfl⟩
      have HD := hid hD
      rw [hD]
      clear h1 h2 hl ht h8 h9 h0 hD
      go_enter Try.func22, Try.ntmps22
      go_wp2
      go_loopw [5] (fun i wr => ∃ k : Nat, k ≤ t ∧ i = .int .i64 (k : Nat) ∧ Hid (xs.take k = ys.take k) ∧ Hid (Drawn W wr)) (fun i _ => t - (intOf i).toNat)
      case atStart => exact ⟨0, Nat.zero_le _, rfl, hid rfl, hid (Drawn.refl _)⟩
      case round =>
        obtain ⟨k, hkt, rfl, HR, HW⟩ := hrel
        by_cases hlt : k < t
        · have hlt' : (k : Int) < t := by omega
          have hwk : wrap64 ((k : Int) + 1) = (k : Int) + 1 := by have := h8'.out; have := HT.out; unfold wrap64; omega
          have hk1 : k < xs.length := by rw [HT.out]; exact hlt
          have hk2 : k < ys.length := by rw [HU.out]; exact hlt
          have x1 : wr.cell? ⟨b1, o1 + k, none⟩ = some (.int .i64 (xs.getD k 0)) := by obtain ⟨q, hq⟩ := HW.out; rw [hq]; exact H1.out k hk1
          have x2 : wr.cell? ⟨b2, o2 + k, none⟩ = some (.int .i64 (ys.getD k 0)) := by obtain ⟨q, hq⟩ := HW.out; rw [hq]; exact H2.out k hk2
          by_cases he : xs.getD k 0 = ys.getD k 0
          · have HN := hid (take_eq hk1 hk2 HR.out he)
            rw [he] at x1
            generalize ys.getD k 0 = v at *
            have hb : (v != v) = false := by simp
            clear he hk1 hk2
            go_wp2_with (fail)
            go_quiet (fail)
            have HW2 := hid (HW.out.drewN nq)
            go_wp2_with (fail)
            exact ⟨⟨k + 1, hlt, by rw [hwk]; rfl, HN, HW2⟩, by rw [hwk]; simp only [intOf]; exact meas hlt⟩
          · have hE := hid (show D = false from HD.out ▸ decide_eq_false (fun e => he (by rw [e])))
            generalize xs.getD k 0 = v at *
            generalize ys.getD k 0 = u at *
            have hb : (v != u) = true := by simpa using he
            clear he hk1 hk2
            go_wp2_with (fail)
            go_quiet (fail)
            have HW2 := hid (HW.out.drewN nq)
            go_wp2
            go_ret
            exact ⟨by rw [hE.out]; rfl, HW2.out⟩
        · have hge : ¬ (k : Int) < t := by omega
          have hE := hid (show D = true from HD.out ▸ decide_eq_true (by
            have := HR.out
            rw [List.take_of_length_le (by rw [HT.out]; omega), List.take_of_length_le (by rw [HU.out]; omega)] at this
            exact this))
          clear HR
          go_wp2
          go_ret
          exact ⟨by rw [hE.out]; rfl, HW.out⟩
  · have hE := hid (show decide (xs = ys) = false from decide_eq_false (fun e => hl (by rw [e])))
    rw [hE.out]
    generalize xs.length = n at *
    generalize ys.length = m at *
    have hb : ((n : Int) != (m : Int)) = true := by rw [bne_iff_ne]; omega
    clear h1 h2 hl
    go_enter Try.func22, Try.ntmps22
    go_wp2
    go_ret
    exact ⟨rfl, Drawn.refl _⟩
theorem own_iw {W : World} {base n : Nat} {o : Option Addr} {c : Nat} {L : List Nat} (h : W.ownsRow base 3 1 (.slice o n c) n (inn L)) : Iw W o (L.map (fun v : Nat => (v : Int))) := by
  have hl := inn_len h
  rcases Nat.eq_zero_or_pos n with h0 | h0
  · left; rw [List.eq_nil_of_length_eq_zero (hl.trans h0)]; rfl
  · obtain ⟨g, c', cur, e, _⟩ := own_some h h0
    cases e
    refine .inr ⟨g, 0, rfl, fun j hj => ?_⟩
    rw [List.length_map] at hj
    rw [Nat.zero_add, (own_cell h (by omega)).1, inn_at hj]
    congr 2
    rw [List.getD_eq_getElem?_getD, List.getD_eq_getElem?_getD, List.getElem?_map, List.getElem?_eq_getElem hj]
    rfl
theorem size23_nil (W : World) : Calls Try.prog 23 #[.pointer none] W fun e w' => e = .returned (.int .i64 0) ∧ w' = W := by
  go_enter Try.func23, Try.ntmps23
  go_wp2
  go_ret
  exact ⟨rfl, rfl⟩
theorem next21_nil (o : Option Addr) (l c : Nat) (W : World) : Calls Try.prog 21 #[.pointer none, .slice o l c] W fun e w' => e = .returned (.tuple #[.int .i64 0, .bool false]) ∧ Below W.heap.size W w' := by
  have HB := hid (below_box W (.cells #[.slice o l c] 33))
  have CZ := hid (size23_nil)
  go_enter Try.func21, Try.ntmps21
  go_wp2_with (fail)
  go_at_call 23
  refine (CZ.out _).mono ?_
  rintro e w4 ⟨rfl, hw4⟩
  rw [hw4]
  clear hw4
  go_wp2
  go_ret2
  exact ⟨rfl, HB.out⟩
theorem order16_nil (W : World) : Calls Try.prog 16 #[.pointer none] W fun e w' => e = .returned (.slice none 0 0) ∧ w' = W := by
  have CZ := hid (size23_nil W)
  go_enter Try.func16, Try.ntmps16
  go_wp2_with (go_at_call 23; refine CZ.out.mono ?_; rintro e w4 ⟨rfl, hw4⟩; rw [hw4]; clear hw4)
  go_ret
  exact ⟨rfl, rfl⟩
theorem stamp18_nil (W : World) : Calls Try.prog 18 #[.pointer none, .int .i64 1] W fun e w' => e = .returned (.int .i64 0) ∧ w' = W := by
  have CZ := hid (size23_nil W)
  have C30 : Calls Try.prog 30 #[.pointer none, .int .i64 1] W fun e w' => e = .returned (.bool false) ∧ w' = W := by
    go_enter Try.func30, Try.ntmps30
    go_wp2_with (go_at_call 23; refine CZ.out.mono ?_; rintro e w4 ⟨rfl, hw4⟩; rw [hw4]; clear hw4)
    go_ret
    exact ⟨rfl, rfl⟩
  have HC := hid C30
  clear C30
  go_enter Try.func18, Try.ntmps18
  go_wp2_with (go_at_call 30; refine HC.out.mono ?_; rintro e w4 ⟨rfl, hw4⟩; rw [hw4]; clear hw4)
  go_ret
  exact ⟨rfl, rfl⟩
theorem copy12_nil (W : World) : Calls Try.prog 12 #[.pointer none] W fun e w' => e = .returned (.pointer none) ∧ w' = W := by
  go_enter Try.func12, Try.ntmps12
  go_wp2
  go_ret
  exact ⟨rfl, rfl⟩
end Go.Proofs.Ytjnifadfcnpdoaa
