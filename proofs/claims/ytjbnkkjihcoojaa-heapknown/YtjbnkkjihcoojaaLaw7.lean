/- HeapKnown: the examples. -/
import Derived.Test.YtjbnkkjihcoojaaWrk
namespace Go.Proofs.Ytjbnkkjihcoojaa
open Go.RowKit Go.Maps
set_option linter.unusedVariables false
set_option maxRecDepth 100000

theorem four_row (W : World) (x y z t : Nat) : (W.alloc (.cells #[.int .i64 ((x : Int) + 1), .int .i64 ((y : Int) + 1), .int .i64 ((z : Int) + 1), .int .i64 ((t : Int) + 1)] 3)).ownsRow 0 3 1 (.slice (some ⟨W.heap.size, 0, none⟩) 4 4) 4 (ivs [x, y, z, t]) :=
  own_mk (Nat.zero_le _) (heap_alloc_new W _) (Nat.le_refl _) (by unfold maxLen; omega) rfl rfl
def tb : Nat → List Nat
  | 0 => []
  | 1 => [0]
  | 2 => [1, 0]
  | 3 => [1, 0, 2]
  | _ => [1, 0, 2, 3]
theorem tb_no {k : Nat} (h : k < 4) : k ∉ tb k := by
  have : k = 0 ∨ k = 1 ∨ k = 2 ∨ k = 3 := by omega
  rcases this with rfl | rfl | rfl | rfl <;> decide
theorem tb_ins {k : Nat} (h : k < 4) : Hpp.ins [0, 1073741824, 0, 0] k (tb k) = tb (k + 1) := by
  have : k = 0 ∨ k = 1 ∨ k = 2 ∨ k = 3 := by omega
  rcases this with rfl | rfl | rfl | rfl <;> decide
set_option maxHeartbeats 8000000 in
theorem law7 (W : World) : Calls Try.prog 7 #[] W fun e w' => e = .returned (.bool true) ∧ Below W.heap.size W w' := by
  have C0 := hid (HxN.new 4 W (by omega))
  rw [show ((4 : Nat) : Int) = 4 from rfl] at C0
  have Z := hid (show zer 4 = [0, 0, 0, 0] from rfl)
  rw [Z.out] at C0
  clear Z
  go_enter Try.func7, Try.ntmps7
  go_wp2_with (fail)
  go_at_call 10
  refine C0.out.mono ?_
  rintro e w0 ⟨hb, rfl, hx⟩
  have H0 := hid hx
  clear hx C0
  have C1 := hid (H0.out.push (u := 2) (by omega) (by decide) [2] (by decide))
  rw [show (((2 : Nat) : Int) + 1) = 3 from rfl] at C1
  clear H0
  go_wp2_with (fail)
  go_at_call 16
  refine C1.out.mono ?_
  rintro e w1 ⟨rfl, hx⟩
  have H1 := hid hx
  clear hx C1
  have C2 := hid (H1.out.push (u := 0) (by omega) (by decide) [0, 2] (by decide))
  rw [show (((0 : Nat) : Int) + 1) = 1 from rfl] at C2
  clear H1
  go_wp2_with (fail)
  go_at_call 16
  refine C2.out.mono ?_
  rintro e w2 ⟨rfl, hx⟩
  have H2 := hid hx
  clear hx C2
  have C3 := hid (push16_in H2.out.1 (u := 2) (by omega) (by decide))
  rw [show (((2 : Nat) : Int) + 1) = 3 from rfl] at C3
  go_wp2_with (fail)
  go_at_call 16
  refine C3.out.mono ?_
  rintro e v3 ⟨rfl, hv3⟩
  rw [hv3]
  clear hv3 C3
  have C4 := hid (push16_no H2.out.1 5 (by omega))
  go_wp2_with (fail)
  go_at_call 16
  refine C4.out.mono ?_
  rintro e v4 ⟨rfl, hv4⟩
  rw [hv4]
  clear hv4 C4
  have C5 := hid (push16_no H2.out.1 0 (by omega))
  go_wp2_with (fail)
  go_at_call 16
  refine C5.out.mono ?_
  rintro e v5 ⟨rfl, hv5⟩
  rw [hv5]
  clear hv5 C5
  have C6 := hid (remove18_out H2.out.1 (u := 1) (by omega) (by decide))
  rw [show (((1 : Nat) : Int) + 1) = 2 from rfl] at C6
  go_wp2_with (fail)
  go_at_call 18
  refine C6.out.mono ?_
  rintro e v6 ⟨rfl, hv6⟩
  rw [hv6]
  clear hv6 C6
  have C7 := hid (remove18_no H2.out.1 5 (by omega))
  go_wp2_with (fail)
  go_at_call 18
  refine C7.out.mono ?_
  rintro e v7 ⟨rfl, hv7⟩
  rw [hv7]
  clear hv7 C7
  have C8 := hid (H2.out.bump (u := 2) (by omega) 5 (by omega) (by omega) (by decide) [0, 0, 5, 0] [2, 0] (by decide) (by decide))
  rw [show (((2 : Nat) : Int) + 1) = 3 from rfl] at C8
  clear H2
  go_wp2_with (fail)
  go_at_call 19
  refine C8.out.mono ?_
  rintro e w8 ⟨rfl, hx⟩
  have H8 := hid hx
  clear hx C8
  have C9 := hid (H8.out.pop)
  rw [show (((2 : Nat) : Int) + 1) = 3 from rfl] at C9
  clear H8
  go_wp2_with (fail)
  go_at_call 17
  refine C9.out.mono ?_
  rintro e w9 ⟨rfl, hx⟩
  have H9 := hid hx
  clear hx C9
  have C10 := hid (H9.out.pop)
  rw [show (((0 : Nat) : Int) + 1) = 1 from rfl] at C10
  clear H9
  go_wp2_with (fail)
  go_at_call 17
  refine C10.out.mono ?_
  rintro e w10 ⟨rfl, hx⟩
  have H10 := hid hx
  clear hx C10
  have C11 := hid (pop17_no H10.out.1)
  go_wp2_with (fail)
  go_at_call 17
  refine C11.out.mono ?_
  rintro e v11 ⟨rfl, hv11⟩
  rw [hv11]
  clear hv11 C11
  have C12 := hid (H10.out.bump (u := 1) (by omega) 1152921504606846976 (by omega) (by omega) (by decide) [0, 1152921504606846976, 5, 0] [] (by decide) (by decide))
  rw [show (((1 : Nat) : Int) + 1) = 2 from rfl] at C12
  clear H10
  go_wp2_with (fail)
  go_at_call 19
  refine C12.out.mono ?_
  rintro e w12 ⟨rfl, hx⟩
  have H12 := hid hx
  clear hx C12
  have C13 := hid (H12.out.bumpH (u := 1) (by omega) 1 (by omega) (by omega) (by decide) [0, 1073741824, 0, 0] [] (by decide) (by decide))
  rw [show (((1 : Nat) : Int) + 1) = 2 from rfl] at C13
  clear H12
  go_wp2_with (fail)
  go_at_call 19
  refine C13.out.mono ?_
  rintro e w13 ⟨rfl, hx⟩
  have H13 := hid hx
  clear hx C13
  have C14 := hid (bump19_by H13.out.1 (u := 1) (by omega) (-1) (by omega))
  rw [show (((1 : Nat) : Int) + 1) = 2 from rfl] at C14
  go_wp2_with (fail)
  go_at_call 19
  refine C14.out.mono ?_
  rintro e v14 ⟨rfl, hv14⟩
  rw [hv14]
  clear hv14 C14
  have C15 := hid (bump19_by H13.out.1 (u := 1) (by omega) 1152921504606846977 (by omega))
  rw [show (((1 : Nat) : Int) + 1) = 2 from rfl] at C15
  go_wp2_with (fail)
  go_at_call 19
  refine C15.out.mono ?_
  rintro e v15 ⟨rfl, hv15⟩
  rw [hv15]
  clear hv15 C15
  have C16 := hid (bump19_no H13.out.1 5 1 (by omega))
  go_wp2_with (fail)
  go_at_call 19
  refine C16.out.mono ?_
  rintro e v16 ⟨rfl, hv16⟩
  rw [hv16]
  clear hv16 C16
  have C17 := hid ((score23_ok H13.out.1 (u := 1) (by omega)).mono fun e w' h => (show e = .returned (.int .i64 1073741824) ∧ _ from ⟨h.1, H13.out.below h.2.below⟩))
  rw [show (((1 : Nat) : Int) + 1) = 2 from rfl] at C17
  clear H13
  go_wp2_with (fail)
  go_at_call 23
  refine C17.out.mono ?_
  rintro e w17 ⟨rfl, hx⟩
  have H17 := hid hx
  clear hx C17
  have C18 := hid ((score23_ok H17.out.1 (u := 2) (by omega)).mono fun e w' h => (show e = .returned (.int .i64 0) ∧ _ from ⟨h.1, H17.out.below h.2.below⟩))
  rw [show (((2 : Nat) : Int) + 1) = 3 from rfl] at C18
  clear H17
  go_wp2_with (fail)
  go_at_call 23
  refine C18.out.mono ?_
  rintro e w18 ⟨rfl, hx⟩
  have H18 := hid hx
  clear hx C18
  have C19 := hid (score23_no H18.out.1 0 (by omega))
  go_wp2_with (fail)
  go_at_call 23
  refine C19.out.mono ?_
  rintro e v19 ⟨rfl, hv19⟩
  rw [hv19]
  clear hv19 C19
  have C20 := hid (score23_no H18.out.1 9 (by omega))
  go_wp2_with (fail)
  go_at_call 23
  refine C20.out.mono ?_
  rintro e v20 ⟨rfl, hv20⟩
  rw [hv20]
  clear hv20 C20
  go_wp2_with (fail)
  go_loopw [22] (fun vv wr => ∃ k : Nat, k ≤ 4 ∧ vv = .int .i64 ((k : Int) + 1) ∧ Hid (HxN W hb 4 [0, 1073741824, 0, 0] (tb k) wr)) (fun vv _ => 6 - (intOf vv).toNat)
  case atStart => exact ⟨0, by omega, by go_num, H18⟩
  case round =>
    obtain ⟨k, hk, rfl, HR⟩ := hrel
    clear H18
    by_cases hlt : k < 4
    · have hlt' : (k : Int) + 1 ≤ 4 := by omega
      have CP := hid (HR.out.push (u := k) hlt (tb_no hlt) (tb (k + 1)) (tb_ins hlt))
      go_wp2_with (go_at_call 16; refine CP.out.mono ?_; rintro e w3 ⟨rfl, hx⟩; have HX := hid hx; clear hx)
      go_roundw
      case rel => exact ⟨k + 1, by omega, by go_num, HX⟩
      case measure => simp only [intOf]; omega
    · obtain rfl : k = 4 := by omega
      have HF := hid (show HxN W hb 4 [0, 1073741824, 0, 0] [1, 0, 2, 3] wr from HR.out)
      clear HR hlt hk
      rw [show (((4 : Nat) : Int) + 1) = 5 from rfl]
      have C21 := hid (HF.out.bump (u := 0) (by omega) 5 (by omega) (by omega) (by decide) [5, 1073741824, 0, 0] [1, 0, 2, 3] (by decide) (by decide))
      rw [show (((0 : Nat) : Int) + 1) = 1 from rfl] at C21
      clear HF
      go_wp2_with (fail)
      go_at_call 19
      refine C21.out.mono ?_
      rintro e w21 ⟨rfl, hx⟩
      have H21 := hid hx
      clear hx C21
      have C22 := hid (H21.out.bump (u := 3) (by omega) 7 (by omega) (by omega) (by decide) [5, 1073741824, 0, 7] [1, 3, 0, 2] (by decide) (by decide))
      rw [show (((3 : Nat) : Int) + 1) = 4 from rfl] at C22
      clear H21
      go_wp2_with (fail)
      go_at_call 19
      refine C22.out.mono ?_
      rintro e w22 ⟨rfl, hx⟩
      have H22 := hid hx
      clear hx C22
      have C23 := hid (H22.out.order (sorts_few (by decide)))
      rw [show ([1, 3, 0, 2] : List Nat).length = 4 from rfl] at C23
      clear H22
      go_wp2_with (fail)
      go_at_call 20
      refine C23.out.mono ?_
      rintro e w23 ⟨o23, c23, rfl, ho23, hx23⟩
      have hr23 := four_row w23 1 3 0 2
      rw [show (((0 : Nat) : Int) + 1) = 1 from rfl, show (((1 : Nat) : Int) + 1) = 2 from rfl, show (((2 : Nat) : Int) + 1) = 3 from rfl, show (((3 : Nat) : Int) + 1) = 4 from rfl] at hr23
      have hbx23 := below_box w23 (.cells #[.int .i64 2, .int .i64 4, .int .i64 1, .int .i64 3] 3)
      have D23 := hid (same24 (own_below ho23 hbx23) hr23 (by omega))
      rw [show decide (([1, 3, 0, 2] : List Nat) = [1, 3, 0, 2]) = true by decide] at D23
      have H23 := hid (hx23.below hbx23)
      clear C23 hx23 ho23 hr23 hbx23
      go_wp2_with (fail)
      go_at_call 24
      refine D23.out.mono ?_
      rintro e x23 ⟨rfl, hd23⟩
      have H230 := hid (H23.out.below hd23.below)
      clear D23 hd23 H23
      have C24 := hid (H230.out.bump (u := 2) (by omega) 1152921504606846976 (by omega) (by omega) (by decide) [5, 1073741824, 1152921504606846976, 7] [2, 1, 3, 0] (by decide) (by decide))
      rw [show (((2 : Nat) : Int) + 1) = 3 from rfl] at C24
      clear H230
      go_wp2_with (fail)
      go_at_call 19
      refine C24.out.mono ?_
      rintro e w24 ⟨rfl, hx⟩
      have H24 := hid hx
      clear hx C24
      have C25 := hid (H24.out.bumpH (u := 2) (by omega) 1 (by omega) (by omega) (by decide) [0, 1, 1073741824, 0] [2, 1, 0, 3] (by decide) (by decide))
      rw [show (((2 : Nat) : Int) + 1) = 3 from rfl] at C25
      clear H24
      go_wp2_with (fail)
      go_at_call 19
      refine C25.out.mono ?_
      rintro e w25 ⟨rfl, hx⟩
      have H25 := hid hx
      clear hx C25
      have C26 := hid ((score23_ok H25.out.1 (u := 1) (by omega)).mono fun e w' h => (show e = .returned (.int .i64 1) ∧ _ from ⟨h.1, H25.out.below h.2.below⟩))
      rw [show (((1 : Nat) : Int) + 1) = 2 from rfl] at C26
      clear H25
      go_wp2_with (fail)
      go_at_call 23
      refine C26.out.mono ?_
      rintro e w26 ⟨rfl, hx⟩
      have H26 := hid hx
      clear hx C26
      have C27 := hid (H26.out.order (sorts_few (by decide)))
      rw [show ([2, 1, 0, 3] : List Nat).length = 4 from rfl] at C27
      clear H26
      go_wp2_with (fail)
      go_at_call 20
      refine C27.out.mono ?_
      rintro e w27 ⟨o27, c27, rfl, ho27, hx27⟩
      have hr27 := four_row w27 2 1 0 3
      rw [show (((0 : Nat) : Int) + 1) = 1 from rfl, show (((1 : Nat) : Int) + 1) = 2 from rfl, show (((2 : Nat) : Int) + 1) = 3 from rfl, show (((3 : Nat) : Int) + 1) = 4 from rfl] at hr27
      have hbx27 := below_box w27 (.cells #[.int .i64 3, .int .i64 2, .int .i64 1, .int .i64 4] 3)
      have D27 := hid (same24 (own_below ho27 hbx27) hr27 (by omega))
      rw [show decide (([2, 1, 0, 3] : List Nat) = [2, 1, 0, 3]) = true by decide] at D27
      have H27 := hid (hx27.below hbx27)
      clear C27 hx27 ho27 hr27 hbx27
      go_wp2_with (fail)
      go_at_call 24
      refine D27.out.mono ?_
      rintro e x27 ⟨rfl, hd27⟩
      have H270 := hid (H27.out.below hd27.below)
      clear D27 hd27 H27
      have HB := hid H270.out.2
      clear H270
      have C28 := hid (fun v => new10_no (-1) v (by omega))
      go_wp2_with (fail)
      go_at_call 10
      refine (C28.out _).mono ?_
      rintro e v28 ⟨rfl, hv28⟩
      rw [hv28]
      clear hv28 C28
      have C29 := hid (fun v => new10_no 1048577 v (by omega))
      go_wp2_with (fail)
      go_at_call 10
      refine (C29.out _).mono ?_
      rintro e v29 ⟨rfl, hv29⟩
      rw [hv29]
      clear hv29 C29
      have CZ := hid (fun v => HxN.new 0 v (by omega))
      rw [show ((0 : Nat) : Int) = 0 from rfl] at CZ
      go_wp2_with (fail)
      go_at_call 10
      refine (CZ.out _).mono ?_
      rintro e wz ⟨hz, rfl, hx⟩
      have HZ := hid hx
      have HB2 := hid (HB.out.trans (hx.2.mono HB.out.size))
      clear hx CZ
      have C30 := hid (fun v => pop17_nil v)
      go_wp2_with (fail)
      go_at_call 17
      refine (C30.out _).mono ?_
      rintro e v30 ⟨rfl, hv30⟩
      rw [hv30]
      clear hv30 C30
      have C31 := hid (fun v => top27_nil v)
      go_wp2_with (fail)
      go_at_call 27
      refine (C31.out _).mono ?_
      rintro e v31 ⟨rfl, hv31⟩
      rw [hv31]
      clear hv31 C31
      have C32 := hid (fun v => bump19_nil 1 1 v)
      go_wp2_with (fail)
      go_at_call 19
      refine (C32.out _).mono ?_
      rintro e v32 ⟨rfl, hv32⟩
      rw [hv32]
      clear hv32 C32
      have C33 := hid (size21 HZ.out.1)
      rw [show ((([] : List Nat).length : Nat) : Int) = 0 from rfl] at C33
      go_wp2_with (fail)
      go_at_call 21
      refine C33.out.mono ?_
      rintro e v33 ⟨rfl, hv33⟩
      rw [hv33]
      clear hv33 C33
      have C34 := hid (fun v => push16_nil 1 v)
      go_wp2_with (fail)
      go_at_call 16
      refine (C34.out _).mono ?_
      rintro e v34 ⟨rfl, hv34⟩
      rw [hv34]
      clear hv34 C34
      have C35 := hid (fun v => remove18_nil 1 v)
      go_wp2_with (fail)
      go_at_call 18
      refine (C35.out _).mono ?_
      rintro e v35 ⟨rfl, hv35⟩
      rw [hv35]
      clear hv35 C35
      have C36 := hid (fun v => has22_nil 1 v)
      go_wp2_with (fail)
      go_at_call 22
      refine (C36.out _).mono ?_
      rintro e v36 ⟨rfl, hv36⟩
      rw [hv36]
      clear hv36 C36
      have C37 := hid (fun v => score23_nil 1 v)
      go_wp2_with (fail)
      go_at_call 23
      refine (C37.out _).mono ?_
      rintro e v37 ⟨rfl, hv37⟩
      rw [hv37]
      clear hv37 C37
      have C38 := hid (fun v => size21_nil v)
      go_wp2_with (fail)
      go_at_call 21
      refine (C38.out _).mono ?_
      rintro e v38 ⟨rfl, hv38⟩
      rw [hv38]
      clear hv38 C38
      have C39 := hid (fun v => order20_nil v)
      go_wp2_with (fail)
      go_at_call 20
      refine (C39.out _).mono ?_
      rintro e v39 ⟨rfl, hv39⟩
      rw [hv39]
      clear hv39 C39
      have C40 := hid (fun v => copy12_nil v)
      go_wp2_with (fail)
      go_at_call 12
      refine (C40.out _).mono ?_
      rintro e v40 ⟨rfl, hv40⟩
      rw [hv40]
      clear hv40 C40
      have CW := hid (fun v => works9 v)
      go_wp2_with (fail)
      go_at_call 9
      refine (CW.out _).mono ?_
      rintro e wl ⟨rfl, hl⟩
      have HE := hid (HB2.out.trans (hl.mono HB2.out.size))
      clear hl CW
      go_wp2
      go_ret
      exact ⟨rfl, HE.out⟩
end Go.Proofs.Ytjbnkkjihcoojaa
