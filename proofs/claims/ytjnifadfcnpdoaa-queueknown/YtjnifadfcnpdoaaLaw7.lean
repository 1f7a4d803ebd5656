/- QueueKnown: the examples of the chapter. -/
import Derived.Test.YtjnifadfcnpdoaaWrk
namespace Go.Proofs.Ytjnifadfcnpdoaa
open Go.RowKit Go.Maps Go.Shelf
set_option linter.unusedVariables false
set_option maxRecDepth 100000
set_option maxHeartbeats 8000000 in
theorem law7 (W : World) : Calls Try.prog 7 #[] W fun e w' => e = .returned (.bool true) ∧ Below W.heap.size W w' := by
  obtain ⟨w0, hw0⟩ : ∃ w0, w0 = W := ⟨_, rfl⟩
  have HB := hid (show Below W.heap.size W w0 from hw0 ▸ Below.refl _ _)
  rw [show Calls Try.prog 7 #[] W = Calls Try.prog 7 #[] w0 from by rw [hw0]]
  clear hw0
  go_enter Try.func7, Try.ntmps7
  have C := hid (new10q (n := 5) (W := w0) (by omega) (N := W.heap.size) HB.out.size)
  go_wp2_with (fail)
  go_at_call 10
  refine C.out.mono ?_
  rintro e w1 ⟨A, rfl, q1, b1⟩
  have HB2 := hid (show Below W.heap.size W w1 from HB.out.trans (b1.mono HB.out.size))
  clear HB C b1
  have HB := HB2
  clear HB2
  rw [show Qp.rowN 5 = [1, 2, 3, 4, 5] from by decide, show Qp.stN 5 5 = [0, 1, 2, 3, 4, 5] from by decide] at q1
  have HQ := hid q1
  clear q1
  have C := hid (HQ.out.next HB.out.size (a := none) (c := 0) (bs := []) (.inl rfl))
  go_wp2_with (fail)
  go_at_call 21
  refine C.out.mono ?_
  rintro e w2 ⟨rfl, q1, b1, _⟩
  rw [show Qp.nxt [1, 2, 3, 4, 5] [] = 5 from by decide]
  have HB3 := hid (HB.out.trans b1)
  clear HQ HB C b1
  have HQ := hid q1
  clear q1
  have HB := HB3
  clear HB3
  have hbx := below_box w2 (.cells #[.int .i64 2, .int .i64 4] 3)
  have HQ2 := hid (HQ.out.below hbx)
  have HB2 := hid (HB.out.trans (hbx.mono HB.out.size))
  have C := hid (HQ2.out.bump HB2.out.size (by omega) (a := some ⟨w2.heap.size, 0, none⟩) (c := 2) (l := [2, 4]) (iw_lit (heap_alloc_new w2 _) (by intro j hj; rcases j with _ | _ | j <;> first | rfl | (simp at hj <;> omega))) (by simp))
  clear HQ HB hbx
  go_wp2_with (fail)
  go_at_call 17
  refine C.out.mono ?_
  rintro e w3 ⟨rfl, q1, b1, _⟩
  rw [show Qp.bE 5 [2, 4] = 0 from by decide]
  rw [show Qp.bL 5 [2, 4] [1, 2, 3, 4, 5] = [1, 3, 5, 2, 4] from by decide, show Qp.bS 5 [2, 4] [1, 2, 3, 4, 5] [0, 1, 2, 3, 4, 5] = [0, 1, 6, 3, 6, 5] from by decide] at q1
  have HB3 := hid (HB2.out.trans b1)
  clear HQ2 HB2 C b1
  have HQ := hid q1
  clear q1
  have HB := HB3
  clear HB3
  have hbx := below_box w3 (.cells #[.int .i64 4, .int .i64 2, .int .i64 4, .int .i64 1] 3)
  have HQ2 := hid (HQ.out.below hbx)
  have HB2 := hid (HB.out.trans (hbx.mono HB.out.size))
  have C := hid (HQ2.out.bump HB2.out.size (by omega) (a := some ⟨w3.heap.size, 0, none⟩) (c := 4) (l := [4, 2, 4, 1]) (iw_lit (heap_alloc_new w3 _) (by intro j hj; rcases j with _ | _ | _ | _ | j <;> first | rfl | (simp at hj <;> omega))) (by simp))
  clear HQ HB hbx
  go_wp2_with (fail)
  go_at_call 17
  refine C.out.mono ?_
  rintro e w4 ⟨rfl, q1, b1, _⟩
  rw [show Qp.bE 5 [4, 2, 4, 1] = 0 from by decide]
  rw [show Qp.bL 5 [4, 2, 4, 1] [1, 3, 5, 2, 4] = [3, 5, 1, 2, 4] from by decide, show Qp.bS 5 [4, 2, 4, 1] [1, 3, 5, 2, 4] [0, 1, 6, 3, 6, 5] = [0, 7, 7, 3, 7, 5] from by decide] at q1
  have HB3 := hid (HB2.out.trans b1)
  clear HQ2 HB2 C b1
  have HQ := hid q1
  clear q1
  have HB := HB3
  clear HB3
  have C := hid (order16 HQ.out.qx)
  go_wp2_with (fail)
  go_at_call 16
  refine C.out.mono ?_
  rintro e w5 ⟨o, c, rfl, ho, b1⟩
  have HQ3 := hid (HQ.out.below b1)
  have HB3 := hid (HB.out.trans (b1.mono HB.out.size))
  clear HQ HB C b1
  have HQ := HQ3
  clear HQ3
  have HB := HB3
  clear HB3
  have hbx := below_box w5 (.cells #[.int .i64 3, .int .i64 5, .int .i64 1, .int .i64 2, .int .i64 4] 3)
  have HQ2 := hid (HQ.out.below hbx)
  have HB2 := hid (HB.out.trans (hbx.mono HB.out.size))
  have C := hid (same22 (c := c) (d := 5) ((own_iw ho).all hbx) (iw_lit (b := w5.heap.size) (l := [3, 5, 1, 2, 4]) (heap_alloc_new w5 _) (by intro j hj; rcases j with _ | _ | _ | _ | _ | j <;> first | rfl | (simp at hj <;> omega))) (by simp) (by simp))
  clear HQ HB hbx ho
  go_wp2_with (fail)
  go_at_call 22
  refine C.out.mono ?_
  rintro e w6 ⟨rfl, d5⟩
  rw [show decide (List.map (fun v : Nat => (v : Int)) [3, 5, 1, 2, 4] = [3, 5, 1, 2, 4]) = true from by decide]
  have HQ := hid (HQ2.out.below d5.below)
  have HB := hid (HB2.out.trans (d5.below.mono HB2.out.size))
  clear C HQ2 HB2 d5
  have C := hid (HQ.out.stamp 4)
  go_wp2_with (fail)
  go_at_call 18
  refine C.out.mono ?_
  rintro e wz ⟨rfl, hwz⟩
  rw [hwz]
  clear hwz
  clear C
  have C := hid (HQ.out.stamp 5)
  go_wp2_with (fail)
  go_at_call 18
  refine C.out.mono ?_
  rintro e wz ⟨rfl, hwz⟩
  rw [hwz]
  clear hwz
  clear C
  have C := hid (HQ.out.stamp 6)
  go_wp2_with (fail)
  go_at_call 18
  refine C.out.mono ?_
  rintro e wz ⟨rfl, hwz⟩
  rw [hwz]
  clear hwz
  clear C
  have hbx := below_box w6 (.cells #[.int .i64 6] 3)
  have HQ2 := hid (HQ.out.below hbx)
  have HB2 := hid (HB.out.trans (hbx.mono HB.out.size))
  have C := hid (HQ2.out.bump HB2.out.size (by omega) (a := some ⟨w6.heap.size, 0, none⟩) (c := 1) (l := [6]) (iw_lit (heap_alloc_new w6 _) (by intro j hj; rcases j with _ | j <;> first | rfl | (simp at hj <;> omega))) (by simp))
  clear HQ HB hbx
  go_wp2_with (fail)
  go_at_call 17
  refine C.out.mono ?_
  rintro e w7 ⟨rfl, q1, b1, _⟩
  rw [show Qp.bE 5 [6] = 2 from by decide]
  rw [show Qp.bL 5 [6] [3, 5, 1, 2, 4] = [3, 5, 1, 2, 4] from by decide, show Qp.bS 5 [6] [3, 5, 1, 2, 4] [0, 7, 7, 3, 7, 5] = [0, 7, 7, 3, 7, 5] from by decide] at q1
  have HB3 := hid (HB2.out.trans b1)
  clear HQ2 HB2 C b1
  have HQ := hid q1
  clear q1
  have HB := HB3
  clear HB3
  have hbx := below_box w7 (.cells #[.int .i64 1, .int .i64 0] 3)
  have HQ2 := hid (HQ.out.below hbx)
  have HB2 := hid (HB.out.trans (hbx.mono HB.out.size))
  have C := hid (HQ2.out.bump HB2.out.size (by omega) (a := some ⟨w7.heap.size, 0, none⟩) (c := 2) (l := [1, 0]) (iw_lit (heap_alloc_new w7 _) (by intro j hj; rcases j with _ | _ | j <;> first | rfl | (simp at hj <;> omega))) (by simp))
  clear HQ HB hbx
  go_wp2_with (fail)
  go_at_call 17
  refine C.out.mono ?_
  rintro e w8 ⟨rfl, q1, b1, _⟩
  rw [show Qp.bE 5 [1, 0] = 2 from by decide]
  rw [show Qp.bL 5 [1, 0] [3, 5, 1, 2, 4] = [3, 5, 1, 2, 4] from by decide, show Qp.bS 5 [1, 0] [3, 5, 1, 2, 4] [0, 7, 7, 3, 7, 5] = [0, 7, 7, 3, 7, 5] from by decide] at q1
  have HB3 := hid (HB2.out.trans b1)
  clear HQ2 HB2 C b1
  have HQ := hid q1
  clear q1
  have HB := HB3
  clear HB3
  have C := hid (HQ.out.bump HB.out.size (by omega) (a := none) (c := 0) (l := []) (.inl rfl) (by simp))
  go_wp2_with (fail)
  go_at_call 17
  refine C.out.mono ?_
  rintro e w9 ⟨rfl, q1, b1, _⟩
  rw [show Qp.bE 5 [] = 0 from by decide]
  rw [show Qp.bL 5 [] [3, 5, 1, 2, 4] = [3, 5, 1, 2, 4] from by decide, show Qp.bS 5 [] [3, 5, 1, 2, 4] [0, 7, 7, 3, 7, 5] = [0, 7, 7, 3, 7, 5] from by decide] at q1
  have HB3 := hid (HB.out.trans b1)
  clear HQ HB C b1
  have HQ := hid q1
  clear q1
  have HB := HB3
  clear HB3
  have C := hid (HQ.out.stamp 4)
  go_wp2_with (fail)
  go_at_call 18
  refine C.out.mono ?_
  rintro e wz ⟨rfl, hwz⟩
  rw [hwz]
  clear hwz
  clear C
  have hbx := below_box w9 (.cells #[.int .i64 3] 3)
  have HQ2 := hid (HQ.out.below hbx)
  have HB2 := hid (HB.out.trans (hbx.mono HB.out.size))
  have C := hid (HQ2.out.bump HB2.out.size (by omega) (a := some ⟨w9.heap.size, 0, none⟩) (c := 1) (l := [3]) (iw_lit (heap_alloc_new w9 _) (by intro j hj; rcases j with _ | j <;> first | rfl | (simp at hj <;> omega))) (by simp))
  clear HQ HB hbx
  go_wp2_with (fail)
  go_at_call 17
  refine C.out.mono ?_
  rintro e w10 ⟨rfl, q1, b1, _⟩
  rw [show Qp.bE 5 [3] = 0 from by decide]
  rw [show Qp.bL 5 [3] [3, 5, 1, 2, 4] = [5, 1, 2, 4, 3] from by decide, show Qp.bS 5 [3] [3, 5, 1, 2, 4] [0, 7, 7, 3, 7, 5] = [0, 7, 7, 8, 7, 5] from by decide] at q1
  have HB3 := hid (HB2.out.trans b1)
  clear HQ2 HB2 C b1
  have HQ := hid q1
  clear q1
  have HB := HB3
  clear HB3
  have C := hid (HQ.out.stamp 3)
  go_wp2_with (fail)
  go_at_call 18
  refine C.out.mono ?_
  rintro e wz ⟨rfl, hwz⟩
  rw [hwz]
  clear hwz
  clear C
  have hbx := below_box w10 (.cells #[.bool true, .bool true, .bool true, .bool true, .bool true] 4)
  have HQ2 := hid (HQ.out.below hbx)
  have HB2 := hid (HB.out.trans (hbx.mono HB.out.size))
  have C := hid (HQ2.out.next HB2.out.size (a := some ⟨w10.heap.size, 0, none⟩) (c := 5) (bs := [true, true, true, true, true]) (bw_lit (heap_alloc_new w10 _) (by intro j hj; rcases j with _ | _ | _ | _ | _ | j <;> first | rfl | (simp at hj <;> omega))))
  clear HQ HB hbx
  go_wp2_with (fail)
  go_at_call 21
  refine C.out.mono ?_
  rintro e w11 ⟨rfl, q1, b1, _⟩
  rw [show Qp.nxt [5, 1, 2, 4, 3] [true, true, true, true, true] = 0 from by decide]
  have HB3 := hid (HB2.out.trans b1)
  clear HQ2 HB2 C b1
  have HQ := hid q1
  clear q1
  have HB := HB3
  clear HB3
  have hbx := below_box w11 (.cells #[.bool true, .bool true, .bool true, .bool true, .bool true, .bool false] 4)
  have HQ2 := hid (HQ.out.below hbx)
  have HB2 := hid (HB.out.trans (hbx.mono HB.out.size))
  have C := hid (HQ2.out.next HB2.out.size (a := some ⟨w11.heap.size, 0, none⟩) (c := 6) (bs := [true, true, true, true, true, false]) (bw_lit (heap_alloc_new w11 _) (by intro j hj; rcases j with _ | _ | _ | _ | _ | _ | j <;> first | rfl | (simp at hj <;> omega))))
  clear HQ HB hbx
  go_wp2_with (fail)
  go_at_call 21
  refine C.out.mono ?_
  rintro e w12 ⟨rfl, q1, b1, _⟩
  rw [show Qp.nxt [5, 1, 2, 4, 3] [true, true, true, true, true, false] = 0 from by decide]
  have HB3 := hid (HB2.out.trans b1)
  clear HQ2 HB2 C b1
  have HQ := hid q1
  clear q1
  have HB := HB3
  clear HB3
  have hbx := below_box w12 (.cells #[.bool true, .bool true, .bool true] 4)
  have HQ2 := hid (HQ.out.below hbx)
  have HB2 := hid (HB.out.trans (hbx.mono HB.out.size))
  have C := hid (HQ2.out.next HB2.out.size (a := some ⟨w12.heap.size, 0, none⟩) (c := 3) (bs := [true, true, true]) (bw_lit (heap_alloc_new w12 _) (by intro j hj; rcases j with _ | _ | _ | j <;> first | rfl | (simp at hj <;> omega))))
  clear HQ HB hbx
  go_wp2_with (fail)
  go_at_call 21
  refine C.out.mono ?_
  rintro e w13 ⟨rfl, q1, b1, _⟩
  rw [show Qp.nxt [5, 1, 2, 4, 3] [true, true, true] = 4 from by decide]
  have HB3 := hid (HB2.out.trans b1)
  clear HQ2 HB2 C b1
  have HQ := hid q1
  clear q1
  have HB := HB3
  clear HB3
  clear HQ
  have CN := hid (fun (v : Int) (hv : v < 0 ∨ 1048576 < v) => new10_no v w13 hv)
  go_wp2_with (fail)
  go_at_call 10
  refine (CN.out (-1) (by omega)).mono ?_
  rintro e wz ⟨rfl, hwz⟩
  rw [hwz]
  clear hwz
  go_wp2_with (fail)
  go_at_call 10
  refine (CN.out 1048577 (by omega)).mono ?_
  rintro e wz ⟨rfl, hwz⟩
  rw [hwz]
  clear hwz
  clear CN
  have C := hid (new10q (n := 0) (W := w13) (by omega) (N := W.heap.size) HB.out.size)
  go_wp2_with (fail)
  go_at_call 10
  refine C.out.mono ?_
  rintro e w14 ⟨B, rfl, q1, b1⟩
  have HB2 := hid (show Below W.heap.size W w14 from HB.out.trans (b1.mono HB.out.size))
  clear HB C b1
  have HB := HB2
  clear HB2
  rw [show Qp.rowN 0 = [] from by decide, show Qp.stN 0 0 = [0] from by decide] at q1
  have HQ := hid q1
  clear q1
  have C := hid (HQ.out.next HB.out.size (a := none) (c := 0) (bs := []) (.inl rfl))
  go_wp2_with (fail)
  go_at_call 21
  refine C.out.mono ?_
  rintro e w15 ⟨rfl, q1, b1, _⟩
  rw [show Qp.nxt [] [] = 0 from by decide]
  have HB3 := hid (HB.out.trans b1)
  clear HQ HB C b1
  have HQ := hid q1
  clear q1
  have HB := HB3
  clear HB3
  have C := hid (next21_nil none 0 0 w15)
  go_wp2_with (fail)
  go_at_call 21
  refine C.out.mono ?_
  rintro e w16 ⟨rfl, b1⟩
  have HQ3 := hid (HQ.out.below b1)
  have HB3 := hid (HB.out.trans (b1.mono HB.out.size))
  clear HQ HB C b1
  have HQ := HQ3
  clear HQ3
  have HB := HB3
  clear HB3
  have C := hid (HQ.out.bump HB.out.size (by omega) (a := none) (c := 0) (l := []) (.inl rfl) (by simp))
  go_wp2_with (fail)
  go_at_call 17
  refine C.out.mono ?_
  rintro e w17 ⟨rfl, q1, b1, _⟩
  rw [show Qp.bE 0 [] = 0 from by decide]
  rw [show Qp.bL 0 [] [] = [] from by decide, show Qp.bS 0 [] [] [0] = [0] from by decide] at q1
  have HB3 := hid (HB.out.trans b1)
  clear HQ HB C b1
  have HQ := hid q1
  clear q1
  have HB := HB3
  clear HB3
  have hbx := below_box w17 (.cells #[.int .i64 1] 3)
  have HQ2 := hid (HQ.out.below hbx)
  have HB2 := hid (HB.out.trans (hbx.mono HB.out.size))
  have C := hid (HQ2.out.bump HB2.out.size (by omega) (a := some ⟨w17.heap.size, 0, none⟩) (c := 1) (l := [1]) (iw_lit (heap_alloc_new w17 _) (by intro j hj; rcases j with _ | j <;> first | rfl | (simp at hj <;> omega))) (by simp))
  clear HQ HB hbx
  go_wp2_with (fail)
  go_at_call 17
  refine C.out.mono ?_
  rintro e w18 ⟨rfl, q1, b1, _⟩
  rw [show Qp.bE 0 [1] = 2 from by decide]
  rw [show Qp.bL 0 [1] [] = [] from by decide, show Qp.bS 0 [1] [] [0] = [0] from by decide] at q1
  have HB3 := hid (HB2.out.trans b1)
  clear HQ2 HB2 C b1
  have HQ := hid q1
  clear q1
  have HB := HB3
  clear HB3
  clear HQ
  have D1 := hid (bump17_nil (.slice none 0 0) w18)
  have D2 := hid (stamp18_nil w18)
  have D3 := hid (order16_nil w18)
  have D4 := hid (size23_nil w18)
  have D5 := hid (copy12_nil w18)
  go_wp2_with (first
    | (go_at_call 17; refine D1.out.mono ?_; rintro e wz ⟨rfl, hwz⟩; rw [hwz]; clear hwz)
    | (go_at_call 18; refine D2.out.mono ?_; rintro e wz ⟨rfl, hwz⟩; rw [hwz]; clear hwz)
    | (go_at_call 16; refine D3.out.mono ?_; rintro e wz ⟨rfl, hwz⟩; rw [hwz]; clear hwz)
    | (go_at_call 23; refine D4.out.mono ?_; rintro e wz ⟨rfl, hwz⟩; rw [hwz]; clear hwz)
    | (go_at_call 12; refine D5.out.mono ?_; rintro e wz ⟨rfl, hwz⟩; rw [hwz]; clear hwz))
  have C := hid (works9 w18)
  go_at_call 9
  refine C.out.mono ?_
  rintro e w19 ⟨rfl, b1⟩
  have HB3 := hid (HB.out.trans (b1.mono HB.out.size))
  clear HB b1 C
  go_wp2
  go_ret
  exact ⟨rfl, HB3.out⟩
end Go.Proofs.Ytjnifadfcnpdoaa
