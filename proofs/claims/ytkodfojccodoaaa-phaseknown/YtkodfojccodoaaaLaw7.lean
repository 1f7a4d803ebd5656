/- The law of the examples. -/
import Derived.Test.YtkodfojccodoaaaLaw6
namespace Go.Proofs.Ytkodfojccodoaaa
open Go.RowKit Go.Maps
set_option linter.unusedVariables false
set_option linter.unusedSimpArgs false
set_option maxRecDepth 100000
theorem decide20_nil (v : Int) (W : World) : Calls Try.prog 20 #[.pointer none, .int .i64 v] W fun e w' => e = .returned (.tuple #[.bool false, .int .i64 1]) ∧ w' = W := by
  go_enter Try.func20, Try.ntmps20
  go_wp2
  go_ret2
  exact ⟨rfl, rfl⟩
theorem save19_nil (W : World) : Calls Try.prog 19 #[.pointer none, .slice none 0 0] W fun e w' => e = .returned (.int .i64 1) ∧ w' = W := by
  go_enter Try.func19, Try.ntmps19
  go_wp2
  go_ret
  exact ⟨rfl, rfl⟩
theorem reach21_nil (W : World) : Calls Try.prog 21 #[.pointer none, .slice none 0 0] W fun e w' => e = .returned (.tuple #[.bool false, .bool false, .int .i64 1]) ∧ w' = W := by
  go_enter Try.func21, Try.ntmps21
  go_wp2
  refine bodyPost_ret (results_tmp3 rfl _ _ _) rfl ?_
  exact ⟨rfl, rfl⟩
theorem turn17_nil (W : World) : Calls Try.prog 17 #[.pointer none] W fun e w' => e = .returned (.tuple #[.int .u8 0, .int .i64 1]) ∧ w' = W := by
  go_enter Try.func17, Try.ntmps17
  go_wp2
  go_ret2
  exact ⟨rfl, rfl⟩
theorem saved18_nil (W : World) : Calls Try.prog 18 #[.pointer none] W fun e w' => e = .returned (.slice none 0 0) ∧ w' = W := by
  go_enter Try.func18, Try.ntmps18
  go_wp2
  go_ret
  exact ⟨rfl, rfl⟩
theorem draw22_nil (W : World) : Calls Try.prog 22 #[.pointer none] W fun e w' => e = .returned (.int .u64 0) ∧ w' = W := by
  go_enter Try.func22, Try.ntmps22
  go_wp2
  go_ret
  exact ⟨rfl, rfl⟩
theorem copy12_nil (W : World) : Calls Try.prog 12 #[.pointer none] W fun e w' => e = .returned (.pointer none) ∧ w' = W := by
  go_enter Try.func12, Try.ntmps12
  go_wp2
  go_ret
  exact ⟨rfl, rfl⟩
theorem cell5 {W : World} {g : Nat} {cs : Array Value} {t : TypeId} {fr : Nat × Nat} (h : W.heap[g]? = some (.cells cs t fr)) (j : Nat) : W.cell? ⟨g, j, none⟩ = cs[j]? := row_cell h j
theorem want_at (j : Nat) (h : j < 10) : (#[.int .u8 0, .int .u8 1, .int .u8 2, .int .u8 3, .int .u8 0, .int .u8 2, .int .u8 4, .int .u8 1, .int .u8 2, .int .u8 3] : Array Value)[j]? = some (.int .u8 ((Ph.knd j : Nat) : Int)) := by
  have : j = 0 ∨ j = 1 ∨ j = 2 ∨ j = 3 ∨ j = 4 ∨ j = 5 ∨ j = 6 ∨ j = 7 ∨ j = 8 ∨ j = 9 := by omega
  rcases this with rfl | rfl | rfl | rfl | rfl | rfl | rfl | rfl | rfl | rfl <;> rfl
set_option maxHeartbeats 8000000 in
theorem law7 (W : World) : Calls Try.prog 7 #[] W fun e w' => e = .returned (.bool true) ∧ Below W.heap.size W w' := by
  have CW := hid (fun (w : World) (hb : Below W.heap.size W w) => show Calls Try.prog 9 #[] w fun e w' => e = .returned (.bool true) ∧ Below W.heap.size W w' from (works9 w).mono (by rintro e w' ⟨rfl, b1⟩; exact ⟨rfl, hb.trans (b1.mono hb.size)⟩))
  have CN := hid (fun (n : Nat) (st : Bool) (seed : Int) (hn : n ≤ 1048576) (hs : 0 ≤ seed ∧ seed < 18446744073709551616) (w : World) (hw : W.heap.size ≤ w.heap.size) => new10n (n := n) (st := st) (seed := seed) (W := w) hn hs (N := W.heap.size) hw)
  have HB0 := hid (Below.refl W.heap.size W)
  go_enter Try.func7, Try.ntmps7
  have C1 := hid (CN.out 3 true 0 (by omega) (by omega) W HB0.out.size)
  go_wp2_with (fail)
  go_at_call 10
  refine C1.out.mono ?_
  rintro e w1 ⟨A, rfl, q, b, o⟩
  have HB1 := hid (HB0.out.trans (b.mono HB0.out.size))
  have HA := hid q
  have OA := hid o
  have BA := hid b
  clear q b o C1
  have C2 := hid (HA.out.decide' 4)
  rw [show Ph.dB 3 (St0 3 true 0) 4 = false from by decide +kernel, show Ph.dE 3 4 = 2 from by decide +kernel] at C2
  go_wp2_with (fail)
  go_at_call 20
  refine C2.out.mono ?_
  rintro e w7 ⟨rfl, hw7⟩
  rw [hw7]
  clear hw7 C2
  have C3 := hid (HA.out.decide' 0)
  rw [show Ph.dB 3 (St0 3 true 0) 0 = false from by decide +kernel, show Ph.dE 3 0 = 2 from by decide +kernel] at C3
  go_wp2_with (fail)
  go_at_call 20
  refine C3.out.mono ?_
  rintro e w7 ⟨rfl, hw7⟩
  rw [hw7]
  clear hw7 C3
  have hbx := below_box w1 (.cells #[.int .i32 4] 48)
  have C4 := hid ((HA.out.below hbx).save (by have := HB1.out.size; have := hbx.size; omega) (a := some ⟨w1.heap.size, 0, none⟩) (c := 1) (l := [4]) (lw_lit (heap_alloc_new w1 _) (by intro j hj; rcases j with _ | j <;> first | exact ⟨rfl, by decide, by decide⟩ | (simp at hj <;> omega))) (fun b off e _ ho => HA.out.away (Nat.le_refl _) b off e ho) (by decide))
  have HX4 := hid hbx
  clear hbx
  go_wp2_with (fail)
  go_at_call 19
  refine C4.out.mono ?_
  rintro e w4 ⟨rfl, q, b, f⟩
  rw [show Ph.mE 3 [4] = 2 from by decide]
  have HB4 := hid (HB1.out.trans ((HX4.out.mono HB1.out.size).trans b))
  clear HA
  have HA := hid q
  clear q b f C4 HX4 HB1
  have hbx := below_box w4 (.cells #[.int .i32 (-1), .int .i32 0] 48)
  have C5 := hid ((HA.out.below hbx).save (by have := HB4.out.size; have := hbx.size; omega) (a := some ⟨w4.heap.size, 0, none⟩) (c := 2) (l := [-1, 0]) (lw_lit (heap_alloc_new w4 _) (by intro j hj; rcases j with _ | _ | j <;> first | exact ⟨rfl, by decide, by decide⟩ | (simp at hj <;> omega))) (fun b off e _ ho => HA.out.away (Nat.le_refl _) b off e ho) (by decide))
  have HX5 := hid hbx
  clear hbx
  go_wp2_with (fail)
  go_at_call 19
  refine C5.out.mono ?_
  rintro e w5 ⟨rfl, q, b, f⟩
  rw [show Ph.mE 3 [-1, 0] = 2 from by decide]
  have HB5 := hid (HB4.out.trans ((HX5.out.mono HB4.out.size).trans b))
  clear HA
  have HA := hid q
  clear q b f C5 HX5 HB4
  have hbx := below_box w5 (.cells #[.int .i32 (-2147483648)] 48)
  have C6 := hid ((HA.out.below hbx).save (by have := HB5.out.size; have := hbx.size; omega) (a := some ⟨w5.heap.size, 0, none⟩) (c := 1) (l := [-2147483648]) (lw_lit (heap_alloc_new w5 _) (by intro j hj; rcases j with _ | j <;> first | exact ⟨rfl, by decide, by decide⟩ | (simp at hj <;> omega))) (fun b off e _ ho => HA.out.away (Nat.le_refl _) b off e ho) (by decide))
  have HX6 := hid hbx
  clear hbx
  go_wp2_with (fail)
  go_at_call 19
  refine C6.out.mono ?_
  rintro e w6 ⟨rfl, q, b, f⟩
  rw [show Ph.mE 3 [-2147483648] = 2 from by decide]
  have HB6 := hid (HB5.out.trans ((HX6.out.mono HB5.out.size).trans b))
  clear HA
  have HA := hid q
  clear q b f C6 HX6 HB5
  have hbx := below_box w6 (.cells #[.int .i32 (-2)] 48)
  have C7 := hid ((HA.out.below hbx).save (by have := HB6.out.size; have := hbx.size; omega) (a := some ⟨w6.heap.size, 0, none⟩) (c := 1) (l := [-2]) (lw_lit (heap_alloc_new w6 _) (by intro j hj; rcases j with _ | j <;> first | exact ⟨rfl, by decide, by decide⟩ | (simp at hj <;> omega))) (fun b off e _ ho => HA.out.away (Nat.le_refl _) b off e ho) (by decide))
  have HX7 := hid hbx
  clear hbx
  go_wp2_with (fail)
  go_at_call 19
  refine C7.out.mono ?_
  rintro e w7 ⟨rfl, q, b, f⟩
  rw [show Ph.mE 3 [-2] = 0 from by decide]
  have HB7 := hid (HB6.out.trans ((HX7.out.mono HB6.out.size).trans b))
  clear HA
  have HA := hid q
  clear q b f C7 HX7 HB6
  have hbx := below_box w7 (.cells #[.int .i32 2, .int .i32 (-1)] 48)
  have C8 := hid ((HA.out.below hbx).reach (by have := HB7.out.size; have := hbx.size; omega) (by omega) (a := some ⟨w7.heap.size, 0, none⟩) (c := 2) (l := [2, -1]) (lw_lit (heap_alloc_new w7 _) (by intro j hj; rcases j with _ | _ | j <;> first | exact ⟨rfl, by decide, by decide⟩ | (simp at hj <;> omega))) (fun b off e _ ho => HA.out.away (Nat.le_refl _) b off e ho) (by decide))
  have HX8 := hid hbx
  clear hbx
  go_wp2_with (fail)
  go_at_call 21
  refine C8.out.mono ?_
  rintro e w8 ⟨rfl, q, b, f⟩
  rw [show Ph.mE 3 [2, -1] = 0 from by decide, show Ph.rT 3 (Ph.sP 3 (Ph.sP 3 (Ph.sP 3 (Ph.sP 3 (St0 3 true 0) [4]) [-1, 0]) [-2147483648]) [-2]) [2, -1] = true from by decide +kernel, show Ph.rB 3 (Ph.sP 3 (Ph.sP 3 (Ph.sP 3 (Ph.sP 3 (St0 3 true 0) [4]) [-1, 0]) [-2147483648]) [-2]) [2, -1] = true from by decide +kernel]
  have HB8 := hid (HB7.out.trans ((HX8.out.mono HB7.out.size).trans b))
  clear HA
  have HA := hid q
  clear q b f C8 HX8 HB7
  have hbx := below_box w8 (.cells #[.int .i32 3, .int .i32 1] 48)
  have C9 := hid ((HA.out.below hbx).reach (by have := HB8.out.size; have := hbx.size; omega) (by omega) (a := some ⟨w8.heap.size, 0, none⟩) (c := 2) (l := [3, 1]) (lw_lit (heap_alloc_new w8 _) (by intro j hj; rcases j with _ | _ | j <;> first | exact ⟨rfl, by decide, by decide⟩ | (simp at hj <;> omega))) (fun b off e _ ho => HA.out.away (Nat.le_refl _) b off e ho) (by decide))
  have HX9 := hid hbx
  clear hbx
  go_wp2_with (fail)
  go_at_call 21
  refine C9.out.mono ?_
  rintro e w9 ⟨rfl, q, b, f⟩
  rw [show Ph.mE 3 [3, 1] = 0 from by decide, show Ph.rT 3 (Ph.rP 3 (Ph.sP 3 (Ph.sP 3 (Ph.sP 3 (Ph.sP 3 (St0 3 true 0) [4]) [-1, 0]) [-2147483648]) [-2]) [2, -1]) [3, 1] = false from by decide +kernel, show Ph.rB 3 (Ph.rP 3 (Ph.sP 3 (Ph.sP 3 (Ph.sP 3 (Ph.sP 3 (St0 3 true 0) [4]) [-1, 0]) [-2147483648]) [-2]) [2, -1]) [3, 1] = false from by decide +kernel]
  have HB9 := hid (HB8.out.trans ((HX9.out.mono HB8.out.size).trans b))
  clear HA
  have HA := hid q
  clear q b f C9 HX9 HB8
  have C10 := hid (HA.out.turn HB9.out.size)
  go_wp2_with (fail)
  go_at_call 17
  refine C10.out.mono ?_
  rintro e w10 ⟨rfl, q, b, f⟩
  rw [show Ph.knd (Ph.rP 3 (Ph.rP 3 (Ph.sP 3 (Ph.sP 3 (Ph.sP 3 (Ph.sP 3 (St0 3 true 0) [4]) [-1, 0]) [-2147483648]) [-2]) [2, -1]) [3, 1]).k = 0 from by decide +kernel]
  have HB10 := hid (HB9.out.trans b)
  clear HA
  have HA := hid q
  clear q b f C10 HB9
  have C11 := hid (HA.out.decide' 1)
  rw [show Ph.dB 3 (Ph.turn 3 (Ph.rP 3 (Ph.rP 3 (Ph.sP 3 (Ph.sP 3 (Ph.sP 3 (Ph.sP 3 (St0 3 true 0) [4]) [-1, 0]) [-2147483648]) [-2]) [2, -1]) [3, 1])) 1 = true from by decide +kernel, show Ph.dE 3 1 = 0 from by decide +kernel] at C11
  go_wp2_with (fail)
  go_at_call 20
  refine C11.out.mono ?_
  rintro e w7 ⟨rfl, hw7⟩
  rw [hw7]
  clear hw7 C11
  have hbx := below_box w10 (.cells #[.int .i32 (-3)] 48)
  have C12 := hid ((HA.out.below hbx).reach (by have := HB10.out.size; have := hbx.size; omega) (by omega) (a := some ⟨w10.heap.size, 0, none⟩) (c := 1) (l := [-3]) (lw_lit (heap_alloc_new w10 _) (by intro j hj; rcases j with _ | j <;> first | exact ⟨rfl, by decide, by decide⟩ | (simp at hj <;> omega))) (fun b off e _ ho => HA.out.away (Nat.le_refl _) b off e ho) (by decide))
  have HX12 := hid hbx
  clear hbx
  go_wp2_with (fail)
  go_at_call 21
  refine C12.out.mono ?_
  rintro e w12 ⟨rfl, q, b, f⟩
  rw [show Ph.mE 3 [-3] = 0 from by decide, show Ph.rT 3 (Ph.turn 3 (Ph.rP 3 (Ph.rP 3 (Ph.sP 3 (Ph.sP 3 (Ph.sP 3 (Ph.sP 3 (St0 3 true 0) [4]) [-1, 0]) [-2147483648]) [-2]) [2, -1]) [3, 1])) [-3] = true from by decide +kernel, show Ph.rB 3 (Ph.turn 3 (Ph.rP 3 (Ph.rP 3 (Ph.sP 3 (Ph.sP 3 (Ph.sP 3 (Ph.sP 3 (St0 3 true 0) [4]) [-1, 0]) [-2147483648]) [-2]) [2, -1]) [3, 1])) [-3] = false from by decide +kernel]
  have HB12 := hid (HB10.out.trans ((HX12.out.mono HB10.out.size).trans b))
  clear HA
  have HA := hid q
  clear q b f C12 HX12 HB10
  have C13 := hid (HA.out.decide' 3)
  rw [show Ph.dB 3 (Ph.rP 3 (Ph.turn 3 (Ph.rP 3 (Ph.rP 3 (Ph.sP 3 (Ph.sP 3 (Ph.sP 3 (Ph.sP 3 (St0 3 true 0) [4]) [-1, 0]) [-2147483648]) [-2]) [2, -1]) [3, 1])) [-3]) 3 = false from by decide +kernel, show Ph.dE 3 3 = 0 from by decide +kernel] at C13
  go_wp2_with (fail)
  go_at_call 20
  refine C13.out.mono ?_
  rintro e w7 ⟨rfl, hw7⟩
  rw [hw7]
  clear hw7 C13
  clear HA
  have C14 := hid (CN.out 2 false 0 (by omega) (by omega) w12 HB12.out.size)
  go_wp2_with (fail)
  go_at_call 10
  refine C14.out.mono ?_
  rintro e w14 ⟨B, rfl, q, b, o⟩
  have HB14 := hid (HB12.out.trans (b.mono HB12.out.size))
  have HB := hid q
  have OB := hid o
  have BB := hid b
  clear q b o C14
  clear HB12
  have C15 := hid (CN.out 2 false 1 (by omega) (by omega) w14 HB14.out.size)
  go_wp2_with (fail)
  go_at_call 10
  refine C15.out.mono ?_
  rintro e w15 ⟨C, rfl, q, b, o⟩
  have HB15 := hid (HB14.out.trans (b.mono HB14.out.size))
  have HC := hid q
  have OC := hid o
  have BC := hid b
  clear q b o C15
  clear HB14
  have HBC := hid (show ∀ g, C.own g → ¬ B.own g from fun g hc hb => by have := HB.out.ltz hb; have := OC.out g hc; omega)
  have HB2 := hid (HB.out.below BC.out)
  clear HB
  have HB := HB2
  clear HB2 OC BC OB BB
  have C16 := hid (HB.out.draw HB15.out.size)
  go_wp2_with (fail)
  go_at_call 22
  refine C16.out.mono ?_
  rintro e w16 ⟨rfl, q, b, f⟩
  rw [show drw (St0 2 false 0).s = 1082269761 from by decide +kernel]
  have HB16 := hid (HB15.out.trans b)
  have HOb := hid (HC.out.keep f HBC.out)
  clear HC
  have HC := HOb
  clear HOb
  clear HB
  have HB := hid q
  clear q b f C16 HB15
  have C17 := hid (HB.out.draw HB16.out.size)
  go_wp2_with (fail)
  go_at_call 22
  refine C17.out.mono ?_
  rintro e w17 ⟨rfl, q, b, f⟩
  rw [show drw (draw (St0 2 false 0)).s = 1152992998833853505 from by decide +kernel]
  have HB17 := hid (HB16.out.trans b)
  have HOb := hid (HC.out.keep f HBC.out)
  clear HC
  have HC := HOb
  clear HOb
  clear HB
  have HB := hid q
  clear q b f C17 HB16
  have C18 := hid (HC.out.draw HB17.out.size)
  go_wp2_with (fail)
  go_at_call 22
  refine C18.out.mono ?_
  rintro e w18 ⟨rfl, q, b, f⟩
  rw [show drw (St0 2 false 1).s = 1082269761 from by decide +kernel]
  have HB18 := hid (HB17.out.trans b)
  have HOb := hid (HB.out.keep f (fun g hb hc => HBC.out g hc hb))
  clear HB
  have HB := HOb
  clear HOb
  clear HC
  have HC := hid q
  clear q b f C18 HB17
  clear HC HBC
  have hbx := below_box w18 (.cells #[.int .u8 0, .int .u8 1, .int .u8 2, .int .u8 3, .int .u8 0, .int .u8 2, .int .u8 4, .int .u8 1, .int .u8 2, .int .u8 3] 42)
  have HL0 := hid (show ∃ P, P.k = 0 ∧ Pn W.heap.size B 2 0 P (w18.alloc (.cells #[.int .u8 0, .int .u8 1, .int .u8 2, .int .u8 3, .int .u8 0, .int .u8 2, .int .u8 4, .int .u8 1, .int .u8 2, .int .u8 3] 42)) from ⟨_, rfl, HB.out.below hbx⟩)
  have HW0 := hid (heap_alloc_new w18 (.cells #[.int .u8 0, .int .u8 1, .int .u8 2, .int .u8 3, .int .u8 0, .int .u8 2, .int .u8 4, .int .u8 1, .int .u8 2, .int .u8 3] 42))
  have HWO := hid (show ¬ B.own w18.heap.size from fun h => by have := HB.out.ltz h; omega)
  have HBX := hid (HB18.out.trans (hbx.mono HB18.out.size))
  clear hbx HB HB18
  go_wp2_with (fail)
  go_loopw [27] (fun i wr => ∃ j : Nat, j ≤ 10 ∧ i = .int .i64 (j : Nat) ∧ Hid (∃ P, P.k = j ∧ Pn W.heap.size B 2 0 P wr) ∧ Hid (Below W.heap.size W wr) ∧ Hid (wr.heap[w18.heap.size]? = some (.cells #[.int .u8 0, .int .u8 1, .int .u8 2, .int .u8 3, .int .u8 0, .int .u8 2, .int .u8 4, .int .u8 1, .int .u8 2, .int .u8 3] 42 (0, 0)))) (fun i _ => 10 - (intOf i).toNat)
  case atStart => exact ⟨0, Nat.zero_le _, rfl, HL0, HBX, HW0⟩
  case round =>
    obtain ⟨j, hj, rfl, HI, HBW, HC⟩ := hrel
    by_cases hjm : j < 10
    · have hjm' : (j : Int) < 10 := by omega
      have hwj : wrap64 ((j : Int) + 1) = (j : Int) + 1 := by unfold wrap64; omega
      obtain ⟨P, hk, q⟩ := HI.out
      have CT := hid (q.turn HBW.out.size)
      have hz := want_at j hjm
      have HKN := hid (show Ph.knd P.k = Ph.knd j by rw [hk])
      unfold TurnN at CT
      rw [HKN.out] at CT
      obtain ⟨z, hzz⟩ : ∃ z : Int, ((Ph.knd j : Nat) : Int) = z := ⟨_, rfl⟩
      rw [hzz] at CT hz
      have hzne : (z != z) = false := by simp
      have HNX := hid (show (Ph.turn 2 P).k = j + 1 from by show P.k + 1 = j + 1; rw [hk])
      clear q hk HI HL0 HBX HW0 HKN hzz
      obtain ⟨wi, hwi⟩ : ∃ wi, wi = wr := ⟨wr, rfl⟩
      subst hwi
      go_wp2_with (fail)
      go_at_call 17
      refine CT.out.mono ?_
      rintro e wn ⟨rfl, q, b, f⟩
      have HC2 := hid (f.block _ _ HC.out HWO.out)
      have x0 := (row_cell HC2.out j).trans hz
      have HI2 := hid (show ∃ P, P.k = j + 1 ∧ Pn W.heap.size B 2 0 P wn from ⟨_, HNX.out, q⟩)
      have HB2 := hid (HBW.out.trans b)
      clear q b f CT HC HBW HNX hz
      go_wp2_with (fail)
      first
        | exact ⟨⟨j + 1, hjm, rfl, HI2, HB2, HC2⟩, by simp only [intOf]; exact meas hjm⟩
        | (rw [hwj]; exact ⟨⟨j + 1, hjm, rfl, HI2, HB2, HC2⟩, by simp only [intOf]; exact meas hjm⟩)
    · have hge : ¬ (j : Int) < 10 := by omega
      have HBE := hid HBW.out
      clear HI HL0 HBX HW0 HWO HBW HC
      obtain ⟨we, hwe⟩ : ∃ we, we = wr := ⟨wr, rfl⟩
      subst hwe
      have C19 := hid (CN.out 2 false 5 (by omega) (by omega) we HBE.out.size)
      go_wp2_with (fail)
      go_at_call 10
      refine C19.out.mono ?_
      rintro e w19 ⟨D, rfl, q, b, o⟩
      have HB19 := hid (HBE.out.trans (b.mono HBE.out.size))
      have HD := hid q
      have OD := hid o
      have BD := hid b
      clear q b o C19
      clear HBE
      have hbx := below_box w19 (.cells #[.int .i32 1, .int .i32 (-1), .int .i32 2, .int .i32 2] 48)
      have C20 := hid ((HD.out.below hbx).reach (by have := HB19.out.size; have := hbx.size; omega) (by omega) (a := some ⟨w19.heap.size, 0, none⟩) (c := 4) (l := [1, -1, 2, 2]) (lw_lit (heap_alloc_new w19 _) (by intro j hj; rcases j with _ | _ | _ | _ | j <;> first | exact ⟨rfl, by decide, by decide⟩ | (simp at hj <;> omega))) (fun b off e _ ho => HD.out.away (Nat.le_refl _) b off e ho) (by decide))
      have HX20 := hid hbx
      clear hbx
      go_wp2_with (fail)
      go_at_call 21
      refine C20.out.mono ?_
      rintro e w20 ⟨rfl, q, b, f⟩
      rw [show Ph.mE 2 [1, -1, 2, 2] = 0 from by decide, show Ph.rT 2 (St0 2 false 5) [1, -1, 2, 2] = true from by decide +kernel, show Ph.rB 2 (St0 2 false 5) [1, -1, 2, 2] = true from by decide +kernel]
      have HB20 := hid (HB19.out.trans ((HX20.out.mono HB19.out.size).trans b))
      clear HD
      have HD := hid q
      clear q b f C20 HX20 HB19
      have C21 := hid (HD.out.turn HB20.out.size)
      go_wp2_with (fail)
      go_at_call 17
      refine C21.out.mono ?_
      rintro e w21 ⟨rfl, q, b, f⟩
      rw [show Ph.knd (Ph.rP 2 (St0 2 false 5) [1, -1, 2, 2]).k = 0 from by decide +kernel]
      have HB21 := hid (HB20.out.trans b)
      clear HD
      have HD := hid q
      clear q b f C21 HB20
      have C22 := hid (HD.out.turn HB21.out.size)
      go_wp2_with (fail)
      go_at_call 17
      refine C22.out.mono ?_
      rintro e w22 ⟨rfl, q, b, f⟩
      rw [show Ph.knd (Ph.turn 2 (Ph.rP 2 (St0 2 false 5) [1, -1, 2, 2])).k = 1 from by decide +kernel]
      have HB22 := hid (HB21.out.trans b)
      clear HD
      have HD := hid q
      clear q b f C22 HB21
      have C23 := hid (HD.out.turn HB22.out.size)
      go_wp2_with (fail)
      go_at_call 17
      refine C23.out.mono ?_
      rintro e w23 ⟨rfl, q, b, f⟩
      rw [show Ph.knd (Ph.turn 2 (Ph.turn 2 (Ph.rP 2 (St0 2 false 5) [1, -1, 2, 2]))).k = 2 from by decide +kernel]
      have HB23 := hid (HB22.out.trans b)
      clear HD
      have HD := hid q
      clear q b f C23 HB22
      have C24 := hid HD.out.saved
      have HSV := hid (show (Ph.turn 2 (Ph.turn 2 (Ph.turn 2 (Ph.rP 2 (St0 2 false 5) [1, -1, 2, 2])))).sv = [false, true] from by decide +kernel)
      unfold SavedO at C24
      rw [HSV.out] at C24
      go_wp2_with (fail)
      go_at_call 18
      refine C24.out.mono ?_
      rintro e w24 ⟨o, c5, rfl, ow, b⟩
      obtain ⟨g, c', cu, eg, _⟩ := own_some ow (by omega)
      cases eg
      have z0 := (own_cell ow (k := 0) (by omega)).1
      have z1 := (own_cell ow (k := 1) (by omega)).1
      have HDb := hid (HD.out.below b)
      clear HD
      have HD := HDb
      have HB24 := hid (HB23.out.trans (b.mono HB23.out.size))
      clear ow b C24 HB23 HDb HSV
      have z0' : w24.cell? ⟨g, 0, none⟩ = some (.bool false) := z0
      have z1' : w24.cell? ⟨g, 1, none⟩ = some (.bool true) := z1
      clear z0 z1
      have hbx := below_box w24 (.cells #[.int .i32 1] 48)
      have C25 := hid ((HD.out.below hbx).reach (by have := HB24.out.size; have := hbx.size; omega) (by omega) (a := some ⟨w24.heap.size, 0, none⟩) (c := 1) (l := [1]) (lw_lit (heap_alloc_new w24 _) (by intro j hj; rcases j with _ | j <;> first | exact ⟨rfl, by decide, by decide⟩ | (simp at hj <;> omega))) (fun b off e _ ho => HD.out.away (Nat.le_refl _) b off e ho) (by decide))
      have HX25 := hid hbx
      clear hbx
      go_wp2_with (fail)
      go_at_call 21
      refine C25.out.mono ?_
      rintro e w25 ⟨rfl, q, b, f⟩
      rw [show Ph.mE 2 [1] = 0 from by decide, show Ph.rT 2 (Ph.turn 2 (Ph.turn 2 (Ph.turn 2 (Ph.rP 2 (St0 2 false 5) [1, -1, 2, 2])))) [1] = true from by decide +kernel, show Ph.rB 2 (Ph.turn 2 (Ph.turn 2 (Ph.turn 2 (Ph.rP 2 (St0 2 false 5) [1, -1, 2, 2])))) [1] = true from by decide +kernel]
      have HB25 := hid (HB24.out.trans ((HX25.out.mono HB24.out.size).trans b))
      clear HD
      have HD := hid q
      clear q b f C25 HX25 HB24
      have C26 := hid (new10_no (-1) true 1 w25 (by omega))
      have D26 := hid (new10_no 1048577 true 1 w25 (by omega))
      go_wp2_with (fail)
      go_at_call 10
      refine C26.out.mono ?_
      rintro e w7 ⟨rfl, hw7⟩
      rw [hw7]
      clear hw7 C26
      go_wp2_with (fail)
      go_at_call 10
      refine D26.out.mono ?_
      rintro e w7 ⟨rfl, hw7⟩
      rw [hw7]
      clear hw7 D26
      have hbx := below_box w25 (.cells #[.int .i32 9] 48)
      have C27 := hid ((HD.out.below hbx).reach (by have := HB25.out.size; have := hbx.size; omega) (by omega) (a := some ⟨w25.heap.size, 0, none⟩) (c := 1) (l := [9]) (lw_lit (heap_alloc_new w25 _) (by intro j hj; rcases j with _ | j <;> first | exact ⟨rfl, by decide, by decide⟩ | (simp at hj <;> omega))) (fun b off e _ ho => HD.out.away (Nat.le_refl _) b off e ho) (by decide))
      have HX27 := hid hbx
      clear hbx
      go_wp2_with (fail)
      go_at_call 21
      refine C27.out.mono ?_
      rintro e w27 ⟨rfl, q, b, f⟩
      rw [show Ph.mE 2 [9] = 2 from by decide, show Ph.rT 2 (Ph.rP 2 (Ph.turn 2 (Ph.turn 2 (Ph.turn 2 (Ph.rP 2 (St0 2 false 5) [1, -1, 2, 2])))) [1]) [9] = false from by decide +kernel, show Ph.rB 2 (Ph.rP 2 (Ph.turn 2 (Ph.turn 2 (Ph.turn 2 (Ph.rP 2 (St0 2 false 5) [1, -1, 2, 2])))) [1]) [9] = false from by decide +kernel]
      have HB27 := hid (HB25.out.trans ((HX27.out.mono HB25.out.size).trans b))
      clear HD
      have HD := hid q
      clear q b f C27 HX27 HB25
      have N1 := hid (decide20_nil 1 w27)
      have N2 := hid (reach21_nil w27)
      have N3 := hid (turn17_nil w27)
      have N4 := hid (save19_nil w27)
      have N5 := hid (saved18_nil w27)
      have N6 := hid (draw22_nil w27)
      have N7 := hid (copy12_nil w27)
      have N8 := hid (CW.out w27 HB27.out)
      clear HD
      go_wp2_with (fail)
      go_at_call 20
      refine N1.out.mono ?_
      rintro e w7 ⟨rfl, hw7⟩
      rw [hw7]
      clear hw7 N1
      go_wp2_with (fail)
      go_at_call 21
      refine N2.out.mono ?_
      rintro e w7 ⟨rfl, hw7⟩
      rw [hw7]
      clear hw7 N2
      go_wp2_with (fail)
      go_at_call 17
      refine N3.out.mono ?_
      rintro e w7 ⟨rfl, hw7⟩
      rw [hw7]
      clear hw7 N3
      go_wp2_with (fail)
      go_at_call 19
      refine N4.out.mono ?_
      rintro e w7 ⟨rfl, hw7⟩
      rw [hw7]
      clear hw7 N4
      go_wp2_with (fail)
      go_at_call 18
      refine N5.out.mono ?_
      rintro e w7 ⟨rfl, hw7⟩
      rw [hw7]
      clear hw7 N5
      go_wp2_with (fail)
      go_at_call 22
      refine N6.out.mono ?_
      rintro e w7 ⟨rfl, hw7⟩
      rw [hw7]
      clear hw7 N6
      go_wp2_with (fail)
      go_at_call 12
      refine N7.out.mono ?_
      rintro e w7 ⟨rfl, hw7⟩
      rw [hw7]
      clear hw7 N7
      go_wp2_with (fail)
      go_at_call 9
      refine N8.out.mono ?_
      rintro e w7 ⟨rfl, b7⟩
      have HBF := hid b7
      clear b7 N8
      go_wp2
      go_ret
      exact ⟨rfl, HBF.out⟩
end Go.Proofs.Ytkodfojccodoaaa
