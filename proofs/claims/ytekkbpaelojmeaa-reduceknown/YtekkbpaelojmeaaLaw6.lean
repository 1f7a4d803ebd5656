/- ReduceKnown. -/
import Derived.Test.YtekkbpaelojmeaaLaw3
import Derived.Test.YtekkbpaelojmeaaLaw4
import Derived.Test.YtekkbpaelojmeaaLaw5
namespace Go.Proofs.Ytekkbpaelojmeaa
open Go.RowKit Go.Maps
set_option linter.unusedVariables false
set_option linter.unusedSimpArgs false
set_option maxRecDepth 100000

def kr : List Rc := [⟨⟨5, 3, 4, 0⟩, false⟩, ⟨⟨6, 9, 9, 0⟩, false⟩, ⟨⟨7, 9, 12, 1⟩, false⟩, ⟨⟨8, 9, 12, 2⟩, false⟩, ⟨⟨9, 1, 2, 0⟩, false⟩, ⟨⟨4, 9, 9, 0⟩, false⟩, ⟨⟨4, 9, 9, 0⟩, false⟩, ⟨⟨3, 6, 9, 1⟩, false⟩, ⟨⟨2, 7, 9, 0⟩, true⟩, ⟨⟨1, -5, 0, -5⟩, false⟩, ⟨⟨4611686018427387904, 9223372036854775807, -9223372036854775808, -1⟩, false⟩]
def kg : List Int := [-9223372036854775808, -1, 0, 1, 2, 3, 5, 65535, 65536, 9223372036854775807]
def kp : List Int := [-1, 0, 1, 33, 34, 50, 67, 99, 100, 101, 9223372036854775807]
def kn : List Int := [-1, 0, 1, 2, 3000, 1000001, 9223372036854775807]
def kf : List Int := [-1, 0, 1, 300, 1000000, 1000001, -9223372036854775808]
theorem kr_ok : ∀ r ∈ kr, r.Ok := by
  intro r hr
  simp only [kr, List.mem_cons, List.not_mem_nil, or_false] at hr
  rcases hr with rfl | rfl | rfl | rfl | rfl | rfl | rfl | rfl | rfl | rfl | rfl <;> exact ⟨by unfold I64; decide, by unfold I64; decide, by unfold I64; decide, by unfold I64; decide⟩
theorem kr_use (g : Int) : ∀ r ∈ kr, tier r.k.lb g = 2 → 0 ≤ r.k.us := by
  intro r hr
  have hc := clip_le g
  simp only [kr, List.mem_cons, List.not_mem_nil, or_false] at hr
  rcases hr with rfl | rfl | rfl | rfl | rfl | rfl | rfl | rfl | rfl | rfl | rfl
  case inr.inr.inr.inr.inr.inr.inr.inr.inr.inl => intro h; rw [tier_1 (by show (-5 : Int) ≤ clip g; omega)] at h; exact absurd h (by decide)
  case inr.inr.inr.inr.inr.inr.inr.inr.inr.inr => intro h; rw [tier_3 (by show ¬ (9223372036854775807 : Int) ≤ clip g; omega) (by show ¬ (9223372036854775807 : Int) ≤ clip g + 4; omega)] at h; exact absurd h (by decide)
  all_goals (intro _; decide)
theorem i64_all (xs : List Int) (h : xs.all (fun x => decide (-9223372036854775808 ≤ x) && decide (x ≤ 9223372036854775807)) = true) {j : Nat} (hj : j < xs.length) : I64 (xs.getD j 0) := by
  rw [List.getD_eq_getElem?_getD, List.getElem?_eq_getElem hj]
  have := List.all_eq_true.1 h xs[j] (List.getElem_mem hj)
  simp only [Bool.and_eq_true, decide_eq_true_eq] at this
  exact this
set_option maxHeartbeats 8000000 in
theorem law6 (W : World) : Calls Try.prog 6 #[] W fun e w' => e = .returned (.bool true) ∧ Below W.heap.size W w' := by
  obtain ⟨W1, hW1⟩ : ∃ W1, W.alloc (.cells (flat kr).toArray 45) = W1 := ⟨_, rfl⟩
  have hb1 : Below W.heap.size W W1 := by rw [← hW1]; exact below_box _ _
  have hr1 : Rcs W1 (some ⟨W.heap.size, 0, none⟩) kr := by rw [← hW1]; exact rcs_block (heap_alloc_new W _) rfl kr_ok
  obtain ⟨W2, hW2⟩ : ∃ W2, W1.alloc (.cells (kg.map (Value.int .i64)).toArray 3) = W2 := ⟨_, rfl⟩
  have hb2 : Below W1.heap.size W1 W2 := by rw [← hW2]; exact below_box _ _
  have hg2 : Ids W2 (some ⟨W1.heap.size, 0, none⟩) kg := by rw [← hW2]; exact ids_block (heap_alloc_new W1 _) rfl
  have HB := hid (hb1.trans (hb2.mono hb1.size))
  have HR := hid (hr1.below hb2)
  have HG := hid hg2
  have C13 := hid (fun w => works13 w)
  have C15 := hid (fun w => limit15 1000000 1000000 w)
  have hlo : LOut 1000000 1000000 = .returned (.tuple #[.int .i64 500000500000000000, .int .i64 0]) := lout_ok ⟨by decide, by decide, by decide, by decide⟩
  rw [hlo] at C15
  have HW1 := hid hW1
  have HW2 := hid hW2
  clear hlo hW1 hW2 hb1 hb2 hr1 hg2
  go_enter Try.func6, Try.ntmps6
  go_upto_region 2 with fail
  change Code.wp _ _ _ _ (W.alloc (.cells (flat kr).toArray 45))
  rw [HW1.out]
  go_wp2_with fail
  change Code.wp _ _ _ _ (W1.alloc (.cells (kg.map (Value.int .i64)).toArray 3))
  rw [HW2.out]
  clear HW1 HW2
  go_loopw [26] (fun iv wr => ∃ i : Nat, i ≤ 10 ∧ iv = .int .i64 i ∧ Hid (Below W2.heap.size W2 wr)) (fun iv _ => 10 - (intOf iv).toNat)
  case atStart => exact ⟨0, by omega, rfl, hid (Below.refl _ _)⟩
  case round =>
    obtain ⟨i, hi, rfl, HO⟩ := hrel
    by_cases hi2 : i < 10
    · have hi3 : (i : Int) < 10 := by omega
      have hc := (HG.out.below HO.out).at (j := i) hi2
      rw [Nat.zero_add] at hc
      have hgv := i64_all kg (by decide) (j := i) hi2
      generalize kg.getD i 0 = gv at *
      obtain ⟨wo, hwo⟩ : ∃ wo, wo = wr := ⟨wr, rfl⟩
      subst hwo
      obtain ⟨W3, hW3⟩ : ∃ W3, wo.alloc (.cells (kp.map (Value.int .i64)).toArray 3) = W3 := ⟨_, rfl⟩
      have hp3 : Ids W3 (some ⟨wo.heap.size, 0, none⟩) kp := by rw [← hW3]; exact ids_block (heap_alloc_new wo _) rfl
      have hb3 : Below W2.heap.size W2 W3 := by rw [← hW3]; exact HO.out.trans ((below_box _ _).mono HO.out.size)
      have HP3 := hid hp3
      have HB3 := hid hb3
      have HW3 := hid hW3
      clear hW3 hp3 hb3
      go_wp2_with fail
      change Code.wp _ _ _ _ (wo.alloc (.cells (kp.map (Value.int .i64)).toArray 3))
      rw [HW3.out]
      clear HW3
      go_loopw [32] (fun jv wr => ∃ j : Nat, j ≤ 11 ∧ jv = .int .i64 j ∧ Hid (Below W3.heap.size W3 wr)) (fun jv _ => 11 - (intOf jv).toNat)
      case atStart => exact ⟨0, by omega, rfl, hid (Below.refl _ _)⟩
      case round =>
        obtain ⟨j, hj, rfl, HQ⟩ := hrel
        by_cases hj2 : j < 11
        · have hj3 : (j : Int) < 11 := by omega
          have hd := (HP3.out.below HQ.out).at (j := j) hj2
          rw [Nat.zero_add] at hd
          have hpv := i64_all kp (by decide) (j := j) hj2
          generalize kp.getD j 0 = pv at *
          have HRQ := hid (fun w (h : Below wr.heap.size wr w) => HR.out.below (HB3.out.trans ((HQ.out.trans (h.mono HQ.out.size)).mono HB3.out.size)))
          have HBQ := hid (fun w (h : Below wr.heap.size wr w) => HQ.out.trans (h.mono HQ.out.size))
          have HI7 := hid (show I64 7 from by unfold I64; decide)
          have HPV := hid hpv
          clear hpv
          go_wp2_with (first
            | (go_at_call_of 3 (Value.slice (some ⟨W.heap.size, 0, none⟩) 11 11); refine (law3 (c := 11) gv pv (HRQ.out _ (Below.refl _ _)) rfl (by decide) (kr_use gv)).mono ?_; rintro e w4 ⟨rfl, hb4⟩; have HB4 := hid hb4; clear hb4)
            | (go_at_call 4; refine (law4 (c := 11) gv pv 7 (HRQ.out _ HB4.out) rfl (by decide) HPV.out HI7.out).mono ?_; rintro e w5 ⟨rfl, hb5⟩; have HB5 := hid (HB4.out.trans (hb5.mono HB4.out.size)); clear hb5)
            | (go_at_call_of 3 (Value.slice (some ⟨W.heap.size, 0, none⟩) 5 11); refine (law3 (c := 11) (n := 5) (rs := kr.take 5) gv pv ((HRQ.out _ HB5.out).take 5) rfl (by decide) (fun r hr => kr_use gv r (List.mem_of_mem_take hr))).mono ?_; rintro e w6 ⟨rfl, hb6⟩; have HB6 := hid (HB5.out.trans (hb6.mono HB5.out.size)); clear hb6))
          go_roundw
          case rel => exact ⟨j + 1, by omega, by go_num, hid (HBQ.out _ HB6.out)⟩
          case measure => simp [intOf]; omega
        · have hjg : ¬ (j : Int) < 11 := by omega
          go_wp2_with fail
          go_roundw
          case rel => exact ⟨i + 1, by omega, by go_num, hid (HB3.out.trans (HQ.out.mono HB3.out.size))⟩
          case measure => simp [intOf]; omega
    · have hig : ¬ (i : Int) < 10 := by omega
      obtain ⟨wa, hwa⟩ : ∃ wa, wa = wr := ⟨wr, rfl⟩
      subst hwa
      obtain ⟨W4, hW4⟩ : ∃ W4, wa.alloc (.cells (kn.map (Value.int .i64)).toArray 2) = W4 := ⟨_, rfl⟩
      have hn4 : Ids W4 (some ⟨wa.heap.size, 0, none⟩) kn := by rw [← hW4]; exact ids_block (heap_alloc_new wa _) rfl
      have hb4 : Below W2.heap.size W2 W4 := by rw [← hW4]; exact HO.out.trans ((below_box _ _).mono HO.out.size)
      have HN4 := hid hn4
      have HB4 := hid (HB.out.trans (hb4.mono HB.out.size))
      have HW4 := hid hW4
      clear hW4 hn4 hb4 HR HG HO HB
      go_wp2_with fail
      change Code.wp _ _ _ _ (wa.alloc (.cells (kn.map (Value.int .i64)).toArray 2))
      rw [HW4.out]
      clear HW4
      go_loopw [60] (fun iv wr => ∃ i : Nat, i ≤ 7 ∧ iv = .int .i64 i ∧ Hid (Below W4.heap.size W4 wr)) (fun iv _ => 7 - (intOf iv).toNat)
      case atStart => exact ⟨0, by omega, rfl, hid (Below.refl _ _)⟩
      case round =>
        obtain ⟨l, hl, rfl, HO⟩ := hrel
        by_cases hl2 : l < 7
        · have hl3 : (l : Int) < 7 := by omega
          have hc := (HN4.out.below HO.out).at (j := l) hl2
          rw [Nat.zero_add] at hc
          have HNV := hid (i64_all kn (by decide) (j := l) hl2)
          generalize kn.getD l 0 = nv at *
          obtain ⟨wo, hwo⟩ : ∃ wo, wo = wr := ⟨wr, rfl⟩
          subst hwo
          obtain ⟨W5, hW5⟩ : ∃ W5, wo.alloc (.cells (kf.map (Value.int .i64)).toArray 2) = W5 := ⟨_, rfl⟩
          have hp5 : Ids W5 (some ⟨wo.heap.size, 0, none⟩) kf := by rw [← hW5]; exact ids_block (heap_alloc_new wo _) rfl
          have hb5 : Below W4.heap.size W4 W5 := by rw [← hW5]; exact HO.out.trans ((below_box _ _).mono HO.out.size)
          have HP5 := hid hp5
          have HB5 := hid hb5
          have HW5 := hid hW5
          clear hW5 hp5 hb5
          go_wp2_with fail
          change Code.wp _ _ _ _ (wo.alloc (.cells (kf.map (Value.int .i64)).toArray 2))
          rw [HW5.out]
          clear HW5
          go_loopw [66] (fun jv wr => ∃ j : Nat, j ≤ 7 ∧ jv = .int .i64 j ∧ Hid (Below W5.heap.size W5 wr)) (fun jv _ => 7 - (intOf jv).toNat)
          case atStart => exact ⟨0, by omega, rfl, hid (Below.refl _ _)⟩
          case round =>
            obtain ⟨j, hj, rfl, HQ⟩ := hrel
            by_cases hj2 : j < 7
            · have hj3 : (j : Int) < 7 := by omega
              have hd := (HP5.out.below HQ.out).at (j := j) hj2
              rw [Nat.zero_add] at hd
              have HFV := hid (i64_all kf (by decide) (j := j) hj2)
              generalize kf.getD j 0 = fv at *
              have HBQ := hid (fun w (h : Below wr.heap.size wr w) => HQ.out.trans (h.mono HQ.out.size))
              go_wp2_with (go_at_call 5; refine (law5 fv nv _ HFV.out HNV.out).mono ?_; rintro e w6 ⟨rfl, hb6⟩; have HB6 := hid (HBQ.out _ hb6); clear hb6)
              go_roundw
              case rel => exact ⟨j + 1, by omega, by go_num, HB6⟩
              case measure => simp [intOf]; omega
            · have hjg : ¬ (j : Int) < 7 := by omega
              go_wp2_with fail
              go_roundw
              case rel => exact ⟨l + 1, by omega, by go_num, hid (HB5.out.trans (HQ.out.mono HB5.out.size))⟩
              case measure => simp [intOf]; omega
        · have hlg : ¬ (l : Int) < 7 := by omega
          have HB9 := hid (HB4.out.trans (HO.out.mono HB4.out.size))
          clear HO HB4 HN4
          go_wp2_with (first
            | (go_at_call 15; refine (C15.out _).mono ?_; rintro e w7 ⟨rfl, hw7⟩; rw [hw7]; clear hw7)
            | (go_at_call 13; refine (C13.out _).mono ?_; rintro e w8 ⟨rfl, hb8⟩))
          go_ret
          exact ⟨rfl, HB9.out.trans (hb8.mono HB9.out.size)⟩
end Go.Proofs.Ytekkbpaelojmeaa
