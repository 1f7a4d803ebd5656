/- Whether formulas are right, by the program's function. -/
import Derived.Test.YtlhpnkgdnmnclaaDoorCnf
namespace Go.Proofs.YtlhpnkgdnmnclaaDoor
open Go.RowKit
set_option linter.unusedVariables false

set_option maxHeartbeats 2000000 in
theorem right21_arg (vars : Int) (a : Option Addr) (n cap : Nat) (w : World) (h : vars < 0 ∨ 1048576 < vars) :
    Calls Tryd.prog 21 #[.agg #[.int .i64 vars, .slice a n cap]] w fun e w' => e = .returned (.int .i64 2) ∧ Below w.heap.size w w' := by
  by_cases h0 : vars < 0
  · clear h
    go_enter Tryd.func21, Tryd.ntmps21
    go_wp2
    go_ret
    exact ⟨rfl, below_box _ _⟩
  · have h1 : 1048576 < vars := by omega
    clear h
    go_enter Tryd.func21, Tryd.ntmps21
    go_wp2
    go_ret
    exact ⟨rfl, below_box _ _⟩

set_option maxHeartbeats 2000000 in
theorem right21_limit (vars : Int) (a : Option Addr) (n cap : Nat) (w : World) (h1 : 0 ≤ vars) (h2 : vars ≤ 1048576) (h : 1048576 < n) :
    Calls Tryd.prog 21 #[.agg #[.int .i64 vars, .slice a n cap]] w fun e w' => e = .returned (.int .i64 3) ∧ Below w.heap.size w w' := by
  have h0 : (1048576 : Int) < (n : Int) := by omega
  clear h
  go_enter Tryd.func21, Tryd.ntmps21
  go_wp2
  go_ret
  exact ⟨rfl, below_box _ _⟩

set_option maxHeartbeats 4000000 in
set_option maxRecDepth 100000 in
theorem right21_scan (vars : Int) (a : Option Addr) (n cap : Nat) (cs : List (List Int)) (w : World) (h1 : 0 ≤ vars) (h2 : vars ≤ 1048576) (h : n ≤ 1048576) (hn : cs.length = n) (hc : Cls w a cs) :
    Calls Tryd.prog 21 #[.agg #[.int .i64 vars, .slice a n cap]] w fun e w' => e = .returned (.int .i64 (Cnf.scan vars 0 cs.flatten)) ∧ Below w.heap.size w w' := by
  have HC := hid (hc.below (below_box w (.cells #[.int .i64 vars, .slice a n cap] 25)))
  have HN := hid hn
  have h0 : ¬ (1048576 : Int) < (n : Int) := by omega
  clear hc hn h
  generalize hr : Cnf.scan vars 0 cs.flatten = res
  have HR := hid hr
  clear hr
  go_enter Tryd.func21, Tryd.ntmps21
  go_wp2
  go_loop [3, 24] (fun s i => ∃ (k c : Nat), k ≤ n ∧ i = .int .i64 k ∧ s = .int .i64 c ∧ Cnf.okc c ∧ Cnf.scan vars c (cs.drop k).flatten = res) (fun _ i => n - (intOf i).toNat)
  case atStart => exact ⟨0, 0, Nat.zero_le _, rfl, rfl, Cnf.okc_zero, by simpa using HR.out⟩
  case round =>
    obtain ⟨k, c, hk, rfl, rfl, hc16, hs⟩ := hrel
    have HS := hid hs
    clear hs
    by_cases hlt : k < n
    · obtain ⟨b, off, a', cap', rfl, hbl, hcell, hL, hln⟩ := HC.out.at (k := k) (by rw [HN.out]; exact hlt)
      have HL := hid hL
      clear hL
      have HS2 : Hid (Cnf.scan vars c ((cs.getD k []).drop 0 ++ (cs.drop (k + 1)).flatten) = res) := by
        have h := HS.out
        rw [Cnf.drop_flat cs k (by rw [HN.out]; exact hlt)] at h
        exact h
      generalize ht : (cs.drop (k + 1)).flatten = tail at HS2
      have HTL := hid ht
      generalize hys : cs.getD k [] = ys at hcell hln HL HS2
      generalize hm : ys.length = m at hcell hln
      have HM := hid hm
      clear hm hys ht
      go_wp2
      go_loop [3, 30] (fun s i => ∃ (j d : Nat), j ≤ m ∧ i = .int .i64 j ∧ s = .int .i64 d ∧ Cnf.okc d ∧ Cnf.scan vars d (ys.drop j ++ tail) = res) (fun _ i => m - (intOf i).toNat)
      case atStart => exact ⟨0, c, Nat.zero_le _, rfl, rfl, hc16, HS2.out⟩
      case round =>
        clear HS2 HS
        obtain ⟨j, d, hj, rfl, rfl, hd0, hs⟩ := hrel
        have HS := hid hs
        have HD0 := hid hd0
        have hd : (d : Int) ≤ 16777216 := by have h : d ≤ 16777216 := hd0; omega
        clear hs hd0
        by_cases hjm : j < m
        · obtain ⟨b2, o2, rfl, hc2, hx1, hx2⟩ := HL.out.at (k := j) (by rw [HM.out]; exact hjm)
          have HS3 : Hid (Cnf.scan vars d (ys.getD j 0 :: (ys.drop (j + 1) ++ tail)) = res) := by
            have h := HS.out
            rw [Cnf.drop_cons ys j (by rw [HM.out]; exact hjm)] at h
            exact h
          generalize ys.getD j 0 = x at hc2 hx1 hx2 HS3
          clear HS
          by_cases h16 : 16777216 < d + 1
          · have HF : Hid (res = 3) := by
              have h := HS3.out
              rw [Cnf.scan_limit _ _ _ _ h16] at h
              exact h.symm
            have h16' : (16777216 : Int) < (d : Int) + 1 := by omega
            clear HS3 h16
            go_wp2
            go_ret
            exact ⟨ret_num HF.out.symm, below_box _ _⟩
          · have h16' : ¬ (16777216 : Int) < (d : Int) + 1 := by omega
            have CX := hid (fun W => var35 x W hx1 hx2)
            have hv0 := Cnf.vr_nonneg x
            by_cases hlit : Cnf.vr x < 1 ∨ vars < Cnf.vr x
            · have HF : Hid (res = 4) := by
                have h := HS3.out
                rw [Cnf.scan_lit _ _ _ _ h16 hlit] at h
                exact h.symm
              clear HS3
              generalize Cnf.vr x = v at *
              by_cases hv1 : v < 1
              · clear hlit
                go_wp2_with (go_at_call 35; refine (CX.out _).mono ?_; rintro e w' ⟨rfl, rfl⟩)
                go_ret
                exact ⟨ret_num HF.out.symm, below_box _ _⟩
              · have hv2 : vars < v := by omega
                clear hlit
                go_wp2_with (go_at_call 35; refine (CX.out _).mono ?_; rintro e w' ⟨rfl, rfl⟩)
                go_ret
                exact ⟨ret_num HF.out.symm, below_box _ _⟩
            · have HF : Hid (Cnf.scan vars (d + 1) (ys.drop (j + 1) ++ tail) = res) := by
                have h := HS3.out
                rw [Cnf.scan_on _ _ _ _ h16 hlit] at h
                exact h
              have HD1 : Hid (Cnf.okc (d + 1)) := by show d + 1 ≤ 16777216; omega
              clear HS3 h16
              have hv1 : ¬ Cnf.vr x < 1 := by omega
              have hv2 : ¬ vars < Cnf.vr x := by omega
              generalize Cnf.vr x = v at *
              clear hlit
              go_wp2_with fail
              refine (CX.out _).mono ?_
              rintro e w' ⟨rfl, rfl⟩
              clear hd h16'
              go_wp2_with fail
              go_round
              case rel => exact ⟨j + 1, d + 1, by omega, by go_num, by go_num, HD1.out, HF.out⟩
              case measure => simp [intOf]; omega
        · have HF : Hid (Cnf.scan vars d tail = res) := by
            have h := HS.out
            rw [List.drop_of_length_le (by rw [HM.out]; omega)] at h
            exact h
          clear HS
          go_wp2
          go_round
          case rel => exact ⟨k + 1, d, by omega, by go_num, rfl, HD0.out, by rw [HTL.out]; exact HF.out⟩
          case measure => simp [intOf]; omega
    · have HS2 : Hid (res = 0) := by
        have h := HS.out
        rw [List.drop_of_length_le (by rw [HN.out]; omega)] at h
        exact h.symm
      clear HS
      go_wp2
      go_ret
      exact ⟨ret_num HS2.out.symm, below_box _ _⟩

end Go.Proofs.YtlhpnkgdnmnclaaDoor
