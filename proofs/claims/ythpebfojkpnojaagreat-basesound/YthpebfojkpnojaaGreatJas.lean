/- Whether formulas are right, by the program's function. -/
import Derived.Test.YthpebfojkpnojaaGreatJar
/- Whether formulas are right, by the program's function. -/
namespace Go.Proofs.YthpebfojkpnojaaGreat.Tr
open Go.RowKit
set_option linter.unusedVariables false

set_option maxHeartbeats 2000000 in
theorem right34_arg (vars : Int) (a : Option Addr) (n cap : Nat) (w : World) (h : vars < 0 ∨ 1048576 < vars) :
    Calls Tryz.prog 33 #[.agg #[.int .i64 vars, .slice a n cap]] w fun e w' => e = .returned (.int .i64 2) ∧ Below w.heap.size w w' := by
  by_cases h0 : vars < 0
  · clear h
    go_enter Tryz.func33, Tryz.ntmps33
    go_wp2
    go_ret
    exact ⟨rfl, below_box _ _⟩
  · have h1 : 1048576 < vars := by omega
    clear h
    go_enter Tryz.func33, Tryz.ntmps33
    go_wp2
    go_ret
    exact ⟨rfl, below_box _ _⟩

set_option maxHeartbeats 2000000 in
theorem right34_limit (vars : Int) (a : Option Addr) (n cap : Nat) (w : World) (h1 : 0 ≤ vars) (h2 : vars ≤ 1048576) (h : 1048576 < n) :
    Calls Tryz.prog 33 #[.agg #[.int .i64 vars, .slice a n cap]] w fun e w' => e = .returned (.int .i64 3) ∧ Below w.heap.size w w' := by
  have h0 : (1048576 : Int) < (n : Int) := by omega
  clear h
  go_enter Tryz.func33, Tryz.ntmps33
  go_wp2
  go_ret
  exact ⟨rfl, below_box _ _⟩

set_option maxHeartbeats 4000000 in
set_option maxRecDepth 100000 in
theorem right34_scan (vars : Int) (a : Option Addr) (n cap : Nat) (cs : List (List Int)) (w : World) (h1 : 0 ≤ vars) (h2 : vars ≤ 1048576) (h : n ≤ 1048576) (hn : cs.length = n) (hc : Cls w a cs) :
    Calls Tryz.prog 33 #[.agg #[.int .i64 vars, .slice a n cap]] w fun e w' => e = .returned (.int .i64 (Cnt.scan vars 0 cs.flatten)) ∧ Below w.heap.size w w' := by
  have HC := hid (hc.below (below_box w (.cells #[.int .i64 vars, .slice a n cap] 24)))
  have HN := hid hn
  have h0 : ¬ (1048576 : Int) < (n : Int) := by omega
  clear hc hn h
  generalize hr : Cnt.scan vars 0 cs.flatten = res
  have HR := hid hr
  clear hr
  go_enter Tryz.func33, Tryz.ntmps33
  go_wp2
  go_loop [3, 24] (fun s i => ∃ (k c : Nat), k ≤ n ∧ i = .int .i64 k ∧ s = .int .i64 c ∧ Cnt.okc c ∧ Cnt.scan vars c (cs.drop k).flatten = res) (fun _ i => n - (intOf i).toNat)
  case atStart => exact ⟨0, 0, Nat.zero_le _, rfl, rfl, Cnt.okc_zero, by simpa using HR.out⟩
  case round =>
    obtain ⟨k, c, hk, rfl, rfl, hc16, hs⟩ := hrel
    have HS := hid hs
    clear hs
    by_cases hlt : k < n
    · obtain ⟨b, off, a', cap', rfl, hbl, hcell, hL, hln⟩ := HC.out.at (k := k) (by rw [HN.out]; exact hlt)
      have HL := hid hL
      clear hL
      have HS2 : Hid (Cnt.scan vars c ((cs.getD k []).drop 0 ++ (cs.drop (k + 1)).flatten) = res) := by
        have h := HS.out
        rw [Cnt.drop_flat cs k (by rw [HN.out]; exact hlt)] at h
        exact h
      generalize ht : (cs.drop (k + 1)).flatten = tail at HS2
      have HTL := hid ht
      generalize hys : cs.getD k [] = ys at hcell hln HL HS2
      generalize hm : ys.length = m at hcell hln
      have HM := hid hm
      clear hm hys ht
      go_wp2
      go_loop [3, 30] (fun s i => ∃ (j d : Nat), j ≤ m ∧ i = .int .i64 j ∧ s = .int .i64 d ∧ Cnt.okc d ∧ Cnt.scan vars d (ys.drop j ++ tail) = res) (fun _ i => m - (intOf i).toNat)
      case atStart => exact ⟨0, c, Nat.zero_le _, rfl, rfl, hc16, HS2.out⟩
      case round =>
        clear HS2 HS
        obtain ⟨j, d, hj, rfl, rfl, hd0, hs⟩ := hrel
        have HS := hid hs
        have HD0 := hid hd0
        have hd : (d : Int) ≤ 16777216 := by have h : d ≤ 16777216 := hd0; omega
        clear hs hd0
        by_cases hjm : j < m
        · obtain ⟨b2, o2, rfl, hc2, hx1, hx2⟩ := HL.out.at (k := j) (by rw [HM.out]; exact hjm)
          have HS3 : Hid (Cnt.scan vars d (ys.getD j 0 :: (ys.drop (j + 1) ++ tail)) = res) := by
            have h := HS.out
            rw [Cnt.drop_cons ys j (by rw [HM.out]; exact hjm)] at h
            exact h
          generalize ys.getD j 0 = x at hc2 hx1 hx2 HS3
          clear HS
          by_cases h16 : 16777216 < d + 1
          · have HF : Hid (res = 3) := by
              have h := HS3.out
              rw [Cnt.scan_limit _ _ _ _ h16] at h
              exact h.symm
            have h16' : (16777216 : Int) < (d : Int) + 1 := by omega
            clear HS3 h16
            go_wp2
            go_ret
            exact ⟨ret_num HF.out.symm, below_box _ _⟩
          · have h16' : ¬ (16777216 : Int) < (d : Int) + 1 := by omega
            have CX := hid (fun W => var27 x W hx1 hx2)
            have hv0 := Cnt.vr_nonneg x
            by_cases hlit : Cnt.vr x < 1 ∨ vars < Cnt.vr x
            · have HF : Hid (res = 4) := by
                have h := HS3.out
                rw [Cnt.scan_lit _ _ _ _ h16 hlit] at h
                exact h.symm
              clear HS3
              generalize Cnt.vr x = v at *
              by_cases hv1 : v < 1
              · clear hlit
                go_wp2_with (go_at_call 71; refine (CX.out _).mono ?_; rintro e w' ⟨rfl, rfl⟩)
                go_ret
                exact ⟨ret_num HF.out.symm, below_box _ _⟩
              · have hv2 : vars < v := by omega
                clear hlit
                go_wp2_with (go_at_call 71; refine (CX.out _).mono ?_; rintro e w' ⟨rfl, rfl⟩)
                go_ret
                exact ⟨ret_num HF.out.symm, below_box _ _⟩
            · have HF : Hid (Cnt.scan vars (d + 1) (ys.drop (j + 1) ++ tail) = res) := by
                have h := HS3.out
                rw [Cnt.scan_on _ _ _ _ h16 hlit] at h
                exact h
              have HD1 : Hid (Cnt.okc (d + 1)) := by show d + 1 ≤ 16777216; omega
              clear HS3 h16
              have hv1 : ¬ Cnt.vr x < 1 := by omega
              have hv2 : ¬ vars < Cnt.vr x := by omega
              generalize Cnt.vr x = v at *
              clear hlit
              go_wp2_with fail
              refine (CX.out _).mono ?_
              rintro e w' ⟨rfl, rfl⟩
              clear hd h16'
              go_wp2_with fail
              go_round
              case rel => exact ⟨j + 1, d + 1, by omega, by go_num, by go_num, HD1.out, HF.out⟩
              case measure => simp [intOf]; omega
        · have HF : Hid (Cnt.scan vars d tail = res) := by
            have h := HS.out
            rw [List.drop_of_length_le (by rw [HM.out]; omega)] at h
            exact h
          clear HS
          go_wp2
          go_round
          case rel => exact ⟨k + 1, d, by omega, by go_num, rfl, HD0.out, by rw [HTL.out]; exact HF.out⟩
          case measure => simp [intOf]; omega
    · have HS2 : Hid (res = 0) := by
        have h := HS.out
        rw [List.drop_of_length_le (by rw [HN.out]; omega)] at h
        exact h.symm
      clear HS
      go_wp2
      go_ret
      exact ⟨ret_num HS2.out.symm, below_box _ _⟩

end Go.Proofs.YthpebfojkpnojaaGreat.Tr

/- Worlds that differ by draws alone. -/
namespace Go.Proofs.YthpebfojkpnojaaGreat.Tr
open Go.RowKit
set_option linter.unusedVariables false

def Drawn (w w' : World) : Prop := ∃ q, w' = w.drewN q
theorem Drawn.refl (w : World) : Drawn w w := ⟨0, rfl⟩
theorem Drawn.drewN {w w' : World} (h : Drawn w w') (n : Nat) : Drawn w (w'.drewN n) := by obtain ⟨q, rfl⟩ := h; exact ⟨q + n, by rw [World.drewN_drewN]⟩
theorem Drawn.trans {w w' w'' : World} (h : Drawn w w') (k : Drawn w' w'') : Drawn w w'' := by obtain ⟨q, rfl⟩ := k; exact h.drewN q
theorem Drawn.cell {w w' : World} (h : Drawn w w') (a : Addr) : w'.cell? a = w.cell? a := by obtain ⟨q, rfl⟩ := h; rfl
theorem Drawn.below {B : Nat} {a w w' : World} (h : Drawn w w') (hb : Below B a w) : Below B a w' := by obtain ⟨q, rfl⟩ := h; exact ⟨hb.os, hb.tape, hb.output, hb.size, hb.block⟩
theorem Drawn.owns {w w' : World} (h : Drawn w w') {base : Nat} {e : TypeId} {size : Nat} {v : Value} {n : Nat} {xs : List Value} (ho : w.ownsRow base e size v n xs) : w'.ownsRow base e size v n xs := by obtain ⟨q, rfl⟩ := h; exact ho
theorem Drawn.lits {w w' : World} (h : Drawn w w') {a : Option Addr} {xs : List Int} (hx : Lits w a xs) : Lits w' a xs := hx.below (h.below (Below.refl _ _))
theorem Drawn.bools {w w' : World} (h : Drawn w w') {a : Option Addr} {xs : List Bool} (hx : Bools w a xs) : Bools w' a xs := hx.below (h.below (Below.refl _ _))
theorem Drawn.below' {w w' : World} (h : Drawn w w') : Below w.heap.size w w' := h.below (Below.refl _ _)
end Go.Proofs.YthpebfojkpnojaaGreat.Tr

/- Whether formulas are right, by the document's own function. -/
namespace Go.Proofs.YthpebfojkpnojaaGreat.Tr
open Go.RowKit
set_option linter.unusedVariables false

set_option maxHeartbeats 2000000 in
theorem right43_arg (vars : Int) (a : Option Addr) (n cap : Nat) (w : World) (h : vars < 0 ∨ 1048576 < vars) :
    Calls Tryz.prog 36 #[.agg #[.int .i64 vars, .slice a n cap]] w fun e w' => e = .returned (.int .i64 2) ∧ Below w.heap.size w w' := by
  by_cases h0 : vars < 0
  · clear h
    go_enter Tryz.func36, Tryz.ntmps36
    go_wp2
    go_ret
    exact ⟨rfl, below_box _ _⟩
  · have h1 : 1048576 < vars := by omega
    clear h
    go_enter Tryz.func36, Tryz.ntmps36
    go_wp2
    go_ret
    exact ⟨rfl, below_box _ _⟩

set_option maxHeartbeats 2000000 in
theorem right43_limit (vars : Int) (a : Option Addr) (n cap : Nat) (w : World) (h1 : 0 ≤ vars) (h2 : vars ≤ 1048576) (h : 1048576 < n) :
    Calls Tryz.prog 36 #[.agg #[.int .i64 vars, .slice a n cap]] w fun e w' => e = .returned (.int .i64 3) ∧ Below w.heap.size w w' := by
  have h0 : (1048576 : Int) < (n : Int) := by omega
  clear h
  go_enter Tryz.func36, Tryz.ntmps36
  go_wp2
  go_ret
  exact ⟨rfl, below_box _ _⟩

set_option maxHeartbeats 4000000 in
set_option maxRecDepth 100000 in
theorem right43_scan (vars : Int) (a : Option Addr) (n cap : Nat) (cs : List (List Int)) (w : World) (h1 : 0 ≤ vars) (h2 : vars ≤ 1048576) (h : n ≤ 1048576) (hn : cs.length = n) (hc : Cls w a cs) :
    Calls Tryz.prog 36 #[.agg #[.int .i64 vars, .slice a n cap]] w fun e w' => e = .returned (.int .i64 (Cnt.scan vars 0 cs.flatten)) ∧ Below w.heap.size w w' := by
  have HC := hid (hc.below (below_box w (.cells #[.int .i64 vars, .slice a n cap] 24)))
  have HN := hid hn
  have h0 : ¬ (1048576 : Int) < (n : Int) := by omega
  clear hc hn h
  generalize hr : Cnt.scan vars 0 cs.flatten = res
  have HR := hid hr
  clear hr
  go_enter Tryz.func36, Tryz.ntmps36
  go_wp2
  go_loopw [3, 4] (fun s i wr => ∃ (k c : Nat), k ≤ n ∧ i = .int .i64 k ∧ s = .int .i64 c ∧ Cnt.okc c ∧ Cnt.scan vars c (cs.drop k).flatten = res ∧ Drawn (w.alloc (.cells #[.int .i64 vars, .slice a n cap] 24)) wr) (fun _ i _ => n - (intOf i).toNat)
  case atStart => exact ⟨0, 0, Nat.zero_le _, rfl, rfl, Cnt.okc_zero, by simpa using HR.out, Drawn.refl _⟩
  case round =>
    obtain ⟨k, c, hk, rfl, rfl, hc16, hs, HD⟩ := hrel
    have HS := hid hs
    have H16 := hid hc16
    have hbx0 : wr.cell? ⟨w.heap.size, 0, none⟩ = some (.int .i64 vars) := by rw [HD.cell]; simp
    have hbx1 : wr.cell? ⟨w.heap.size, 1, none⟩ = some (.slice a n cap) := by rw [HD.cell]; simp
    have HBe := hid (HD.below (below_box w (.cells #[.int .i64 vars, .slice a n cap] 24)))
    clear hs hc16
    by_cases hlt : k < n
    · obtain ⟨b, off, a', cap', rfl, hbl, hcell, hL, hln⟩ := HC.out.at (k := k) (by rw [HN.out]; exact hlt)
      rw [← HD.cell] at hcell
      have HL := hid hL
      clear hL
      have HS2 : Hid (Cnt.scan vars c ((cs.getD k []).drop 0 ++ (cs.drop (k + 1)).flatten) = res) := by
        have h := HS.out
        rw [Cnt.drop_flat cs k (by rw [HN.out]; exact hlt)] at h
        exact h
      generalize ht : (cs.drop (k + 1)).flatten = tail at HS2
      have HTL := hid ht
      generalize hys : cs.getD k [] = ys at hcell hln HL HS2
      generalize hm : ys.length = m at hcell hln
      have HM := hid hm
      clear hm hys ht
      go_wp2
      have HCE : Hid (∀ W, Drawn wr W → W.cell? ⟨w.heap.size, 0, none⟩ = some (.int .i64 vars) ∧ W.cell? ⟨w.heap.size, 1, none⟩ = some (.slice (some ⟨b, off, none⟩) n cap) ∧ W.cell? ⟨b, off + k, none⟩ = some (.slice a' m cap') ∧ Lits W a' ys) := fun W hW =>
        ⟨by rw [hW.cell]; exact hbx0, by rw [hW.cell]; exact hbx1, by rw [hW.cell]; exact hcell, hW.lits (HD.lits HL.out)⟩
      go_loopw [3, 5] (fun s i wr2 => ∃ (j d : Nat), j ≤ m ∧ i = .int .i64 j ∧ s = .int .i64 d ∧ Cnt.okc d ∧ Cnt.scan vars d (ys.drop j ++ tail) = res ∧ Drawn wr wr2) (fun _ i _ => m - (intOf i).toNat)
      case atStart => exact ⟨0, c, Nat.zero_le _, rfl, rfl, H16.out, HS2.out, Drawn.refl _⟩
      case round =>
        clear HS2 HS
        rename_i wr2 _ _
        obtain ⟨j, d, hj, rfl, rfl, hd0, hs, HD2⟩ := hrel
        have HS := hid hs
        have HD0 := hid hd0
        have hd : (d : Int) ≤ 16777216 := by have h : d ≤ 16777216 := hd0; omega
        clear hs hd0 hbx0 hbx1 hcell
        obtain ⟨hbx0, hbx1, hcell, hLW⟩ := HCE.out _ HD2
        have HLW := hid hLW
        clear hLW
        by_cases hjm : j < m
        · obtain ⟨b2, o2, rfl, hc2, hx1, hx2⟩ := HLW.out.at (k := j) (by rw [HM.out]; exact hjm)
          have HS3 : Hid (Cnt.scan vars d (ys.getD j 0 :: (ys.drop (j + 1) ++ tail)) = res) := by
            have h := HS.out
            rw [Cnt.drop_cons ys j (by rw [HM.out]; exact hjm)] at h
            exact h
          generalize ys.getD j 0 = x at hc2 hx1 hx2 HS3
          clear HS
          by_cases h16 : 16777216 < d + 1
          · have HF : Hid (res = 3) := by
              have h := HS3.out
              rw [Cnt.scan_limit _ _ _ _ h16] at h
              exact h.symm
            have h16' : (16777216 : Int) < (d : Int) + 1 := by omega
            clear HS3 h16
            go_wp2
            go_ret
            exact ⟨ret_num HF.out.symm, HD2.below HBe.out⟩
          · have h16' : ¬ (16777216 : Int) < (d : Int) + 1 := by omega
            have CX := hid (fun W => var30 x W hx1 hx2)
            have hv0 := Cnt.vr_nonneg x
            have HZ : Hid ((Cnt.vr x < 1 → x = 0) ∧ (x = 0 → Cnt.vr x < 1)) := by
              show _ ∧ _
              unfold Cnt.vr
              split <;> constructor <;> intro <;> omega
            by_cases hlit : Cnt.vr x < 1 ∨ vars < Cnt.vr x
            · have HF : Hid (res = 4) := by
                have h := HS3.out
                rw [Cnt.scan_lit _ _ _ _ h16 hlit] at h
                exact h.symm
              clear HS3
              generalize Cnt.vr x = v at *
              by_cases hv1 : v < 1
              · have hx0 : (x == 0) = true := by simp; exact HZ.out.1 hv1
                clear hlit HZ
                go_wp2_with fail
                go_quiet ((go_at_call 83; exact Calls.quiet_of_same (CX.out _)))
                go_wp2_with fail
                go_ret
                exact ⟨ret_num HF.out.symm, (HD2.drewN _).below HBe.out⟩
              · have hv2 : vars < v := by omega
                have hx0 : (x == 0) = false := by simp; exact fun h => hv1 (HZ.out.2 h)
                clear hlit HZ
                go_wp2_with fail
                go_quiet ((go_at_call 83; exact Calls.quiet_of_same (CX.out _)))
                go_wp2_with fail
                go_ret
                exact ⟨ret_num HF.out.symm, (HD2.drewN _).below HBe.out⟩
            · have HF : Hid (Cnt.scan vars (d + 1) (ys.drop (j + 1) ++ tail) = res) := by
                have h := HS3.out
                rw [Cnt.scan_on _ _ _ _ h16 hlit] at h
                exact h
              have HD1 : Hid (Cnt.okc (d + 1)) := by show d + 1 ≤ 16777216; omega
              clear HS3 h16
              have hv1 : ¬ Cnt.vr x < 1 := by omega
              have hv2 : ¬ vars < Cnt.vr x := by omega
              have hx0 : (x == 0) = false := by simp; exact fun h => hv1 (HZ.out.2 h)
              generalize Cnt.vr x = v at *
              clear hlit HZ
              have hdv : decide (vars < v) = false := by simp; omega
              go_wp2_with fail
              clear hd h16'
              go_quiet ((go_at_call 83; exact Calls.quiet_of_same (CX.out _)))
              go_wp2_with fail
              go_roundw
              case rel => exact ⟨j + 1, d + 1, by omega, by go_num, by go_num, HD1.out, HF.out, HD2.drewN _⟩
              case measure => simp [intOf]; omega
        · have HF : Hid (Cnt.scan vars d tail = res) := by
            have h := HS.out
            rw [List.drop_of_length_le (by rw [HM.out]; omega)] at h
            exact h
          clear HS
          go_wp2
          go_roundw
          case rel => exact ⟨k + 1, d, by omega, by go_num, rfl, HD0.out, by rw [HTL.out]; exact HF.out, HD.trans HD2⟩
          case measure => simp [intOf]; omega
    · have HS2 : Hid (res = 0) := by
        have h := HS.out
        rw [List.drop_of_length_le (by rw [HN.out]; omega)] at h
        exact h.symm
      clear HS
      go_wp2
      go_ret
      exact ⟨ret_num HS2.out.symm, HBe.out⟩

theorem right34 (vars : Int) (a : Option Addr) (n cap : Nat) (cs : List (List Int)) (w : World) (hn : cs.length = n) (hc : Cls w a cs) :
    Calls Tryz.prog 33 #[.agg #[.int .i64 vars, .slice a n cap]] w fun e w' => e = .returned (.int .i64 (Cnt.right vars cs)) ∧ Below w.heap.size w w' := by
  unfold Cnt.right
  by_cases h1 : vars < 0 ∨ 1048576 < vars
  · rw [if_pos h1]; exact right34_arg vars a n cap w h1
  · rw [if_neg h1, hn]
    by_cases h2 : 1048576 < n
    · rw [if_pos h2]; exact right34_limit vars a n cap w (by omega) (by omega) h2
    · rw [if_neg h2]; exact right34_scan vars a n cap cs w (by omega) (by omega) (by omega) hn hc
theorem right43 (vars : Int) (a : Option Addr) (n cap : Nat) (cs : List (List Int)) (w : World) (hn : cs.length = n) (hc : Cls w a cs) :
    Calls Tryz.prog 36 #[.agg #[.int .i64 vars, .slice a n cap]] w fun e w' => e = .returned (.int .i64 (Cnt.right vars cs)) ∧ Below w.heap.size w w' := by
  unfold Cnt.right
  by_cases h1 : vars < 0 ∨ 1048576 < vars
  · rw [if_pos h1]; exact right43_arg vars a n cap w h1
  · rw [if_neg h1, hn]
    by_cases h2 : 1048576 < n
    · rw [if_pos h2]; exact right43_limit vars a n cap w (by omega) (by omega) h2
    · rw [if_neg h2]; exact right43_scan vars a n cap cs w (by omega) (by omega) (by omega) hn hc
end Go.Proofs.YthpebfojkpnojaaGreat.Tr

