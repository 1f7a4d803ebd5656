/- Print by the document's own function; Print at wrong formulas. -/
import Derived.Test.YtlhpnkgdnmnclaaDoorDigits
import Derived.Deep.RegionHeld3
namespace Go.Proofs.YtlhpnkgdnmnclaaDoor
open Go.RowKit
set_option linter.unusedVariables false

def bstr (l : List UInt8) : ByteArray := ⟨l.toArray⟩
theorem bstr_app (x y : List UInt8) : bstr x ++ bstr y = bstr (x ++ y) := bs_append x y
theorem bstr_size (x : List UInt8) : (bstr x).size = x.length := by
  show x.toArray.size = _
  simp
theorem dstr_eq (i : Int) : dstr i = bstr (Lib.itoa i) := rfl

theorem right21 (vars : Int) (a : Option Addr) (n cap : Nat) (cs : List (List Int)) (w : World) (hn : cs.length = n) (hc : Cls w a cs) :
    Calls Tryd.prog 21 #[.agg #[.int .i64 vars, .slice a n cap]] w fun e w' => e = .returned (.int .i64 (Cnf.right vars cs)) ∧ Below w.heap.size w w' := by
  unfold Cnf.right
  by_cases h1 : vars < 0 ∨ 1048576 < vars
  · rw [if_pos h1]; exact right21_arg vars a n cap w h1
  · rw [if_neg h1, hn]
    by_cases h2 : 1048576 < n
    · rw [if_pos h2]; exact right21_limit vars a n cap w (by omega) (by omega) h2
    · rw [if_neg h2]; exact right21_scan vars a n cap cs w (by omega) (by omega) (by omega) hn hc
theorem right32 (vars : Int) (a : Option Addr) (n cap : Nat) (cs : List (List Int)) (w : World) (hn : cs.length = n) (hc : Cls w a cs) :
    Calls Tryd.prog 32 #[.agg #[.int .i64 vars, .slice a n cap]] w fun e w' => e = .returned (.int .i64 (Cnf.right vars cs)) ∧ Below w.heap.size w w' := by
  unfold Cnf.right
  by_cases h1 : vars < 0 ∨ 1048576 < vars
  · rw [if_pos h1]; exact right32_arg vars a n cap w h1
  · rw [if_neg h1, hn]
    by_cases h2 : 1048576 < n
    · rw [if_pos h2]; exact right32_limit vars a n cap w (by omega) (by omega) h2
    · rw [if_neg h2]; exact right32_scan vars a n cap cs w (by omega) (by omega) (by omega) hn hc

theorem box_below (w : World) (o : Obj) {w' : World} (h : Below (w.alloc o).heap.size (w.alloc o) w') : Below w.heap.size w w' := (below_box w o).trans (h.mono (by simp))

set_option maxHeartbeats 2000000 in
theorem print14_err (vars : Int) (a : Option Addr) (n cap : Nat) (cs : List (List Int)) (w : World) (hn : cs.length = n) (hc : Cls w a cs) (hr : ¬ Cnf.right vars cs = 0) :
    Calls Tryd.prog 14 #[.agg #[.int .i64 vars, .slice a n cap]] w fun e w' => e = .returned (.tuple #[.slice none 0 0, .int .i64 (Cnf.right vars cs)]) ∧ Below w.heap.size w w' := by
  have C := hid (right21 vars a n cap cs (w.alloc (.cells #[.int .i64 vars, .slice a n cap] 25)) hn (hc.below (below_box _ _)))
  generalize Cnf.right vars cs = r at hr C
  clear hc hn
  go_enter Tryd.func14, Tryd.ntmps14
  go_wp2_with (go_at_call 21; refine C.out.mono ?_; clear C; rintro e W2 ⟨rfl, hb⟩; replace hb := hid hb)
  go_ret2
  exact ⟨rfl, box_below w _ hb.out⟩

set_option maxHeartbeats 2000000 in
theorem print15_err (vars : Int) (a : Option Addr) (n cap : Nat) (cs : List (List Int)) (w : World) (hn : cs.length = n) (hc : Cls w a cs) (hr : ¬ Cnf.right vars cs = 0) :
    Calls Tryd.prog 15 #[.agg #[.int .i64 vars, .slice a n cap]] w fun e w' => e = .returned (.tuple #[.string ⟨#[]⟩, .int .i64 (Cnf.right vars cs)]) ∧ Below w.heap.size w w' := by
  have C := hid (right32 vars a n cap cs (w.alloc (.cells #[.int .i64 vars, .slice a n cap] 25)) hn (hc.below (below_box _ _)))
  generalize Cnf.right vars cs = r at hr C
  clear hc hn
  go_enter Tryd.func15, Tryd.ntmps15
  go_wp2_with (go_at_call 32; refine C.out.mono ?_; clear C; rintro e W2 ⟨rfl, hb⟩; replace hb := hid hb)
  go_ret2
  exact ⟨rfl, box_below w _ hb.out⟩

set_option maxRecDepth 100000 in
set_option maxHeartbeats 4000000 in
theorem print15 (vars : Int) (a : Option Addr) (n cap : Nat) (cs : List (List Int)) (w : World) (hn : cs.length = n) (hv0 : 0 ≤ vars) (hv1 : vars ≤ 1048576) (hN : n ≤ 1048576) (hM : cs.flatten.length ≤ 16777216) (hc : Cls w a cs) (hs : Cnf.scan vars 0 cs.flatten = 0) :
    Calls Tryd.prog 15 #[.agg #[.int .i64 vars, .slice a n cap]] w fun e w' => e = .returned (.tuple #[.string (bstr (Dim.printB vars cs)), .int .i64 0]) ∧ Below w.heap.size w w' := by
  have hB1 := below_box w (.cells #[.int .i64 vars, .slice a n cap] 25)
  have C32 := hid (right32_scan vars a n cap cs (w.alloc (.cells #[.int .i64 vars, .slice a n cap] 25)) hv0 hv1 hN hn (hc.below hB1))
  rw [hs] at C32
  have HC := hid hc
  have HN := hid hn
  have HM := hid hM
  have hbox := World.alloc_heap_new w (.cells #[.int .i64 vars, .slice a n cap] 25)
  have e0 := row_cell hbox 0
  have e1 := row_cell hbox 1
  simp only [List.getElem?_toArray, List.getElem?_cons_zero, List.getElem?_cons_succ] at e0 e1
  have HE := hid (fun (W : World) (h : Below (w.alloc (.cells #[.int .i64 vars, .slice a n cap] 25)).heap.size (w.alloc (.cells #[.int .i64 vars, .slice a n cap] 25)) W) => (show W.cell? ⟨w.heap.size, 0, none⟩ = some (.int .i64 vars) ∧ W.cell? ⟨w.heap.size, 1, none⟩ = some (.slice a n cap) from ⟨(h.cell (p := ⟨w.heap.size, 0, none⟩) (by simp)).trans e0, (h.cell (p := ⟨w.heap.size, 1, none⟩) (by simp)).trans e1⟩))
  have HB1 := hid hB1
  clear hB1 hbox e0 e1 hc hn hM hs
  go_enter Tryd.func15, Tryd.ntmps15
  go_wp2_with (go_at_call 32; refine C32.out.mono ?_; clear C32; rintro e W2 ⟨rfl, hb⟩
               have x0 := (HE.out W2 hb).1
               have x1 := (HE.out W2 hb).2
               replace hb := hid hb)
  have D1 := dstr_len vars (by omega) (by omega)
  have D2 := dstr_len (n : Int) (by omega) (by omega)
  have S1 : ∀ W, Below W2.heap.size W2 W → Below W2.heap.size W2 W ∧ W.cell? ⟨w.heap.size, 0, none⟩ = some (.int .i64 vars) ∧ W.cell? ⟨w.heap.size, 1, none⟩ = some (.slice a n cap) := fun W hW => ⟨hW, HE.out W (hb.out.trans (hW.mono hb.out.size))⟩
  have CA := hid (fun (W : World) (hW : Below W2.heap.size W2 W) => (digits33 vars (by omega) (by omega) W).mono (R' := fun e w' => e = .returned (.string (dstr vars)) ∧ Below W2.heap.size W2 w' ∧ w'.cell? ⟨w.heap.size, 0, none⟩ = some (.int .i64 vars) ∧ w'.cell? ⟨w.heap.size, 1, none⟩ = some (.slice a n cap)) fun e w' h => ⟨h.1, S1 w' (hW.trans (h.2.mono hW.size))⟩)
  have CB := hid (fun (W : World) (hW : Below W2.heap.size W2 W) => (digits33 n (by omega) (by omega) W).mono (R' := fun e w' => e = .returned (.string (dstr n)) ∧ Below W2.heap.size W2 w' ∧ w'.cell? ⟨w.heap.size, 0, none⟩ = some (.int .i64 vars) ∧ w'.cell? ⟨w.heap.size, 1, none⟩ = some (.slice a n cap)) fun e w' h => ⟨h.1, S1 w' (hW.trans (h.2.mono hW.size))⟩)
  have HH := hid (show Dim.headB vars n = [112, 32, 99, 110, 102, 32] ++ Lib.itoa vars ++ [32] ++ Lib.itoa n ++ [10] from rfl)
  have hHH : bstr (Dim.headB vars n) = ⟨#[112, 32, 99, 110, 102, 32]⟩ ++ dstr vars ++ ⟨#[32]⟩ ++ dstr n ++ ⟨#[10]⟩ := by
    rw [HH.out, ← bstr_app, ← bstr_app, ← bstr_app, ← bstr_app]; rfl
  generalize dstr vars = X1 at CA D1 hHH
  generalize dstr (n : Int) = X2 at CB D2 hHH
  have HH2 := hid hHH
  clear S1 hHH HH
  have kk : Below W2.heap.size W2 W2.drew ∧ W2.drew.cell? ⟨w.heap.size, 0, none⟩ = some (.int .i64 vars) ∧ W2.drew.cell? ⟨w.heap.size, 1, none⟩ = some (.slice a n cap) := ⟨(Below.refl _ _).drew, x0, x1⟩
  have KK := hid kk
  clear kk
  have g1 : ¬ 9223372036854775807 < 6 + X1.size := by omega
  have g2 : ¬ 9223372036854775807 < 6 + X1.size + 1 := by omega
  have g3 : ¬ 9223372036854775807 < 6 + X1.size + 1 + X2.size := by omega
  have g4 : ¬ 9223372036854775807 < 6 + X1.size + 1 + X2.size + 1 := by omega
  go_region_held3 (fun W => Below W2.heap.size W2 W ∧ W.cell? ⟨w.heap.size, 0, none⟩ = some (.int .i64 vars) ∧ W.cell? ⟨w.heap.size, 1, none⟩ = some (.slice a n cap))
    (first | exact KK.out | exact ⟨hb9, z0, z1⟩ | exact ⟨hb8, y0, y1⟩)
    (first
      | (go_at_call_of 33 (Value.int IntKind.i64 vars); refine (CA.out _ ?_).mono ?_; (first | exact (Below.refl _ _).drew | exact hb9 | exact hb8); rintro e w8 ⟨rfl, hb8, y0, y1⟩)
      | (go_at_call 33; refine (CB.out _ ?_).mono ?_; (first | exact (Below.refl _ _).drew | exact hb8 | exact hb9); rintro e w9 ⟨rfl, hb9, z0, z1⟩))
  all_goals
    rename_i hH
    obtain ⟨hBL, v0, v1⟩ := hH
    have HBL := hid (hb.out.trans (hBL.mono hb.out.size))
    have HW := hid (fun (W : World) (h : Below (w.alloc (.cells #[.int .i64 vars, .slice a n cap] 25)).heap.size (w.alloc (.cells #[.int .i64 vars, .slice a n cap] 25)) W) => box_below w _ h)
    rw [← HH2.out]
    have hSL : (Dim.headB vars n).length ≤ 50 := by
      have a1 := Lib.itoa_length_le vars (by omega) (by omega)
      have a2 := Lib.itoa_length_le (n : Int) (by omega) (by omega)
      simp [Dim.headB]; omega
    have HSL := hid hSL
    clear KK CA CB HH2 hBL hSL
    clear hb x0 x1 D1 D2 g1 g2 g3 g4
    generalize w.alloc (.cells #[.int .i64 vars, .slice a n cap] 25) = WB at HE HBL HW
    go_wp2
    go_loopw [5, 6] (fun s i wr => ∃ (k : Nat) (X : List UInt8) (S : ByteArray), k ≤ n ∧ i = .int .i64 k ∧ s = .string S ∧ Hid (S = bstr X) ∧ Hid (X = Dim.headB vars n ++ ((cs.take k).map Dim.clauseB).flatten) ∧ Hid (X.length ≤ 50 + 22 * (cs.take k).flatten.length + 2 * k) ∧ Hid (Below WB.heap.size WB wr)) (fun _ i _ => n - (intOf i).toNat)
    case atStart => exact ⟨0, _, _, Nat.zero_le _, rfl, rfl, hid rfl, hid (by simp), hid (by have := HSL.out; simp; omega), HBL⟩
    case round =>
      clear HSL v0 v1 HBL
      obtain ⟨k, X, S, hk, rfl, rfl, HS, HX, HXL, HB⟩ := hrel
      have x1 := (HE.out wr HB.out).2
      by_cases hlt : k < n
      · obtain ⟨b, off, a', cap', rfl, hbl, hcell, hL, hln⟩ := HC.out.at (k := k) (by rw [HN.out]; exact hlt)
        have hlt' : (k : Int) < n := by omega
        have HL := hid hL
        have hFm : (cs.take k).flatten.length + (cs.getD k []).length ≤ 16777216 := by
          rw [← Cnf.flat_len cs k (by rw [HN.out]; exact hlt)]
          exact Nat.le_trans (Dim.flat_take_le cs _) HM.out
        have HX1 := hid (show (cs.take (k + 1)).map Dim.clauseB = (cs.take k).map Dim.clauseB ++ [Dim.clauseB (cs.getD k [])] by rw [Cnf.take_cls cs k (by rw [HN.out]; exact hlt)]; simp)
        have HX2 := hid (Cnf.flat_len cs k (by rw [HN.out]; exact hlt))
        have HCE := hid (fun (W : World) (h : Below WB.heap.size WB W) => ((HW.out W h).cell (p := ⟨b, off + k, none⟩) hbl).trans hcell)
        clear hL hcell
        generalize hys : cs.getD k [] = ys at hln HL hFm HX1 HX2 HCE
        generalize hm : ys.length = m at hln hFm HX2 HCE
        generalize hF : (cs.take k).flatten.length = F at hFm HX2 HXL
        have HMy := hid hm
        clear hm hys hF
        have hFm' := hid hFm
        clear hFm
        have x2 := HCE.out wr HB.out
        rename World => wk
        go_wp2
        go_loopw [5, 7] (fun s i wr => ∃ (j : Nat) (Y : List UInt8) (T : ByteArray), j ≤ m ∧ i = .int .i64 j ∧ s = .string T ∧ Hid (T = bstr Y) ∧ Hid (Y = X ++ ((ys.take j).map Dim.litB).flatten) ∧ Hid (Y.length ≤ 50 + 22 * (F + j) + 2 * k) ∧ Hid (Below WB.heap.size WB wr)) (fun _ i _ => m - (intOf i).toNat)
        case atStart => exact ⟨0, X, S, Nat.zero_le _, rfl, rfl, HS, hid (by simp), HXL, HB⟩
        case round =>
          clear HXL HB x1 x2
          obtain ⟨j, Y, T, hj, rfl, rfl, HT, HY, HYL, HB⟩ := hrel
          have x1 := (HE.out wr HB.out).2
          have x2 := HCE.out wr HB.out
          have hTs : T.size ≤ 400000000 := by rw [HT.out, bstr_size]; have := HYL.out; have := hFm'.out; omega
          by_cases hjm : j < m
          · obtain ⟨b2, o2, rfl, hc2, hx1, hx2⟩ := HL.out.at (k := j) (by rw [HMy.out]; exact hjm)
            have hjm' : (j : Int) < m := by omega
            have hb2 : b2 < w.heap.size := by
              rcases HL.out.2 with h | ⟨b', o', e, hl, _⟩
              · have := HMy.out; rw [h] at this; simp at this; omega
              · cases e; exact hl
            have x3 := ((HW.out wr HB.out).cell (p := ⟨b2, o2 + j, none⟩) hb2).trans hc2
            have HY1 := hid (show (ys.take (j + 1)).map Dim.litB = (ys.take j).map Dim.litB ++ [Dim.litB (ys.getD j 0)] by rw [Cnf.take_snoc ys j (by rw [HMy.out]; exact hjm)]; simp)
            clear hc2
            generalize ys.getD j 0 = l at x3 hx1 hx2 HY1
            have C33 := hid (digits33 l (by omega) (by omega) wr)
            have hDs := dstr_len l (by omega) (by omega)
            have HYn := hid (show T ++ dstr l ++ ⟨#[32]⟩ = bstr (Y ++ Lib.itoa l ++ [32]) by rw [HT.out, dstr_eq, ← bstr_app, ← bstr_app]; rfl)
            have HY8 := hid (show Y ++ Lib.itoa l ++ [32] = X ++ ((ys.take (j + 1)).map Dim.litB).flatten by rw [HY1.out, HY.out]; simp [Dim.litB])
            have HL8 := hid (show (Y ++ Lib.itoa l ++ [32]).length ≤ 50 + 22 * (F + (j + 1)) + 2 * k by have := HYL.out; have := Lib.itoa_length_le l (by omega) (by omega); simp; omega)
            generalize dstr l = D at C33 hDs HYn
            clear HY HYL HY1 HT
            go_wp2_with (go_at_call 33; refine C33.out.mono ?_; clear C33; rintro e w7 ⟨rfl, hb7⟩; replace hb7 := hid hb7)
            go_roundw
            case rel => exact ⟨j + 1, _, _, by omega, by go_num, rfl, HYn, HY8, HL8, hid (HB.out.trans (hb7.out.mono HB.out.size))⟩
            case measure => simp [intOf]; omega
          · have hjm' : ¬ (j : Int) < m := by omega
            obtain rfl : j = m := by omega
            have HYn := hid (show T ++ ⟨#[48, 10]⟩ = bstr (Y ++ [48, 10]) by rw [HT.out, ← bstr_app]; rfl)
            have HY8 := hid (show Y ++ [48, 10] = Dim.headB vars n ++ ((cs.take (k + 1)).map Dim.clauseB).flatten by
              rw [HX1.out, HY.out, HX.out, List.take_of_length_le (Nat.le_of_eq HMy.out)]; simp [Dim.clauseB])
            have HL8 := hid (show (Y ++ [48, 10]).length ≤ 50 + 22 * (cs.take (k + 1)).flatten.length + 2 * (k + 1) by have := HYL.out; rw [HX2.out]; simp; omega)
            clear HY HYL HT
            go_wp2
            go_roundw
            case rel => exact ⟨k + 1, _, _, by omega, by go_num, rfl, HYn, HY8, HL8, HB⟩
            case measure => simp [intOf]; omega
      · have hlt' : ¬ (k : Int) < n := by omega
        obtain rfl : k = n := by omega
        have htk : cs.take k = cs := List.take_of_length_le (by rw [HN.out]; exact Nat.le_refl _)
        have HPX := hid (show bstr (Dim.printB vars cs) = S by rw [HS.out, HX.out, htk, ← HN.out]; rfl)
        go_wp2
        go_ret2
        exact ⟨by rw [HPX.out]; rfl, HW.out _ HB.out⟩
end Go.Proofs.YtlhpnkgdnmnclaaDoor
