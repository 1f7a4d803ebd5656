/- The call of Print at a formula that is right. -/
import Derived.Test.YtlhpnkgdnmnclaaDoorRight
import Derived.Test.YtlhpnkgdnmnclaaDoorSame
import Derived.Test.YtlhpnkgdnmnclaaDoorMark
import Derived.Lib.ItoaLen
import Derived.Lib.SlBytesConst
import Derived.Deep.RegionLaw
import Derived.Deep.AppendLies
import Derived.Deep.RegionHeld3
namespace Dim
def litB (l : Int) : List UInt8 := Go.Lib.itoa l ++ [32]
def clauseB (c : List Int) : List UInt8 := (c.map litB).flatten ++ [48, 10]
def headB (vars : Int) (n : Nat) : List UInt8 := [112, 32, 99, 110, 102, 32] ++ Go.Lib.itoa vars ++ [32] ++ Go.Lib.itoa n ++ [10]
def printB (vars : Int) (cs : List (List Int)) : List UInt8 := headB vars cs.length ++ (cs.map clauseB).flatten

theorem litB_len (l : Int) (h0 : -9223372036854775808 ≤ l) (h1 : l ≤ 9223372036854775807) : (litB l).length ≤ 22 := by
  have := Go.Lib.itoa_length_le l h0 h1
  simp [litB]; omega
theorem flat_take_le : ∀ (cs : List (List Int)) (k : Nat), (cs.take k).flatten.length ≤ cs.flatten.length
  | [], k => by simp
  | c :: cs, 0 => by simp
  | c :: cs, k + 1 => by
    have := flat_take_le cs k
    simp only [List.take_succ_cons, List.flatten_cons, List.length_append]
    omega
end Dim
namespace Go.Proofs.YtlhpnkgdnmnclaaDoor
open Go.RowKit
set_option linter.unusedVariables false

theorem appendInt31 (B n : Nat) (i : Int) (h0 : -9223372036854775808 ≤ i) (h1 : i ≤ 9223372036854775807) (sv : Value) (xs : List UInt8) (w : World) (hown : w.ownsRow B 5 1 sv n (Lib.byteCells xs)) (hBw : B ≤ w.heap.size) (hlim : n + 21 ≤ 140737488355328)
    (htab : Lib.TabBelow Tryd.prog B w "internal/strconv.uint64pow10" .u64 Lib.pow10Tab) :
    Calls Tryd.prog 31 #[sv, .int .i64 i, .int .i64 10] w fun e w' => ∃ v', e = .returned v' ∧ w'.ownsRow B 5 1 v' (n + (Lib.itoa i).length) (Lib.byteCells (xs ++ Lib.itoa i)) ∧ Below B w w' := by
  refine (Any.strconv_AppendInt_10 Tryd.aiL B n i h0 h1 sv (Lib.byteCells xs) w hown hBw hlim htab).mono ?_
  rintro e w' ⟨v', he, h2, h3, _⟩
  exact ⟨v', he, by rw [Lib.byteCells_append]; exact h2, h3⟩

theorem row_base {W : World} {B B' n : Nat} {v : Value} {xs : List Value} (h : W.ownsRow B 5 1 v n xs) (hb : B' ≤ B) : W.ownsRow B' 5 1 v n xs := ⟨h.1, h.2.imp id (fun ⟨g, cap, cur, h1, h2, h3⟩ => ⟨g, cap, cur, h1, Nat.le_trans hb h2, h3⟩)⟩
theorem news5p {X : World} {u : Value} {n : Nat} (hn : X.heap.size = n) : ∀ j v, [u][j]? = some v → (X.alloc (.cells #[u] 5)).cell? ((⟨n, 0, none⟩ : Addr).add j) = some v := by
  subst hn
  intro j v hu
  obtain rfl : j = 0 := by
    cases j with
    | zero => rfl
    | succ j => simp at hu
  simp at hu
  subst hu
  simp [World.cell?_alloc_new, Go.WideShapes.add_plain]

theorem news5q {X : World} {u v : Value} {n : Nat} (hn : X.heap.size = n) : ∀ j x, [u, v][j]? = some x → (X.alloc (.cells #[u, v] 5)).cell? ((⟨n, 0, none⟩ : Addr).add j) = some x := by
  subst hn
  intro j x hx
  have hb := World.alloc_heap_new X (.cells #[u, v] 5)
  rw [Go.WideShapes.add_plain, Nat.zero_add, row_cell hb j]
  simpa using hx

theorem info5 : (Tryd.prog.info? 5).map (fun i => (i.zero, i.size, i.bytes)) = some (some (.int .u8 0), 1, 1) := by kernel_rfl

set_option maxRecDepth 100000 in
set_option maxHeartbeats 4000000 in
theorem print14 (vars : Int) (a : Option Addr) (n cap : Nat) (cs : List (List Int)) (w : World) (hn : cs.length = n) (hv0 : 0 ≤ vars) (hv1 : vars ≤ 1048576) (hN : n ≤ 1048576) (hM : cs.flatten.length ≤ 16777216) (hc : Cls w a cs) (hs : Cnf.scan vars 0 cs.flatten = 0)
    (htab : Lib.TabBelow Tryd.prog w.heap.size w "internal/strconv.uint64pow10" .u64 Lib.pow10Tab) :
    Calls Tryd.prog 14 #[.agg #[.int .i64 vars, .slice a n cap]] w fun e w' => ∃ v, e = .returned (.tuple #[v, .int .i64 0]) ∧ w'.ownsRow w.heap.size 5 1 v (Dim.printB vars cs).length (Lib.byteCells (Dim.printB vars cs)) ∧ Below w.heap.size w w' := by
  have hB1 := below_box w (.cells #[.int .i64 vars, .slice a n cap] 25)
  have C21 := hid (right21_scan vars a n cap cs (w.alloc (.cells #[.int .i64 vars, .slice a n cap] 25)) hv0 hv1 hN hn (hc.below hB1))
  rw [hs] at C21
  have HC := hid hc
  have HN := hid hn
  have HT := hid htab
  have HM := hid hM
  have hbox := World.alloc_heap_new w (.cells #[.int .i64 vars, .slice a n cap] 25)
  have e0 := row_cell hbox 0
  have e1 := row_cell hbox 1
  simp only [List.getElem?_toArray, List.getElem?_cons_zero, List.getElem?_cons_succ] at e0 e1
  have HBX := hid hbox
  clear hc hn htab hM hs hB1 hbox
  obtain ⟨i0, hi, hz0, hz1, hz2⟩ := info_parts info5
  obtain ⟨uv, rfl⟩ : ∃ uv : Nat, vars = uv := ⟨vars.toNat, by omega⟩
  have huv : uv ≤ 1048576 := by omega
  go_enter Tryd.func14, Tryd.ntmps14
  go_wp2_with (first
    | (go_at_call 21; refine C21.out.mono ?_; clear C21; rintro e W2 ⟨rfl, hb2⟩
       have x0 := (hb2.cell (p := ⟨w.heap.size, 0, none⟩) (by simp)).trans e0
       have x1 := (hb2.cell (p := ⟨w.heap.size, 1, none⟩) (by simp)).trans e1
       have cvt := Lib.run_convert_bytes_const (P := Tryd.prog) W2 22 5 #[.int .u8 112, .int .u8 32, .int .u8 99, .int .u8 110, .int .u8 102, .int .u8 32] 6 6 Tryd.underlying22 Tryd.underlying5
       have hs2 : w.heap.size + 1 ≤ W2.heap.size := by have := hb2.size; simpa using this
       have x0' := (Book.alloc none 0 W2 (.cells #[.int .u8 112, .int .u8 32, .int .u8 99, .int .u8 110, .int .u8 102, .int .u8 32] 5 (6, 7))).cell x0 (by simp)
       have hB2 : Below w.heap.size w W2 := ((Below.refl _ w).alloc (Nat.le_refl _) _).trans (hb2.mono (by simp))
       have hB2' : Below w.heap.size w (W2.alloc (.cells #[.int .u8 112, .int .u8 32, .int .u8 99, .int .u8 110, .int .u8 102, .int .u8 32] 5 (6, 7))) := hB2.alloc (by omega) _
       have C31 := hid (appendInt31_mark W2.heap.size 6 uv huv [112, 32, 99, 110, 102, 32] _ rfl (by omega) (6, 7) (World.alloc_heap_new W2 _) (HT.out _ hB2'))
       replace hb2 := hid hb2
       replace hB2 := hid hB2
       replace hB2' := hid hB2')
    | (go_at_call 31; refine C31.out.mono ?_; clear C31; rintro e W3 ⟨v3, rfl, hown3, hb3⟩
       replace hown3 := hid hown3
       replace hb3 := hid hb3))
  have BB3 : Below (w.heap.size + 1) (w.alloc (.cells #[.int .i64 uv, .slice a n cap] 25)) W3 := by
    have h1 := hb2.out.mono (B' := w.heap.size + 1) (by simp)
    exact (h1.alloc hs2 _).trans (hb3.out.mono (by simp; omega))
  have BW3 : Below w.heap.size w W3 := hB2'.out.trans (hb3.out.mono (by simp; omega))
  have hs3 : w.heap.size + 1 ≤ W3.heap.size := by have := BB3.size; simpa using this
  obtain ⟨m3, hm3⟩ : ∃ m3, 6 + (Lib.itoa (uv : Int)).length = m3 := ⟨_, rfl⟩
  have hm3b : m3 ≤ 27 := by have := Lib.itoa_length_le (uv : Int) (by omega) (by omega); omega
  have R3 : W3.ownsRow (w.heap.size + 1) 5 1 v3 m3 (Lib.byteCells ([112, 32, 99, 110, 102, 32] ++ Lib.itoa (uv : Int))) := by rw [← hm3]; exact row_base hown3.out (by simp; omega)
  have T3 : ∀ W, Below w.heap.size w W → Lib.TabBelow Tryd.prog (w.heap.size + 1) W "internal/strconv.uint64pow10" .u64 Lib.pow10Tab := fun W hW w' h => HT.out w' (hW.trans (h.mono (by omega)))
  have y1 := (BB3.cell (p := ⟨w.heap.size, 1, none⟩) (by simp)).trans e1
  have y2 := (Book.alloc none 0 W3 (.cells #[.int .u8 32] 5)).cell y1 (by simp)
  have HR3 := hid R3
  have HT3 := hid T3
  have HB3 := hid BB3
  have HW3 := hid BW3
  clear hm3 BB3 BW3 R3 T3 x0 x1 x0' cvt hb2 hB2 hB2' hown3 hb3 e0
  have D5 := hid (show ∀ (w4 : World), (W3.drew.alloc (.cells #[.int .u8 32] 5)).grownBy w4 v3.ownBlock → Below (w.heap.size + 1) W3 w4 from fun w4 hg => ((Below.refl _ W3).alloc hs3 _).grown (w := W3.alloc (.cells #[.int .u8 32] 5)) ⟨hg.os, hg.tape, hg.output, hg.size, hg.block⟩ (by simp; omega) (fun k hk => (HR3.out.lt k hk).1))
  go_wp2
  go_region_law (first
    | (refine step_append_lies _ (by rfl) _ _ 22 (by rfl) (w.heap.size + 1) 5 i0 (.int .u8 0) 1 1 Tryd.underlying22 hi hz0 hz1 hz2 (by rfl) (by decide) v3 m3 (Lib.byteCells ([112, 32, 99, 110, 102, 32] ++ Lib.itoa (uv : Int))) (by rfl) (HR3.out.alloc _) ⟨W3.heap.size, 0, none⟩ 1 1 [.int .u8 32] (by rfl) (by rfl) (news5p rfl) (by intro u hu; simp at hu; subst hu; rfl) (by decide) (by simp [maxLen]; omega) (by omega) (by simp; omega) (W3.heap.size + 1) (by simp) ?_
       intro g4 cap4 w4 hown4 hgrow4 hat4 hlt4
       have hb4 := D5.out w4 hgrow4
       have y4 := (hb4.cell (p := ⟨w.heap.size, 1, none⟩) (by simp)).trans y1
       have C31 := hid (appendInt31 (w.heap.size + 1) (m3 + 1) n (by omega) (by omega) _ ([112, 32, 99, 110, 102, 32] ++ Lib.itoa (uv : Int) ++ [32]) w4 (by rw [Lib.byteCells_append]; exact hown4) (by have := hb4.size; omega) (by omega) (HT3.out w4 (HW3.out.trans (hb4.mono (by omega)))))
       replace hb4 := hid hb4
       clear hown4 hgrow4 hat4 hlt4)
    | (go_simp; go_at_call 31; refine C31.out.mono ?_; clear C31; rintro e w5 ⟨v5, rfl, hown5, hb5⟩; replace hown5 := hid hown5; replace hb5 := hid hb5))
  all_goals
    have R5 : w5.ownsRow (w.heap.size + 1) 5 1 v5 (m3 + 1 + (Lib.itoa (n : Int)).length) (Lib.byteCells ([112, 32, 99, 110, 102, 32] ++ Lib.itoa (uv : Int) ++ [32] ++ Lib.itoa (n : Int))) := hown5.out
    obtain ⟨m5, hm5⟩ : ∃ m5, m3 + 1 + (Lib.itoa (n : Int)).length = m5 := ⟨_, rfl⟩
    have hm5b : m5 ≤ 49 := by have := Lib.itoa_length_le (n : Int) (by omega) (by omega); omega
    have BW5 : Below w.heap.size w w5 := HW3.out.trans ((hb4.out.trans hb5.out).mono (by omega))
    have BB5 := HB3.out.trans (hb4.out.trans hb5.out)
    have z1 := (BB5.cell (p := ⟨w.heap.size, 1, none⟩) (by simp)).trans e1
    have z2 := (Book.alloc none 0 w5 (.cells #[.int .u8 10] 5)).cell z1 (by simp)
    obtain ⟨X5, hX5⟩ : ∃ X5, [112, 32, 99, 110, 102, 32] ++ Lib.itoa (uv : Int) ++ [32] ++ Lib.itoa (n : Int) = X5 := ⟨_, rfl⟩
    rw [hm5, hX5] at R5
    have HX5 := hid (show Dim.headB uv n = X5 ++ [10] by rw [← hX5]; rfl)
    have hs5 : w.heap.size + 1 ≤ w5.heap.size := by have := BB5.size; simpa using this
    have HR5 := hid R5
    have HB5 := hid BB5
    have HW5 := hid BW5
    clear hm5 hX5 R5 BB5 BW5 hown5 hb5 hb4 y4 y1 y2 D5 HR3 HB3 HW3
    go_wp2_with (at_builtin; refine wpList_append_lies _ rfl _ _ 22 rfl (w.heap.size + 1) 5 i0 (.int .u8 0) 1 1 Tryd.underlying22 hi hz0 hz1 hz2 rfl (by decide) v5 m5 _ rfl (HR5.out.alloc _) ⟨w5.heap.size, 0, none⟩ 1 1 [.int .u8 10] rfl rfl (news5p rfl) (by intro u hu; simp at hu; subst hu; rfl) (by decide) (by simp [maxLen]; omega) (by omega) (by simp; omega) (w5.heap.size + 1) (by simp) ?_)
    intro g6 cap6 w6 hown6 hgrow6 hat6 hlt6
    have R6 : w6.ownsRow (w.heap.size + 1) 5 1 (.slice (some ⟨g6, 0, none⟩) (m5 + 1) cap6) (m5 + 1) (Lib.byteCells (Dim.headB uv n)) := by
      rw [HX5.out, Lib.byteCells_append]; exact hown6
    have B6 : Below (w.heap.size + 1) w5 w6 := ((Below.refl _ w5).alloc hs5 _).grown hgrow6 (by simp; omega) (fun k hk => (HR5.out.lt k hk).1)
    have HB6 := hid (HB5.out.trans B6)
    have HW6 := hid (HW5.out.trans (B6.mono (by omega)))
    have z6 := (HB6.out.cell (p := ⟨w.heap.size, 1, none⟩) (by simp)).trans e1
    have hl6 : (Dim.headB uv n).length = m5 + 1 := by
      have := R6.1
      simp [Lib.byteCells] at this; omega
    have HR6 := hid R6
    clear R6 B6 hown6 hgrow6 hat6 hlt6 HR5 HB5 HW5 z1 z2
    have hs6 : w.heap.size + 1 ≤ w6.heap.size := by have := HB6.out.size; simpa using this
    go_wp2
    go_loopw [5, 33] (fun b i wr => ∃ (k : Nat) (X : List UInt8), k ≤ n ∧ i = .int .i64 k ∧ Hid (X = Dim.headB uv n ++ ((cs.take k).map Dim.clauseB).flatten) ∧ Hid (X.length ≤ 50 + 22 * (cs.take k).flatten.length + 2 * k) ∧ Hid (wr.ownsRow (w.heap.size + 1) 5 1 b X.length (Lib.byteCells X)) ∧ Hid (Below w.heap.size w wr) ∧ w.heap.size + 1 ≤ wr.heap.size) (fun _ i _ => n - (intOf i).toNat)
    case atStart => exact ⟨0, _, Nat.zero_le _, rfl, hid rfl, hid (by simp; omega), hid (by simp [hl6]; exact HR6.out), HW6, hs6⟩
    case round =>
      clear HR6 HW6 HB6 hl6 z6 hs6
      obtain ⟨k, X, hk, rfl, HX, HXL, HR, HB, hsr⟩ := hrel
      by_cases hlt : k < n
      · obtain ⟨b, off, a', cap', rfl, hbl, hcell, hL, hln⟩ := HC.out.at (k := k) (by rw [HN.out]; exact hlt)
        have hlt' : (k : Int) < n := by omega
        have x1 := (HB.out.cell (p := ⟨b, off + k, none⟩) hbl).trans hcell
        have HL := hid hL
        have hFm : (cs.take k).flatten.length + (cs.getD k []).length ≤ 16777216 := by
          rw [← Cnf.flat_len cs k (by rw [HN.out]; exact hlt)]
          exact Nat.le_trans (Dim.flat_take_le cs _) HM.out
        have HX1 := hid (show (cs.take (k + 1)).map Dim.clauseB = (cs.take k).map Dim.clauseB ++ [Dim.clauseB (cs.getD k [])] by rw [Cnf.take_cls cs k (by rw [HN.out]; exact hlt)]; simp)
        have HX2 := hid (Cnf.flat_len cs k (by rw [HN.out]; exact hlt))
        clear hL hcell
        generalize hys : cs.getD k [] = ys at x1 hln HL hFm HX1 HX2
        generalize hm : ys.length = m at x1 hln hFm HX2
        generalize hF : (cs.take k).flatten.length = F at hFm HX2 HXL
        have HMy := hid hm
        clear hm hys hF
        rename World => wk
        have hFm' := hid hFm
        clear hFm
        go_wp2
        go_loopw [5, 39] (fun bb i wr => ∃ (j : Nat) (Y : List UInt8), j ≤ m ∧ i = .int .i64 j ∧ Hid (Y = X ++ ((ys.take j).map Dim.litB).flatten) ∧ Hid (Y.length ≤ 50 + 22 * (F + j) + 2 * k) ∧ Hid (wr.ownsRow (w.heap.size + 1) 5 1 bb Y.length (Lib.byteCells Y)) ∧ Hid (Below w.heap.size w wr) ∧ w.heap.size + 1 ≤ wr.heap.size) (fun _ i _ => m - (intOf i).toNat)
        case atStart => exact ⟨0, X, Nat.zero_le _, rfl, hid (by simp), HXL, HR, HB, hsr⟩
        case round =>
          clear HXL HR HB hsr x1
          obtain ⟨j, Y, hj, rfl, HY, HYL, HR, HB, hsr⟩ := hrel
          by_cases hjm : j < m
          · obtain ⟨b2, o2, rfl, hc2, hx1, hx2⟩ := HL.out.at (k := j) (by rw [HMy.out]; exact hjm)
            have hjm' : (j : Int) < m := by omega
            have hb2 : b2 < w.heap.size := by
              rcases HL.out.2 with h | ⟨b', o', e, hl, _⟩
              · have := HMy.out; rw [h] at this; simp at this; omega
              · cases e; exact hl
            have x2 := (HB.out.cell (p := ⟨b2, o2 + j, none⟩) hb2).trans hc2
            have HY1 := hid (show (ys.take (j + 1)).map Dim.litB = (ys.take j).map Dim.litB ++ [Dim.litB (ys.getD j 0)] by rw [Cnf.take_snoc ys j (by rw [HMy.out]; exact hjm)]; simp)
            clear hc2
            generalize ys.getD j 0 = l at x2 hx1 hx2 HY1
            have hYb : Y.length ≤ 400000000 := by have := HYL.out; have := hFm'.out; omega
            have C31 := hid (appendInt31 (w.heap.size + 1) Y.length l (by omega) (by omega) u5 Y wr HR.out hsr (by omega) (HT3.out wr HB.out))
            go_wp2_with (first
              | (go_at_call 31; refine C31.out.mono ?_; clear C31; rintro e w7 ⟨v7, rfl, hown7, hb7⟩
                 obtain ⟨Y7, hY7⟩ : ∃ Y7, Y ++ Lib.itoa l = Y7 := ⟨_, rfl⟩
                 have hq7 : Y.length + (Lib.itoa l).length = Y7.length := by rw [← hY7]; simp
                 have hq8 : Y7.length ≤ Y.length + 21 := by have := Lib.itoa_length_le l (by omega) (by omega); omega
                 rw [hY7, hq7] at hown7
                 have hs7 : w.heap.size + 1 ≤ w7.heap.size := Nat.le_trans hsr hb7.size
                 replace hown7 := hid hown7
                 replace hb7 := hid hb7
                 replace hY7 := hid hY7
                 clear hq7)
              | (at_builtin; refine wpList_append_lies _ rfl _ _ 22 rfl (w.heap.size + 1) 5 i0 (.int .u8 0) 1 1 Tryd.underlying22 hi hz0 hz1 hz2 rfl (by decide) v7 Y7.length _ rfl (hown7.out.alloc _) ⟨w7.heap.size, 0, none⟩ 1 1 [.int .u8 32] rfl rfl (news5p rfl) (by intro u hu; simp at hu; subst hu; rfl) (by decide) (by simp [maxLen]; omega) (by omega) (by simp; omega) (w7.heap.size + 1) (by simp) ?_))
            intro g8 cap8 w8 hown8 hgrow8 hat8 hlt8
            have B8 : Below (w.heap.size + 1) w7 w8 := ((Below.refl _ w7).alloc hs7 _).grown hgrow8 (by simp; omega) (fun k hk => (hown7.out.lt k hk).1)
            have HB8 := hid (HB.out.trans ((hb7.out.trans B8).mono (by omega)))
            have hs8 : w.heap.size + 1 ≤ w8.heap.size := Nat.le_trans hs7 B8.size
            have HR8 := hid (show w8.ownsRow (w.heap.size + 1) 5 1 (.slice (some ⟨g8, 0, none⟩) (Y7.length + 1) cap8) (Y7 ++ [32]).length (Lib.byteCells (Y7 ++ [32])) by rw [Lib.byteCells_append, List.length_append]; exact hown8)
            have HY8 := hid (show Y7 ++ [32] = X ++ ((ys.take (j + 1)).map Dim.litB).flatten by rw [HY1.out, ← hY7.out, HY.out]; simp [Dim.litB])
            have HL8 := hid (show (Y7 ++ [32]).length ≤ 50 + 22 * (F + (j + 1)) + 2 * k by have := HYL.out; simp; omega)
            clear B8 hown8 hgrow8 hat8 hlt8 hown7 hb7 hY7 HY HYL HY1 HR HB
            go_wp2
            go_roundw
            case rel => exact ⟨j + 1, _, by omega, by go_num, HY8, HL8, HR8, HB8, hs8⟩
            case measure => simp [intOf]; omega
          · have hjm' : ¬ (j : Int) < m := by omega
            obtain rfl : j = m := by omega
            have hYb : Y.length ≤ 400000000 := by have := HYL.out; have := hFm'.out; omega
            go_wp2_with (at_builtin; refine wpList_append_lies _ rfl _ _ 22 rfl (w.heap.size + 1) 5 i0 (.int .u8 0) 1 1 Tryd.underlying22 hi hz0 hz1 hz2 rfl (by decide) u5 Y.length _ rfl (HR.out.alloc _) ⟨wr.heap.size, 0, none⟩ 2 2 [.int .u8 48, .int .u8 10] rfl rfl (news5q rfl) (by intro u hu; simp at hu; rcases hu with rfl | rfl <;> rfl) (by decide) (by simp [maxLen]; omega) (by omega) (by simp; omega) (wr.heap.size + 1) (by simp) ?_)
            intro g8 cap8 w8 hown8 hgrow8 hat8 hlt8
            have B8 : Below (w.heap.size + 1) wr w8 := ((Below.refl _ wr).alloc hsr _).grown hgrow8 (by simp; omega) (fun k hk => (HR.out.lt k hk).1)
            have HB8 := hid (HB.out.trans (B8.mono (by omega)))
            have hs8 : w.heap.size + 1 ≤ w8.heap.size := Nat.le_trans hsr B8.size
            have HR8 := hid (show w8.ownsRow (w.heap.size + 1) 5 1 (.slice (some ⟨g8, 0, none⟩) (Y.length + 2) cap8) (Y ++ [48, 10]).length (Lib.byteCells (Y ++ [48, 10])) by rw [Lib.byteCells_append, List.length_append]; exact hown8)
            have HY8 := hid (show Y ++ [48, 10] = Dim.headB uv n ++ ((cs.take (k + 1)).map Dim.clauseB).flatten by
              rw [HX1.out, HY.out, HX.out, List.take_of_length_le (Nat.le_of_eq HMy.out)]; simp [Dim.clauseB])
            have HL8 := hid (show (Y ++ [48, 10]).length ≤ 50 + 22 * (cs.take (k + 1)).flatten.length + 2 * (k + 1) by have := HYL.out; rw [HX2.out]; simp; omega)
            clear B8 hown8 hgrow8 hat8 hlt8 HY HYL HR HB
            go_wp2
            go_roundw
            case rel => exact ⟨k + 1, _, by omega, by go_num, HY8, HL8, HR8, HB8, hs8⟩
            case measure => simp [intOf]; omega
      · have hlt' : ¬ (k : Int) < n := by omega
        obtain rfl : k = n := by omega
        have htk : cs.take k = cs := List.take_of_length_le (by rw [HN.out]; exact Nat.le_refl _)
        have HPX := hid (show Dim.printB uv cs = X by rw [HX.out, htk, ← HN.out]; rfl)
        go_wp2
        go_ret2
        exact ⟨_, rfl, by rw [HPX.out]; exact row_base HR.out (by omega), HB.out⟩
end Go.Proofs.YtlhpnkgdnmnclaaDoor
