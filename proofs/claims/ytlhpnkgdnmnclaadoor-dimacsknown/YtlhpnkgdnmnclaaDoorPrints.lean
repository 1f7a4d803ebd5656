/- Formulas printed and models' values told: the walk of the statement's own function. -/
import Derived.Test.YtlhpnkgdnmnclaaDoorRefVals
import Derived.Laws.BytesArg
namespace Cnf
theorem scan_zero (vars : Int) (ls : List Int) : ∀ c, scan vars c ls = 0 → c ≤ 16777216 → c + ls.length ≤ 16777216 := by
  induction ls with
  | nil => intro c _ h; simpa using h
  | cons l ls ih =>
    intro c h hc
    by_cases h1 : 16777216 < c + 1
    · rw [scan_limit vars c l ls h1] at h; cases h
    · by_cases h2 : vr l < 1 ∨ vars < vr l
      · rw [scan_lit vars c l ls h1 h2] at h; cases h
      · rw [scan_on vars c l ls h1 h2] at h
        have := ih (c + 1) h (by omega)
        simp; omega
theorem right_zero (vars : Int) (cs : List (List Int)) (h : right vars cs = 0) : 0 ≤ vars ∧ vars ≤ 1048576 ∧ cs.length ≤ 1048576 ∧ cs.flatten.length ≤ 16777216 ∧ scan vars 0 cs.flatten = 0 := by
  unfold right at h
  split at h
  · cases h
  · split at h
    · cases h
    · have := scan_zero vars cs.flatten 0 h (by decide)
      exact ⟨by omega, by omega, by omega, by omega, h⟩
end Cnf
namespace Go.Proofs.YtlhpnkgdnmnclaaDoor
open Go.RowKit
set_option linter.unusedVariables false

theorem printB_pos (vars : Int) (cs : List (List Int)) : 0 < (Dim.printB vars cs).length := by simp [Dim.printB, Dim.headB]

set_option maxRecDepth 100000 in
set_option maxHeartbeats 4000000 in
theorem law4 (vars : Int) (a am : Option Addr) (n cap nm capm : Nat) (cs : List (List Int)) (m : List Bool) (w : World) (hn : cs.length = n) (hN : n ≤ 8796093022208) (hc : Cls w a cs) (hnm : m.length = nm) (hm : Bools w am m)
    (htab : Lib.TabBelow Tryd.prog w.heap.size w "internal/strconv.uint64pow10" .u64 Lib.pow10Tab) :
    Calls Tryd.prog 4 #[.agg #[.int .i64 vars, .slice a n cap], .slice am nm capm] w fun e w' => e = .returned (.bool true) ∧ Below w.heap.size w w' := by
  have hB1 := below_box w (.cells #[.int .i64 vars, .slice a n cap] 25)
  have hbox := World.alloc_heap_new w (.cells #[.int .i64 vars, .slice a n cap] 25)
  have e0 := row_cell hbox 0
  have e1 := row_cell hbox 1
  simp only [List.getElem?_toArray, List.getElem?_cons_zero, List.getElem?_cons_succ] at e0 e1
  have HE := hid (fun (W : World) (h : Below (w.alloc (.cells #[.int .i64 vars, .slice a n cap] 25)).heap.size (w.alloc (.cells #[.int .i64 vars, .slice a n cap] 25)) W) => (show W.cell? ⟨w.heap.size, 0, none⟩ = some (.int .i64 vars) ∧ W.cell? ⟨w.heap.size, 1, none⟩ = some (.slice a n cap) from ⟨(h.cell (p := ⟨w.heap.size, 0, none⟩) (by simp)).trans e0, (h.cell (p := ⟨w.heap.size, 1, none⟩) (by simp)).trans e1⟩))
  have HW := hid (fun (W : World) (h : Below (w.alloc (.cells #[.int .i64 vars, .slice a n cap] 25)).heap.size (w.alloc (.cells #[.int .i64 vars, .slice a n cap] 25)) W) => box_below w _ h)
  have C13 := hid (size13 vars a n cap cs (w.alloc (.cells #[.int .i64 vars, .slice a n cap] 25)) hn hN (hc.below hB1))
  have HC := hid hc
  have HN := hid hn
  have HM := hid hm
  have HNM := hid hnm
  have HT := hid htab
  clear hB1 hbox e0 e1 hc hn hm hnm htab
  by_cases h3 : (3000 : Int) < nm
  · clear HC HN HM HNM HT
    go_enter Tryd.func4, Tryd.ntmps4
    go_wp2_with (go_at_call 13; refine C13.out.mono ?_; clear C13; rintro e W2 ⟨s, rfl, hs, hb⟩; replace hb := hid hb; clear hs)
    all_goals
      go_ret
      exact ⟨rfl, HW.out _ hb.out⟩
  · by_cases hr : Cnf.right vars cs = 0
    · have HR := hid (Cnf.right_zero vars cs hr)
      clear hr
      go_enter Tryd.func4, Tryd.ntmps4
      go_wp2_with (first
        | (go_at_call 13; refine C13.out.mono ?_; clear C13; rintro e W2 ⟨s, rfl, hs, hb2⟩; clear hs
           have x0 := (HE.out W2 hb2).1
           have x1 := (HE.out W2 hb2).2
           have bw2 := HW.out W2 hb2
           have C14 := hid (print14 vars a n cap cs W2 HN.out HR.out.1 HR.out.2.1 (by have := HR.out.2.2.1; rw [HN.out] at this; exact this) HR.out.2.2.2.1 (HC.out.below bw2) HR.out.2.2.2.2 (fun w' h => HT.out w' (bw2.trans (h.mono bw2.size))))
           replace hb2 := hid hb2
           clear bw2)
        | (go_at_call 14; refine C14.out.mono ?_; clear C14; rintro e W3 ⟨v, rfl, hown, hb3'⟩
           have hb3 := hb2.out.trans (hb3'.mono hb2.out.size)
           have y0 := (HE.out W3 hb3).1
           have y1 := (HE.out W3 hb3).2
           have bw3 := HW.out W3 hb3
           have C15 := hid (print15 vars a n cap cs W3 HN.out HR.out.1 HR.out.2.1 (by have := HR.out.2.2.1; rw [HN.out] at this; exact this) HR.out.2.2.2.1 (HC.out.below bw3) HR.out.2.2.2.2)
           replace hb3 := hid hb3
           replace hown := hid hown
           clear bw3 hb3')
        | (go_at_call 15; refine C15.out.mono ?_; clear C15; rintro e W4 ⟨rfl, hb4'⟩
           have hb4 := hb3.out.trans (hb4'.mono hb3.out.size)
           have bw4 := HW.out W4 hb4
           have cv : (convert 22 9 v).run Tryd.prog W4 = .ok (.string (bstr (Dim.printB vars cs))) W4 := row_string (row_below hown.out hb4') (printB_pos vars cs)
           have C16 := hid (values16 am nm capm m W4 HNM.out (by omega) (HM.out.below bw4) (fun w' h => HT.out w' (bw4.trans (h.mono bw4.size))))
           replace hb4 := hid hb4
           generalize bstr (Dim.printB vars cs) = PS at cv
           clear bw4 hb4')
        | (go_at_call 16; refine C16.out.mono ?_; clear C16; rintro e W5 ⟨rfl, hb5'⟩
           have hb5 := hb4.out.trans (hb5'.mono hb4.out.size)
           have bw5 := HW.out W5 hb5
           have C17 := hid (values17 am nm capm m W5 HNM.out (by omega) (HM.out.below bw5))
           unfold bstr at C17
           generalize (⟨(Dim.valuesB m).toArray⟩ : ByteArray) = VS at C17
           replace hb5 := hid hb5
           clear bw5 hb5')
        | (go_at_call 17; refine C17.out.mono ?_; clear C17; rintro e W6 ⟨rfl, hb6'⟩
           have hb6 := hb5.out.trans (hb6'.mono hb5.out.size)
           have bw6 := HW.out W6 hb6
           have C12 := hid (works12 W6 (fun w' h => HT.out w' (bw6.trans (h.mono bw6.size))))
           replace hb6 := hid hb6
           clear bw6 hb6')
        | (go_at_call 12; refine C12.out.mono ?_; clear C12; rintro e W7 ⟨rfl, hb7'⟩
           have hb7 := hid (hb6.out.trans (hb7'.mono hb6.out.size))
           clear hb7'))
      · go_ret
        exact ⟨rfl, HW.out _ hb7.out⟩
      · go_ret
        exact ⟨rfl, HW.out _ hb2.out⟩
    · have HR := hid hr
      clear hr
      go_enter Tryd.func4, Tryd.ntmps4
      go_wp2_with (first
        | (go_at_call 13; refine C13.out.mono ?_; clear C13; rintro e W2 ⟨s, rfl, hs, hb2⟩; clear hs
           have x0 := (HE.out W2 hb2).1
           have x1 := (HE.out W2 hb2).2
           have bw2 := HW.out W2 hb2
           have C14 := hid (print14_err vars a n cap cs W2 HN.out (HC.out.below bw2) HR.out)
           have C15f := hid (fun (W : World) (hcW : Cls W a cs) => print15_err vars a n cap cs W HN.out hcW HR.out)
           generalize Cnf.right vars cs = r at C14 C15f
           replace hb2 := hid hb2
           clear bw2)
        | (go_at_call 14; refine C14.out.mono ?_; clear C14; rintro e W3 ⟨rfl, hb3'⟩
           have hb3 := hb2.out.trans (hb3'.mono hb2.out.size)
           have y0 := (HE.out W3 hb3).1
           have y1 := (HE.out W3 hb3).2
           have bw3 := HW.out W3 hb3
           have C15 := hid (C15f.out W3 (HC.out.below bw3))
           replace hb3 := hid hb3
           clear bw3 hb3' C15f)
        | (go_at_call 15; refine C15.out.mono ?_; clear C15; rintro e W4 ⟨rfl, hb4'⟩
           have hb4 := hb3.out.trans (hb4'.mono hb3.out.size)
           have bw4 := HW.out W4 hb4
           have cv := run_convert_bytes_nil (P := Tryd.prog) (w := W4) 22 5 Tryd.underlying22 Tryd.underlying5 0 0 9 Tryd.underlying9
           have C16 := hid (values16 am nm capm m W4 HNM.out (by omega) (HM.out.below bw4) (fun w' h => HT.out w' (bw4.trans (h.mono bw4.size))))
           replace hb4 := hid hb4
           clear bw4 hb4')
        | (go_at_call 16; refine C16.out.mono ?_; clear C16; rintro e W5 ⟨rfl, hb5'⟩
           have hb5 := hb4.out.trans (hb5'.mono hb4.out.size)
           have bw5 := HW.out W5 hb5
           have C17 := hid (values17 am nm capm m W5 HNM.out (by omega) (HM.out.below bw5))
           unfold bstr at C17
           generalize (⟨(Dim.valuesB m).toArray⟩ : ByteArray) = VS at C17
           replace hb5 := hid hb5
           clear bw5 hb5')
        | (go_at_call 17; refine C17.out.mono ?_; clear C17; rintro e W6 ⟨rfl, hb6'⟩
           have hb6 := hb5.out.trans (hb6'.mono hb5.out.size)
           have bw6 := HW.out W6 hb6
           have C12 := hid (works12 W6 (fun w' h => HT.out w' (bw6.trans (h.mono bw6.size))))
           replace hb6 := hid hb6
           clear bw6 hb6')
        | (go_at_call 12; refine C12.out.mono ?_; clear C12; rintro e W7 ⟨rfl, hb7'⟩
           have hb7 := hid (hb6.out.trans (hb7'.mono hb6.out.size))
           clear hb7'))
      · go_ret
        exact ⟨rfl, HW.out _ hb7.out⟩
      · go_ret
        exact ⟨rfl, HW.out _ hb2.out⟩
end Go.Proofs.YtlhpnkgdnmnclaaDoor
