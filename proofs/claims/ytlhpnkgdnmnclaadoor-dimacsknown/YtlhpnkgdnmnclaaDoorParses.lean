/- Any text is a formula, or refused at its line: the walk of the statement's own function. -/
import Derived.Test.YtlhpnkgdnmnclaaDoorRefP
import Derived.Test.YtlhpnkgdnmnclaaDoorReturns
namespace Go.Proofs.YtlhpnkgdnmnclaaDoor
open Go.RowKit
set_option linter.unusedVariables false
set_option linter.unusedSimpArgs false

theorem ints_byt (S : ByteArray) : Byt (Dim.ints S) := by
  intro x hx
  obtain ⟨b, _, rfl⟩ := List.mem_map.1 hx
  have := b.toNat_lt
  omega
theorem str_txt (S : ByteArray) (w : World) (hS : S.size ≤ 100000) : Txt w.heap.size (Lib.bytesWorld w 5 S) (some ⟨w.heap.size, 0, none⟩) (grownCap w S.size 0 5) (Dim.ints S) := by
  refine ⟨ints_byt S, ?_, ⟨?_, ?_⟩, .inr ⟨0, rfl, fun i hi => ?_⟩⟩
  · rw [Dim.ints_len]; exact grownCap_ge w S.size 0 5
  · rw [Dim.ints_len]; omega
  · exact grownCap_le_maxLen w S.size 0 5 (by unfold maxLen; omega)
  · rw [Dim.ints_len] at hi
    rw [Nat.zero_add, Lib.bytesWorld_cell w 5 S i hi]
    have h2 : i < S.data.toList.length := by rw [Array.length_toList]; exact hi
    unfold Dim.ints List.getD
    rw [List.getElem?_map, List.getElem?_eq_getElem h2]
    rfl
theorem strOf_ints (S : ByteArray) : strOfNums (Dim.ints S) = S := by
  unfold strOfNums Dim.ints
  apply ByteArray.ext
  rw [List.map_map, show ((fun n : Int => UInt8.ofNat n.toNat) ∘ fun b : UInt8 => (b.toNat : Int)) = id from funext fun b => by simp]
  simp
theorem parse_own (S : ByteArray) (w : World) (hS : S.size ≤ 100000) :
    Calls Tryd.prog 9 #[.slice (some ⟨w.heap.size, 0, none⟩) S.size (grownCap w S.size 0 5)] (Lib.bytesWorld w 5 S) fun e w' => ∃ a cap, e = .returned (.tuple #[.agg #[.int .i64 (Dim.parse (Dim.ints S)).vars, .slice a (Dim.parse (Dim.ints S)).cls.length cap], .int .i64 (Dim.parse (Dim.ints S)).err, .int .i64 (Dim.parse (Dim.ints S)).at_]) ∧ Cls w' a (Dim.parse (Dim.ints S)).cls ∧ Below (Lib.bytesWorld w 5 S).heap.size (Lib.bytesWorld w 5 S) w' :=
  parse9 w.heap.size (some ⟨w.heap.size, 0, none⟩) S.size (grownCap w S.size 0 5) (Dim.ints S) (Lib.bytesWorld w 5 S) ⟨_, _, Lib.bytesWorld_at_new w 5 S⟩ (Dim.ints_len S) (str_txt S w hS) (by omega)
theorem parse_ref (S : ByteArray) (w : World) (z : Nat) (hz : w.heap.size = z) (hS : S.size ≤ 100000) :
    Calls Tryd.prog 10 #[.slice (some ⟨z, 0, none⟩) S.size (grownCap w S.size 0 5)] (Lib.bytesWorld w 5 S) fun e w' => ∃ a cap, e = .returned (.tuple #[.agg #[.int .i64 (Dim.parse (Dim.ints S)).vars, .slice a (Dim.parse (Dim.ints S)).cls.length cap], .int .i64 (Dim.parse (Dim.ints S)).err, .int .i64 (Dim.parse (Dim.ints S)).at_]) ∧ Cls w' a (Dim.parse (Dim.ints S)).cls ∧ Below w.heap.size w w' := by
  subst hz
  refine (parse10 w.heap.size 0 S.size (grownCap w S.size 0 5) (Dim.ints S) (Lib.bytesWorld w 5 S) (Dim.ints_len S) (str_txt S w hS) (by rw [Lib.bytesWorld_size]; omega) (by omega)).mono ?_
  rintro e w' ⟨a, cap, he, hc, hb⟩
  exact ⟨a, cap, he, hc, (bytes_below w S).trans (hb.mono (by rw [Lib.bytesWorld_size]; omega))⟩
/-- The text stands where it stood. -/
theorem str_back (S : ByteArray) (w W : World) (hS : S.size ≤ 100000) (h : W.heap[w.heap.size]? = (Lib.bytesWorld w 5 S).heap[w.heap.size]?) : (convert 22 9 (.slice (some ⟨w.heap.size, 0, none⟩) S.size (grownCap w S.size 0 5))).run Tryd.prog W = .ok (.string S) W := by
  have hb := ((str_txt S w hS).kept h).bytesIn
  rw [Dim.ints_len] at hb
  rw [hb.convert (Dim.ints_len S) _ 22 5 9 Tryd.underlying22 Tryd.underlying5 Tryd.underlying9, strOf_ints]

set_option maxRecDepth 100000 in
set_option maxHeartbeats 4000000 in
theorem law3 (S : ByteArray) (w : World) (htab : Lib.TabBelow Tryd.prog w.heap.size w "internal/strconv.uint64pow10" .u64 Lib.pow10Tab) :
    Calls Tryd.prog 3 #[.string S] w fun e w' => e = .returned (.bool true) ∧ Below w.heap.size w w' := by
  have HT := hid htab
  clear htab
  by_cases h3 : (3000 : Int) < S.size
  · clear HT
    go_enter Tryd.func3, Tryd.ntmps3
    go_wp2
    go_ret
    exact ⟨rfl, Below.refl _ _⟩
  obtain ⟨A, hA⟩ : ∃ A, Dim.parse (Dim.ints S) = A := ⟨_, rfl⟩
  have hfit := Dim.parse_fit (Dim.ints S)
  have C9 := hid (parse_own S w (by omega))
  have CR := hid (fun (W : World) (z : Nat) (hz : W.heap.size = z) => parse_ref S W z hz (by omega))
  have SB := hid (fun (W : World) h => str_back S w W (by omega) h)
  rw [hA] at hfit C9 CR
  clear hA
  obtain ⟨er, at_, vr, cs2⟩ := A
  simp only at hfit C9 CR
  have HFIT := hid hfit
  clear hfit
  have HBW := hid (bytes_below w S)
  have HSZ := hid (show (Lib.bytesWorld w 5 S).heap.size = w.heap.size + 1 from Lib.bytesWorld_size w 5 S)
  have cvt := Lib.run_convert_string_bytes (P := Tryd.prog) w 9 22 5 S Tryd.underlying9 Tryd.underlying22 Tryd.underlying5
  go_enter Tryd.func3, Tryd.ntmps3
  go_wp2_with (first
    | (go_at_call 9; refine C9.out.mono ?_; clear C9; rintro e W2 ⟨a2, cap2, rfl, hcl2, hb2⟩
       have hw2 := below_box W2 (.cells #[.int .i64 vr, .slice a2 cs2.length cap2] 25)
       have hbx := World.alloc_heap_new W2 (.cells #[.int .i64 vr, .slice a2 cs2.length cap2] 25)
       have HBX := hid (fun (W : World) (h : Below (W2.alloc (.cells #[.int .i64 vr, .slice a2 cs2.length cap2] 25)).heap.size (W2.alloc (.cells #[.int .i64 vr, .slice a2 cs2.length cap2] 25)) W) => And.intro ((h.cell (p := ⟨W2.heap.size, 0, none⟩) (by simp)).trans (row_cell hbx 0)) ((h.cell (p := ⟨W2.heap.size, 1, none⟩) (by simp)).trans (row_cell hbx 1)))
       have HC2 := hid (hcl2.below hw2)
       have HB2 := hid (hb2.trans (hw2.mono hb2.size))
       have C10 := hid (CR.out (W2.alloc (.cells #[.int .i64 vr, .slice a2 cs2.length cap2] 25)) (W2.heap.size + 1) (by simp))
       clear cvt CR
       have cvt := Lib.run_convert_string_bytes (P := Tryd.prog) (W2.alloc (.cells #[.int .i64 vr, .slice a2 cs2.length cap2] 25)) 9 22 5 S Tryd.underlying9 Tryd.underlying22 Tryd.underlying5
       clear hcl2 hb2 hw2 hbx)
    | (go_at_call 10; refine C10.out.mono ?_; clear C10; rintro e W3 ⟨a3, cap3, rfl, hcl3, hb3⟩
       have hw3 := below_box W3 (.cells #[.int .i64 vr, .slice a3 cs2.length cap3] 25)
       have hB3 := hb3.trans (hw3.mono hb3.size)
       have y0 := (HBX.out _ hB3).1
       have y1 := (HBX.out _ hB3).2
       simp only [List.getElem?_toArray, List.getElem?_cons_zero, List.getElem?_cons_succ] at y0 y1
       have C11 := hid (sameFormula11 vr a2 a3 cs2.length cap2 cap3 cs2 (W3.alloc (.cells #[.int .i64 vr, .slice a3 cs2.length cap3] 25)) rfl (by have := HFIT.out.1; omega) (HC2.out.below hB3) (hcl3.below hw3) (fun c hc => by have := Dim.mem_flat_le cs2 c hc; have := HFIT.out.2; omega))
       have HB3 := hid (HB2.out.trans (hB3.mono HB2.out.size))
       clear hcl3 hb3 hw3 hB3 cvt HBX HC2)
    | (go_at_call 11; refine C11.out.mono ?_; clear C11; rintro e W4 ⟨rfl, hb4⟩
       have hB4 := HB3.out.trans (hb4.mono HB3.out.size)
       have cvb := SB.out W4 (hB4.block w.heap.size (by rw [HSZ.out]; omega))
       have hB5 := HBW.out.trans (hB4.mono HBW.out.size)
       have C12 := hid (works12 W4 (fun w' hw => HT.out w' (hB5.trans (hw.mono hB5.size))))
       have HB5 := hid hB5
       clear hb4 hB4 hB5 y0 y1)
    | (go_at_call 12; refine C12.out.mono ?_; clear C12; rintro e W5 ⟨rfl, hb5⟩
       have HB6 := hid (HB5.out.trans (hb5.mono HB5.out.size))
       clear hb5))
  all_goals
    go_ret
    exact ⟨rfl, HB6.out⟩
end Go.Proofs.YtlhpnkgdnmnclaaDoor
