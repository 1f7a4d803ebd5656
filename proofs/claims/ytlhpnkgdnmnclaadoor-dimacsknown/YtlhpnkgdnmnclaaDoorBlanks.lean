/- Remarks and blanks ahead of a text: the walk of the statement's own function. -/
import Derived.Test.YtlhpnkgdnmnclaaDoorStr
import Derived.Test.YtlhpnkgdnmnclaaDoorAt
namespace Go.Proofs.YtlhpnkgdnmnclaaDoor
open Go.RowKit
set_option linter.unusedVariables false

theorem rows3 (R S : ByteArray) (W : World) (b : Nat) (h : W.heap[b]? = some (.cells #[.string ⟨#[10]⟩, .string ⟨#[32, 9, 13, 10]⟩, .string (⟨#[99]⟩ ++ R ++ ⟨#[10]⟩)] 9 (0, 0))) (hR : (R.size : Int) ≤ 3000) (A : Dim.Ans)
    (hS : ∀ X : ByteArray, X = ⟨#[10]⟩ ∨ X = ⟨#[32, 9, 13, 10]⟩ ∨ X = ⟨#[99]⟩ ++ R ++ ⟨#[10]⟩ → Dim.parse (Dim.ints (X ++ S)) = Dim.later A) :
    ∀ j, j < 3 → ∃ X : ByteArray, W.cell? ⟨b, j, none⟩ = some (.string X) ∧ X.size ≤ 3002 ∧ Dim.parse (Dim.ints (X ++ S)) = Dim.later A := by
  intro j hj
  have hc := row_cell h j
  match j, hj with
  | 0, _ => exact ⟨⟨#[10]⟩, by rw [hc]; rfl, by decide, hS _ (.inl rfl)⟩
  | 1, _ => exact ⟨⟨#[32, 9, 13, 10]⟩, by rw [hc]; rfl, by decide, hS _ (.inr (.inl rfl))⟩
  | 2, _ => exact ⟨⟨#[99]⟩ ++ R ++ ⟨#[10]⟩, by rw [hc]; rfl, by
      rw [ByteArray.size_append, ByteArray.size_append]
      have e1 : (⟨#[99]⟩ : ByteArray).size = 1 := rfl
      have e2 : (⟨#[10]⟩ : ByteArray).size = 1 := rfl
      omega, hS _ (.inr (.inr rfl))⟩

set_option maxRecDepth 100000 in
set_option maxHeartbeats 4000000 in
theorem law7 (S R : ByteArray) (w : World) (hS : (S.size : Int) ≤ 3000) (hR : (R.size : Int) ≤ 3000) (htab : Lib.TabBelow Tryd.prog w.heap.size w "internal/strconv.uint64pow10" .u64 Lib.pow10Tab) :
    Calls Tryd.prog 7 #[.string S, .string R] w fun e w' => e = .returned (.bool true) ∧ Below w.heap.size w w' := by
  have HT := hid htab
  have CW := hid (works12 w htab)
  clear htab
  have t1 : ¬ (3000 : Int) < S.size := by omega
  have t2 : ¬ (3000 : Int) < R.size := by omega
  obtain ⟨A, hA⟩ : ∃ A, Dim.parse (Dim.ints S) = A := ⟨_, rfl⟩
  have hfit := Dim.parse_fit (Dim.ints S)
  have hat := Dim.parse_at (Dim.ints S)
  have C9 := hid (parse_str S w (by omega))
  rw [hA] at C9 hfit hat
  rw [Dim.ints_len] at hat
  have HST := hid (fun hR => starts R S A hA hR)
  clear hA
  obtain ⟨er, at_, vr, cs⟩ := A
  obtain ⟨n, hn⟩ : ∃ n, cs.length = n := ⟨_, rfl⟩
  simp only [hn] at C9 hfit
  simp only at hat
  have hat2 : (at_ : Int) ≤ 6002 := by omega
  clear hat
  have HN := hid hn
  have HF := hid hfit.2
  have hN := hfit.1
  clear hn hfit
  have cvt1 := Lib.run_convert_string_bytes (P := Tryd.prog) w 9 22 5 S Tryd.underlying9 Tryd.underlying22 Tryd.underlying5
  go_enter Tryd.func7, Tryd.ntmps7
  go_wp2
  go_loop [5] (fun i => ∃ k : Nat, k ≤ R.size ∧ i = .int .i64 k ∧ Hid (∀ c ∈ (Dim.ints R).take k, c ≠ 10)) (fun i => R.size - (intOf i).toNat)
  case atStart => exact ⟨0, Nat.zero_le _, rfl, hid (by simp)⟩
  case round =>
    obtain ⟨k, hk, rfl, HK⟩ := hrel
    by_cases hlt : k < R.size
    · have hlt' : (k : Int) < R.size := by omega
      clear C9 cvt1
      go_wp2_with (go_at_call 12; refine CW.out.mono ?_; clear CW; rintro e W2 ⟨rfl, hb2⟩; replace hb2 := hid hb2)
      · go_ret
        exact ⟨rfl, hb2.out⟩
      · go_round
        case rel => exact ⟨k + 1, by omega, by go_num, hid (Dim.noTen_step R k hlt HK.out (by assumption))⟩
        case measure => simp [intOf]; omega
    · have hlt' : ¬ (k : Int) < R.size := by omega
      have HS2 := hid (HST.out (by
        have := HK.out
        rwa [List.take_of_length_le (by rw [Dim.ints_len]; omega)] at this))
      clear HST HK CW
      go_wp2_with (go_at_call 9; refine C9.out.mono ?_; clear C9; rintro e W2 ⟨a, cap, rfl, hcls, hb2⟩; replace hcls := hid hcls; replace hb2 := hid hb2; clear cvt1)
      obtain ⟨W3, hW3⟩ : ∃ W3, (W2.alloc (.cells #[.int .i64 vr, .slice a n cap] 25)).alloc (.cells #[.string ⟨#[10]⟩, .string ⟨#[32, 9, 13, 10]⟩, .string (⟨#[99]⟩ ++ R ++ ⟨#[10]⟩)] 9) = W3 := ⟨_, rfl⟩
      have hB23 : Below W2.heap.size W2 W3 := by rw [← hW3]; exact ((Below.refl _ W2).alloc (Nat.le_refl _) _).alloc (by simp) _
      have hB3 : Below w.heap.size w W3 := hb2.out.trans (hB23.mono hb2.out.size)
      have hk0 : W3.heap[W2.heap.size]? = some (.cells #[.int .i64 vr, .slice a n cap] 25 (0, 0)) := by
        rw [← hW3, Below.heap_alloc _ _ _ (by simp)]; exact World.alloc_heap_new W2 _
      have hk1 : W3.heap[W2.heap.size + 1]? = some (.cells #[.string ⟨#[10]⟩, .string ⟨#[32, 9, 13, 10]⟩, .string (⟨#[99]⟩ ++ R ++ ⟨#[10]⟩)] 9 (0, 0)) := by
        rw [← hW3]
        have := World.alloc_heap_new (W2.alloc (.cells #[.int .i64 vr, .slice a n cap] 25)) (.cells #[.string ⟨#[10]⟩, .string ⟨#[32, 9, 13, 10]⟩, .string (⟨#[99]⟩ ++ R ++ ⟨#[10]⟩)] 9)
        simpa using this
      have hz : W3.heap.size = W2.heap.size + 2 := by rw [← hW3]; simp
      have HW := hid hW3
      have HC := hid (hcls.out.below hB23)
      have HB3 := hid hB3
      have HK0 := hid hk0
      have HR := hid (rows3 R S W3 (W2.heap.size + 1) hk1 hR _ HS2.out)
      have HLN := hid (fun c hc => Nat.le_trans (Dim.mem_flat_le cs c hc) HF.out)
      clear hB23 hB3 hk0 hk1 hcls hb2 HS2 hW3
      rw [HW.out]
      clear HW
      go_loopw [45] (fun i wr => ∃ j : Nat, j ≤ 3 ∧ i = .int .i64 j ∧ Hid (Below W3.heap.size W3 wr)) (fun i _ => 3 - (intOf i).toNat)
      case atStart => exact ⟨0, Nat.zero_le _, rfl, hid (Below.refl _ _)⟩
      case round =>
        obtain ⟨j, hj, rfl, HD⟩ := hrel
        have HBr := hid (HB3.out.trans (HD.out.mono HB3.out.size))
        by_cases hlt3 : j < 3
        · have hlt3' : (j : Int) < 3 := by omega
          obtain ⟨X, hX, hXs, hXp⟩ := HR.out j hlt3
          have hXc : wr.cell? ⟨W2.heap.size + 1, j, none⟩ = some (.string X) := (HD.out.cell (by show W2.heap.size + 1 < W3.heap.size; omega)).trans hX
          have C9 := hid (parse_str (X ++ S) wr (by rw [ByteArray.size_append]; omega))
          rw [hXp, ByteArray.size_append] at C9
          unfold Dim.later at C9
          simp only [HN.out] at C9
          have cvt2 := Lib.run_convert_string_bytes (P := Tryd.prog) wr 9 22 5 (X ++ S) Tryd.underlying9 Tryd.underlying22 Tryd.underlying5
          clear hX hXp HR
          by_cases he : er = 0
          · have he1 : ((er : Int) != 0) = false := by rw [he]; rfl
            simp only [if_pos he] at C9
            rw [Int.natCast_zero] at C9
            replace he := hid he
            go_wp2_with (first
              | (go_at_call 9; refine C9.out.mono ?_; clear C9; rintro e W5 ⟨a5, cap5, rfl, hcls5, hb5⟩; clear cvt2
                 have hB5 : Below W3.heap.size W3 W5 := HD.out.trans (hb5.mono HD.out.size)
                 have hB6 : Below W3.heap.size W3 (W5.alloc (.cells #[.int .i64 vr, .slice a5 n cap5] 25)) := hB5.alloc hB5.size _
                 have z6 : W2.heap.size < W3.heap.size := by omega
                 have x0 := (hB6.cell (p := ⟨W2.heap.size, 0, none⟩) z6).trans (row_cell HK0.out 0)
                 have x1 := (hB6.cell (p := ⟨W2.heap.size, 1, none⟩) z6).trans (row_cell HK0.out 1)
                 simp only [List.getElem?_toArray, List.getElem?_cons_zero, List.getElem?_cons_succ] at x0 x1
                 have C11 := hid (sameFormula11 vr a a5 n cap cap5 cs (W5.alloc (.cells #[.int .i64 vr, .slice a5 n cap5] 25)) HN.out (by omega) (HC.out.below hB6) (hcls5.below (below_box _ _)) (fun c hc => Nat.le_trans (HLN.out c hc) (by decide)))
                 replace hcls5 := hid hcls5
                 replace hb5 := hid hb5
                 replace hB5 := hid hB5
                 replace hB6 := hid hB6)
              | (go_at_call 11; refine C11.out.mono ?_; clear C11; rintro e W7 ⟨rfl, hb7⟩; replace hb7 := hid hb7))
            go_roundw
            case rel => exact ⟨j + 1, by omega, by go_num, hid (hB6.out.trans (hb7.out.mono hB6.out.size))⟩
            case measure => simp [intOf]; omega
          · have he0 : ¬ (er : Int) = 0 := by omega
            simp only [if_neg he] at C9
            rw [Int.natCast_add] at C9
            go_wp2_with (first
              | (go_at_call 9; refine C9.out.mono ?_; clear C9; rintro e W5 ⟨a5, cap5, rfl, hcls5, hb5⟩; clear cvt2
                 have hB5 : Below W3.heap.size W3 W5 := HD.out.trans (hb5.mono HD.out.size)
                 have hB6 : Below W3.heap.size W3 (W5.alloc (.cells #[.int .i64 vr, .slice a5 n cap5] 25)) := hB5.alloc hB5.size _
                 have z6 : W2.heap.size < W3.heap.size := by omega
                 have x0 := (hB6.cell (p := ⟨W2.heap.size, 0, none⟩) z6).trans (row_cell HK0.out 0)
                 have x1 := (hB6.cell (p := ⟨W2.heap.size, 1, none⟩) z6).trans (row_cell HK0.out 1)
                 simp only [List.getElem?_toArray, List.getElem?_cons_zero, List.getElem?_cons_succ] at x0 x1
                 have C11 := hid (sameFormula11 vr a a5 n cap cap5 cs (W5.alloc (.cells #[.int .i64 vr, .slice a5 n cap5] 25)) HN.out (by omega) (HC.out.below hB6) (hcls5.below (below_box _ _)) (fun c hc => Nat.le_trans (HLN.out c hc) (by decide)))
                 replace hcls5 := hid hcls5
                 replace hb5 := hid hb5
                 replace hB5 := hid hB5
                 replace hB6 := hid hB6)
              | (go_at_call 11; refine C11.out.mono ?_; clear C11; rintro e W7 ⟨rfl, hb7⟩; replace hb7 := hid hb7))
            go_roundw
            case rel => exact ⟨j + 1, by omega, by go_num, hid (hB6.out.trans (hb7.out.mono hB6.out.size))⟩
            case measure => simp [intOf]; omega
        · have hge3 : ¬ (j : Int) < 3 := by omega
          have C12 := hid (works12 wr (fun w' h => HT.out w' (HBr.out.trans (h.mono HBr.out.size))))
          go_wp2_with (go_at_call 12; refine C12.out.mono ?_; clear C12; rintro e W8 ⟨rfl, hb8⟩; replace hb8 := hid hb8)
          go_ret
          exact ⟨rfl, HBr.out.trans (hb8.out.mono HBr.out.size)⟩
end Go.Proofs.YtlhpnkgdnmnclaaDoor
