/- A model's values by the document's own function. -/
import Derived.Test.YtlhpnkgdnmnclaaDoorRefPrint
namespace Dim
set_option linter.unusedVariables false
theorem put_stay (A B : List UInt8) (i : Int) (h : ¬ 78 < B.length + 1 + (Go.Lib.itoa i).length) : putX (A ++ B) A.length i = A ++ (B ++ [32] ++ Go.Lib.itoa i) ∧ putL (A ++ B) A.length i = A.length := by
  have e : (A ++ B).length - A.length = B.length := by simp
  unfold putX putL
  rw [e, if_neg h, if_neg h]
  simp
theorem put_new (A B : List UInt8) (i : Int) (h : 78 < B.length + 1 + (Go.Lib.itoa i).length) : putX (A ++ B) A.length i = (A ++ B ++ [10]) ++ ([118] ++ [32] ++ Go.Lib.itoa i) ∧ putL (A ++ B) A.length i = (A ++ B ++ [10]).length := by
  have e : (A ++ B).length - A.length = B.length := by simp
  unfold putX putL
  rw [e, if_pos h, if_pos h]
  simp
  omega
def valAt (m : List Bool) (k : Nat) : Int := if k < m.length then valI m k else 0
theorem vals_take (m : List Bool) (k : Nat) (h : k ≤ m.length) : (valInts m ++ [0]).take (k + 1) = (valInts m ++ [0]).take k ++ [valAt m k] := by
  have hl : (valInts m).length = m.length := by simp [valInts]
  have hk : k < (valInts m ++ [0]).length := by simp [hl]; omega
  rw [List.take_succ_eq_append_getElem hk]
  congr 2
  unfold valAt
  by_cases hlt : k < m.length
  · rw [if_pos hlt, List.getElem_append_left (by omega)]
    simp [valInts]
  · rw [if_neg hlt]
    have : k = (valInts m).length := by omega
    subst this
    simp
theorem pages_step (m : List Bool) (k : Nat) (A B : List UInt8) (h : k ≤ m.length) (hp : pages ([118], 0) ((valInts m ++ [0]).take k) = (A ++ B, A.length)) : pages ([118], 0) ((valInts m ++ [0]).take (k + 1)) = (putX (A ++ B) A.length (valAt m k), putL (A ++ B) A.length (valAt m k)) := by
  rw [vals_take m k h, pages_snoc, hp]
theorem valAt_pos (m : List Bool) (k : Nat) (h : k < m.length) (hm : m.getD k false = true) : valAt m k = (k : Int) + 1 := by
  unfold valAt valI; rw [if_pos h, if_pos hm]
theorem valAt_neg (m : List Bool) (k : Nat) (h : k < m.length) (hm : m.getD k false = false) : valAt m k = -((k + 1 : Nat) : Int) := by
  unfold valAt valI; rw [if_pos h, hm]; simp
theorem valAt_end (m : List Bool) : valAt m m.length = 0 := by unfold valAt; simp
end Dim
namespace Go.Proofs.YtlhpnkgdnmnclaaDoor
open Go.RowKit
set_option linter.unusedVariables false

theorem dstr_zero : dstr 0 = ⟨#[48]⟩ := by unfold dstr; rw [Dim.itoa_0]

theorem ne_v (R : ByteArray) (h : ¬ R = ⟨#[118]⟩) : (R.toList == [118]) = false := by
  rw [beq_eq_false_iff_ne, ByteArray.toList_eq]
  intro e
  refine h (ByteArray.ext ?_)
  rw [← Array.toList_inj]
  exact e
/-- What the next word makes of the lines, the two ways. -/
theorem put_word (m : List Bool) (k : Nat) (A B : List UInt8) (O R D : ByteArray) (hO : O = bstr A) (hR : R = bstr B) (hD : D = dstr (Dim.valAt m k)) (hk : k ≤ m.length) (hm : m.length ≤ 4294967296) (hp : Dim.pages ([118], 0) ((Dim.valInts m ++ [0]).take k) = (A ++ B, A.length)) (hl : A.length + B.length ≤ 1 + 24 * k) :
    (D.size ≤ 21 ∧ O.size = A.length ∧ R.size = B.length) ∧
    (¬ 78 < R.size + 1 + D.size → ∃ A' B', O = bstr A' ∧ R ++ ⟨#[32]⟩ ++ D = bstr B' ∧ Dim.pages ([118], 0) ((Dim.valInts m ++ [0]).take (k + 1)) = (A' ++ B', A'.length) ∧ A'.length + B'.length ≤ 1 + 24 * (k + 1)) ∧
    (78 < R.size + 1 + D.size → ¬ R = ⟨#[118]⟩ ∧ ∃ A' B', O ++ R ++ ⟨#[10]⟩ = bstr A' ∧ ⟨#[118]⟩ ++ ⟨#[32]⟩ ++ D = bstr B' ∧ Dim.pages ([118], 0) ((Dim.valInts m ++ [0]).take (k + 1)) = (A' ++ B', A'.length) ∧ A'.length + B'.length ≤ 1 + 24 * (k + 1)) := by
  have hv : -9223372036854775808 ≤ Dim.valAt m k ∧ Dim.valAt m k ≤ 9223372036854775807 := by
    unfold Dim.valAt Dim.valI
    split
    · split <;> omega
    · omega
  have hRs : R.size = B.length := by rw [hR, bstr_size]
  have hDs : D.size = (Lib.itoa (Dim.valAt m k)).length := by rw [hD, dstr_eq, bstr_size]
  have hDl := Lib.itoa_length_le _ hv.1 hv.2
  refine ⟨⟨by omega, by rw [hO, bstr_size], hRs⟩, fun h => ?_, fun h => ⟨fun e => ?_, ?_⟩⟩
  · rw [hRs, hDs] at h
    obtain ⟨e1, e2⟩ := Dim.put_stay A B _ h
    refine ⟨A, B ++ [32] ++ Lib.itoa (Dim.valAt m k), hO, ?_, ?_, ?_⟩
    · rw [hR, hD, dstr_eq, ← bstr_app, ← bstr_app]; rfl
    · rw [Dim.pages_step m k A B hk hp, e1, e2]
    · simp; omega
  · rw [e] at h
    have : (⟨#[118]⟩ : ByteArray).size = 1 := rfl
    omega
  · rw [hRs, hDs] at h
    obtain ⟨e1, e2⟩ := Dim.put_new A B _ h
    refine ⟨A ++ B ++ [10], [118] ++ [32] ++ Lib.itoa (Dim.valAt m k), ?_, ?_, ?_, ?_⟩
    · rw [hO, hR, ← bstr_app, ← bstr_app]; rfl
    · rw [hD, dstr_eq, ← bstr_app, ← bstr_app]; rfl
    · rw [Dim.pages_step m k A B hk hp, e1, e2]
    · simp; omega

set_option maxRecDepth 100000 in
set_option maxHeartbeats 4000000 in
theorem values17 (a : Option Addr) (n cap : Nat) (m : List Bool) (w : World) (hn : m.length = n) (hN : n ≤ 4294967296) (hm : Bools w a m) :
    Calls Tryd.prog 17 #[.slice a n cap] w fun e w' => e = .returned (.string (bstr (Dim.valuesB m))) ∧ Below w.heap.size w w' := by
  have HM := hid hm
  have HN := hid hn
  clear hm hn
  go_enter Tryd.func17, Tryd.ntmps17
  go_wp2
  go_loopw [3, 4, 5] (fun o r i wr => ∃ (k : Nat) (A B : List UInt8) (O R : ByteArray), k ≤ n + 1 ∧ i = .int .i64 ((k : Int) + 1) ∧ o = .string O ∧ r = .string R ∧ Hid (O = bstr A) ∧ Hid (R = bstr B) ∧ Hid (Dim.pages ([118], 0) ((Dim.valInts m ++ [0]).take k) = (A ++ B, A.length)) ∧ Hid (A.length + B.length ≤ 1 + 24 * k) ∧ Hid (Below w.heap.size w wr)) (fun _ _ i _ => n + 2 - (intOf i).toNat)
  case atStart => exact ⟨0, [], [118], _, _, Nat.zero_le _, rfl, rfl, rfl, hid rfl, hid rfl, hid rfl, hid (by simp), hid (Below.refl _ _)⟩
  case round =>
    obtain ⟨k, A, B, O, R, hk, rfl, rfl, rfl, HO, HR, HP, HL, HB⟩ := hrel
    by_cases hlt : k < n
    · obtain ⟨b, off, rfl, hc⟩ := HM.out.at (k := k) (by rw [HN.out]; exact hlt)
      have hbb : b < w.heap.size := World.block_lt_of_cell? w _ hc
      have x1 := (HB.out.cell (p := ⟨b, off + k, none⟩) hbb).trans hc
      have C33 := hid (digits33 ((k : Int) + 1) (by omega) (by omega) wr)
      have PW := hid (fun D hD => put_word m k A B O R D HO.out HR.out hD (by rw [HN.out]; omega) (by rw [HN.out]; exact hN) HP.out HL.out)
      have HLL := hid (show A.length ≤ 1 + 24 * k ∧ B.length ≤ 1 + 24 * k by have := HL.out; omega)
      have hDs := dstr_len ((k : Int) + 1) (by omega) (by omega)
      clear hc
      have hbr : b < wr.heap.size := Nat.lt_of_lt_of_le hbb HB.out.size
      have l1 : (k : Int) + 1 ≤ (n : Int) + 1 := by omega
      have l2 : (k : Int) + 1 ≤ n := by omega
      have l3 : (0 : Int) ≤ (k : Int) + 1 - 1 := by omega
      have l4 : (k : Int) + 1 - 1 < n := by omega
      cases hv : m.getD k false
      · rw [hv] at x1
        have hD := PW.out (⟨#[45]⟩ ++ dstr ((k : Int) + 1)) (by rw [Dim.valAt_neg m k (by rw [HN.out]; exact hlt) hv, dstr_neg (k + 1) (by omega)]; rfl)
        generalize dstr ((k : Int) + 1) = X at C33 hDs hD
        have e45 : (⟨#[45]⟩ ++ X : ByteArray).size = 1 + X.size := by rw [ByteArray.size_append]; rfl
        rw [e45] at hD
        obtain ⟨⟨s1, s2, s3⟩, p1, p2⟩ := hD
        have s4 : O.size ≤ 1 + 24 * k := by rw [s2]; exact HLL.out.1
        have s5 : R.size ≤ 1 + 24 * k := by rw [s3]; exact HLL.out.2
        clear PW HLL e45 s1 s2 s3 hv
        by_cases hc78 : 78 < R.size + 1 + (1 + X.size)
        · obtain ⟨q1, q2⟩ := p2 hc78
          have q3 := ne_v R q1
          have Q2 := hid q2
          have t1 : (78 : Int) < R.size + 1 + (1 + X.size) := by omega
          clear p1 p2 q2 q1
          go_wp2_with (go_at_call 33; refine C33.out.mono ?_; clear C33; rintro e w7 ⟨rfl, hb7⟩; have x7 := (hb7.cell (p := ⟨b, off + k, none⟩) hbr).trans x1; replace hb7 := hid hb7)
          obtain ⟨A', B', u1, u2, u3, u4⟩ := Q2.out
          go_roundw
          case rel => exact ⟨k + 1, A', B', _, _, by omega, by go_num, rfl, rfl, hid u1, hid u2, hid u3, hid u4, hid (HB.out.trans (hb7.out.mono HB.out.size))⟩
          case measure => simp [intOf]; omega
        · have Q1 := hid (p1 hc78)
          have t1 : ¬ (78 : Int) < R.size + 1 + (1 + X.size) := by omega
          clear p1 p2
          go_wp2_with (go_at_call 33; refine C33.out.mono ?_; clear C33; rintro e w7 ⟨rfl, hb7⟩; have x7 := (hb7.cell (p := ⟨b, off + k, none⟩) hbr).trans x1; replace hb7 := hid hb7)
          obtain ⟨A', B', u1, u2, u3, u4⟩ := Q1.out
          go_roundw
          case rel => exact ⟨k + 1, A', B', _, _, by omega, by go_num, rfl, rfl, hid u1, hid u2, hid u3, hid u4, hid (HB.out.trans (hb7.out.mono HB.out.size))⟩
          case measure => simp [intOf]; omega
      · rw [hv] at x1
        have hD := PW.out (dstr ((k : Int) + 1)) (by rw [Dim.valAt_pos m k (by rw [HN.out]; exact hlt) hv])
        generalize dstr ((k : Int) + 1) = X at C33 hDs hD
        obtain ⟨⟨s1, s2, s3⟩, p1, p2⟩ := hD
        have s4 : O.size ≤ 1 + 24 * k := by rw [s2]; exact HLL.out.1
        have s5 : R.size ≤ 1 + 24 * k := by rw [s3]; exact HLL.out.2
        clear PW HLL s1 s2 s3 hv
        by_cases hc78 : 78 < R.size + 1 + X.size
        · obtain ⟨q1, q2⟩ := p2 hc78
          have q3 := ne_v R q1
          have Q2 := hid q2
          have t1 : (78 : Int) < R.size + 1 + X.size := by omega
          clear p1 p2 q2 q1
          go_wp2_with (go_at_call 33; refine C33.out.mono ?_; clear C33; rintro e w7 ⟨rfl, hb7⟩; have x7 := (hb7.cell (p := ⟨b, off + k, none⟩) hbr).trans x1; replace hb7 := hid hb7)
          obtain ⟨A', B', u1, u2, u3, u4⟩ := Q2.out
          go_roundw
          case rel => exact ⟨k + 1, A', B', _, _, by omega, by go_num, rfl, rfl, hid u1, hid u2, hid u3, hid u4, hid (HB.out.trans (hb7.out.mono HB.out.size))⟩
          case measure => simp [intOf]; omega
        · have Q1 := hid (p1 hc78)
          have t1 : ¬ (78 : Int) < R.size + 1 + X.size := by omega
          clear p1 p2
          go_wp2_with (go_at_call 33; refine C33.out.mono ?_; clear C33; rintro e w7 ⟨rfl, hb7⟩; have x7 := (hb7.cell (p := ⟨b, off + k, none⟩) hbr).trans x1; replace hb7 := hid hb7)
          obtain ⟨A', B', u1, u2, u3, u4⟩ := Q1.out
          go_roundw
          case rel => exact ⟨k + 1, A', B', _, _, by omega, by go_num, rfl, rfl, hid u1, hid u2, hid u3, hid u4, hid (HB.out.trans (hb7.out.mono HB.out.size))⟩
          case measure => simp [intOf]; omega
    · by_cases hke : k = n
      · have PW := hid (fun D hD => put_word m k A B O R D HO.out HR.out hD (by rw [HN.out]; omega) (by rw [HN.out]; exact hN) HP.out HL.out)
        have HLL := hid (show A.length ≤ 1 + 24 * k ∧ B.length ≤ 1 + 24 * k by have := HL.out; omega)
        have l1 : (k : Int) + 1 ≤ (n : Int) + 1 := by omega
        have l2 : ¬ (k : Int) + 1 ≤ n := by omega
        have hD := PW.out ⟨#[48]⟩ (by rw [hke, ← HN.out, Dim.valAt_end, dstr_zero])
        obtain ⟨⟨s1, s2, s3⟩, p1, p2⟩ := hD
        rw [show (⟨#[48]⟩ : ByteArray).size = 1 from rfl] at p1 p2
        have s4 : O.size ≤ 1 + 24 * k := by rw [s2]; exact HLL.out.1
        have s5 : R.size ≤ 1 + 24 * k := by rw [s3]; exact HLL.out.2
        clear PW HLL s1 s2 s3
        by_cases hc78 : 78 < R.size + 1 + 1
        · obtain ⟨q1, q2⟩ := p2 hc78
          have q3 := ne_v R q1
          have Q2 := hid q2
          have t1 : (78 : Int) < R.size + 1 + 1 := by omega
          clear p1 p2 q2 q1
          go_wp2
          obtain ⟨A', B', u1, u2, u3, u4⟩ := Q2.out
          go_roundw
          case rel => exact ⟨k + 1, A', B', _, _, by omega, by go_num, rfl, rfl, hid u1, hid u2, hid u3, hid u4, HB⟩
          case measure => simp [intOf]; omega
        · have Q1 := hid (p1 hc78)
          have t1 : ¬ (78 : Int) < R.size + 1 + 1 := by omega
          clear p1 p2
          go_wp2
          obtain ⟨A', B', u1, u2, u3, u4⟩ := Q1.out
          go_roundw
          case rel => exact ⟨k + 1, A', B', _, _, by omega, by go_num, rfl, rfl, hid u1, hid u2, hid u3, hid u4, HB⟩
          case measure => simp [intOf]; omega
      · have l1 : ¬ (k : Int) + 1 ≤ (n : Int) + 1 := by omega
        have hkn : k = n + 1 := by omega
        have s4 : O.size ≤ 1 + 24 * k := by rw [HO.out, bstr_size]; have := HL.out; omega
        have s5 : R.size ≤ 1 + 24 * k := by rw [HR.out, bstr_size]; have := HL.out; omega
        have HE := hid (show O ++ R ++ ⟨#[10]⟩ = bstr (Dim.valuesB m) by
          have hp := HP.out
          have hl : (Dim.valInts m).length = n := by rw [← HN.out]; simp [Dim.valInts]
          rw [hkn, List.take_of_length_le (by simp [hl])] at hp
          unfold Dim.valuesB
          rw [hp, HO.out, HR.out, ← bstr_app, ← bstr_app]
          rfl)
        clear hke hkn hlt
        go_wp2
        go_ret
        exact ⟨by rw [← HE.out]; rfl, HB.out⟩
end Go.Proofs.YtlhpnkgdnmnclaaDoor
