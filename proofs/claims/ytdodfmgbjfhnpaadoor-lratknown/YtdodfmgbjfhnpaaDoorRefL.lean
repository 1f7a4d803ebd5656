/- A step's line, by the document's own function. -/
import Derived.Test.YtdodfmgbjfhnpaaDoorRefN
import Derived.Test.YtdodfmgbjfhnpaaDoorWrite
namespace Lra
def preB (xs : List Int) : List UInt8 := (xs.map (fun x => 32 :: Go.Lib.itoa x)).flatten
def refLine (s : Stp) : List UInt8 := Go.Lib.itoa s.id ++ (if s.kind = 2 then [32, 100] else []) ++ preB s.lits ++ (if s.kind = 1 then [32, 48] else []) ++ preB s.hints ++ [32, 48, 10]
theorem preB_take (xs : List Int) (k : Nat) (h : k < xs.length) : preB (xs.take (k + 1)) = preB (xs.take k) ++ (32 :: Go.Lib.itoa (xs.getD k 0)) := by
  rw [take_snoc xs k h]
  simp [preB]
theorem pre_row (xs : List Int) : preB xs ++ [32] = 32 :: rowB xs := by
  induction xs with
  | nil => rfl
  | cons x xs ih =>
    have e1 : preB (x :: xs) = 32 :: Go.Lib.itoa x ++ preB xs := by simp [preB]
    have e2 : rowB (x :: xs) = Go.Lib.itoa x ++ [32] ++ rowB xs := by simp [rowB, wordB]
    rw [e1, e2, List.append_assoc, ih]
    simp
theorem itoa0 : Go.Lib.itoa 0 = [48] := by
  rw [show (0 : Int) = ((0 : Nat) : Int) from rfl, Go.Lib.itoa_nonneg, Go.Lib.decDigits_one (by omega)]
  rfl
theorem refLine_eq (s : Stp) (h : may s = true) : refLine s = lineB s := by
  obtain ⟨k, i, l, hs⟩ := s
  unfold may at h
  unfold refLine lineB
  simp only at h ⊢
  have e2 : preB hs ++ [32, 48, 10] = 32 :: rowB hs ++ [48, 10] := by
    have := pre_row hs
    rw [show ([32, 48, 10] : List UInt8) = [32] ++ [48, 10] from rfl, ← List.append_assoc, this]
  split at h
  · rename_i hk
    subst hk
    rw [if_neg (by decide), if_pos rfl, if_neg (by decide), List.append_nil, List.append_assoc, e2, itoa0]
    have e1 : preB l ++ [32, 48] = 32 :: rowB l ++ [48] := by
      have := pre_row l
      rw [show ([32, 48] : List UInt8) = [32] ++ [48] from rfl, ← List.append_assoc, this]
    rw [List.append_assoc (Go.Lib.itoa i) (preB l), e1]
    simp [wordB, itoa0]
  · split at h
    · rename_i hk
      subst hk
      have hl : l = [] := by
        simp only [Bool.and_eq_true] at h
        exact List.isEmpty_iff.1 h.2.1
      subst hl
      rw [if_pos rfl, if_neg (by decide), if_pos rfl, List.append_nil, List.append_assoc, e2, itoa0]
      simp [wordB, preB]
    · cases h
end Lra
namespace Go.Proofs.YtdodfmgbjfhnpaaDoor
open Go.RowKit
set_option linter.unusedVariables false
set_option linter.unusedSimpArgs false

set_option maxRecDepth 100000 in
set_option maxHeartbeats 4000000 in
theorem line25 (s : Lra.Stp) (a1 : Option Addr) (c1 : Nat) (a2 : Option Addr) (c2 : Nat) (w : World) (hs : StpV w a1 a2 s) (hl : s.lits.length + s.hints.length ≤ 1000000) :
    Calls Tryd.prog 25 #[sval s a1 c1 a2 c2] w fun e w' => e = .returned (.string (bstr (Lra.refLine s))) ∧ Below w.heap.size w w' := by
  obtain ⟨kind, id, lits, hints⟩ := s
  obtain ⟨s1, s2, s3, s4, s5⟩ := hs
  simp only at s1 s2 s3 s4 s5 hl
  unfold sval
  simp only
  have hbx := below_box w (.cells #[.int .u8 kind, .int .i64 id, .slice a1 lits.length c1, .slice a2 hints.length c2] 43)
  have hx := heap_alloc_new w (.cells #[.int .u8 kind, .int .i64 id, .slice a1 lits.length c1, .slice a2 hints.length c2] 43)
  obtain ⟨n1, hn1⟩ : ∃ n1, lits.length = n1 := ⟨_, rfl⟩
  obtain ⟨n2, hn2⟩ : ∃ n2, hints.length = n2 := ⟨_, rfl⟩
  rw [hn1, hn2] at hbx hx hl s5 ⊢
  have hsz : (w.alloc (.cells #[.int .u8 kind, .int .i64 id, .slice a1 n1 c1, .slice a2 n2 c2] 43)).heap.size = w.heap.size + 1 := by simp
  generalize hW1 : w.alloc (.cells #[.int .u8 kind, .int .i64 id, .slice a1 n1 c1, .slice a2 n2 c2] 43) = W1 at hbx hx hsz
  have HSZ := hid hsz
  have BX := hid (fun (X : World) (hf : Below W1.heap.size W1 X) => (hf.block w.heap.size (by omega)).trans hx)
  have x0 := row_cell hx 0
  have x1 := row_cell hx 1
  simp only [List.getElem?_toArray, List.getElem?_cons_zero, List.getElem?_cons_succ] at x0 x1
  have HL1 := hid (s1.below hbx)
  have HL2 := hid (s2.below hbx)
  have HBX := hid hbx
  have HN1 := hid hn1
  have HN2 := hid hn2
  have shp1 : Hid (n1 = 0) ∨ ∃ b off, a1 = some ⟨b, off, none⟩ := by have := s1.shape; rw [hn1] at this; exact this
  have shp2 : Hid (n2 = 0) ∨ ∃ b off, a2 = some ⟨b, off, none⟩ := by have := s2.shape; rw [hn2] at this; exact this
  have C0 := hid (number40 id s4.1 s4.2 W1)
  have hI := itoa_le id s4.1 s4.2
  have hI0 : (bstr (Lib.itoa id)).size ≤ 20 := by rw [bstr_size]; exact hI
  obtain ⟨T0, hT0⟩ : ∃ T0, bstr (Lib.itoa id) = T0 := ⟨_, rfl⟩
  rw [hT0] at C0 hI0
  have HT0 := hid hT0
  have HRL := hid (Eq.refl (Lra.refLine ⟨kind, id, lits, hints⟩))
  clear hbx hx hsz s1 s2 s3 s4 s5 hn1 hn2 hT0 hI
  rcases shp1 with Z1 | ⟨g1, o1, rfl⟩ <;> rcases shp2 with Z2 | ⟨g2, o2, rfl⟩
  all_goals
    cases k2 : (kind == 2)
    · have KK2 : (kind = 2) = False := by simpa using k2
      go_enter Tryd.func25, Tryd.ntmps25
      go_wp2_with (first
        | (go_at_call 40; refine C0.out.mono ?_; clear C0; rintro e W2 ⟨rfl, hb2⟩
           have y0 := row_cell (BX.out W2 hb2) 0
           simp only [List.getElem?_toArray, List.getElem?_cons_zero] at y0
           have HB2 := hid hb2
           clear hb2))
      clear y0
      go_loopw [3, 4] (fun tv iv wr => ∃ (k : Nat) (T : ByteArray), tv = .string T ∧ iv = .int .i64 k ∧ k ≤ n1 ∧ Hid (T = bstr ((Lib.itoa id ++ ([] : List UInt8)) ++ Lra.preB (lits.take k))) ∧ Hid (T.size ≤ 22 + 21 * k) ∧ Hid (Below W1.heap.size W1 wr)) (fun _ iv _ => n1 - (intOf iv).toNat)
      case atStart => exact ⟨0, _, rfl, rfl, by omega, hid (show T0 = _ by rw [← HT0.out]; simp [Lra.preB]), hid (by omega), HB2⟩
      case round =>
        obtain ⟨k, T, rfl, rfl, hkk, HZ, HZS, HBz⟩ := hrel
        have r2 := row_cell (BX.out _ HBz.out) 2
        have r0 := row_cell (BX.out _ HBz.out) 0
        simp only [List.getElem?_toArray, List.getElem?_cons_zero, List.getElem?_cons_succ] at r2 r0
        by_cases hlt : k < n1
        · have hlt' : (k : Int) < n1 := by omega
          first
          | (exfalso; have := Z1.out; omega)
          | (obtain ⟨b', off', e, _, hc, u1, u2⟩ := (HL1.out.below HBz.out).at (j := k) (by rw [HN1.out]; exact hlt)
             cases e
             have HRT := hid (Lra.preB_take lits k (by rw [HN1.out]; exact hlt))
             generalize lits.getD k 0 = x at hc u1 u2 HRT
             have C := hid (number40 x (by omega) (by omega) wr)
             have hxl : (bstr (Lib.itoa x)).size ≤ 20 := by rw [bstr_size]; exact itoa_le x (by omega) (by omega)
             have HE := hid (show T ++ ⟨#[32]⟩ ++ bstr (Lib.itoa x) = bstr ((Lib.itoa id ++ ([] : List UInt8)) ++ Lra.preB (lits.take (k + 1))) by
               rw [HRT.out, HZ.out, show (⟨#[32]⟩ : ByteArray) = bstr [32] from rfl, bstr_app, bstr_app]
               simp)
             generalize bstr (Lib.itoa x) = X at C hxl HE
             have hTs := HZS.out
             go_wp2_with (first
               | (go_at_call 40; refine C.out.mono ?_; clear C; rintro e W5 ⟨rfl, hb5⟩
                  have HB5 := hid (HBz.out.trans (hb5.mono HBz.out.size))
                  clear hb5))
             go_roundw
             case rel => exact ⟨k + 1, _, rfl, by go_num, by omega, HE, hid (by rw [ByteArray.size_append, ByteArray.size_append]; show T.size + 1 + X.size ≤ _; omega), HB5⟩
             case measure => simp [intOf]; omega)
        · have hlt' : ¬ (k : Int) < n1 := by omega
          have HXk := hid (show T = bstr ((Lib.itoa id ++ ([] : List UInt8)) ++ Lra.preB lits) by
            have := HZ.out
            rwa [List.take_of_length_le (by rw [HN1.out]; omega)] at this)
          have hTz := HZS.out
          cases k1 : (kind == 1)
          · have KK1 : (kind = 1) = False := by simpa using k1
            go_wp2
            go_loopw [3, 5] (fun tv iv wr => ∃ (q : Nat) (U : ByteArray), tv = .string U ∧ iv = .int .i64 q ∧ q ≤ n2 ∧ Hid (U = bstr (((Lib.itoa id ++ ([] : List UInt8)) ++ Lra.preB lits ++ ([] : List UInt8)) ++ Lra.preB (hints.take q))) ∧ Hid (U.size ≤ (24 + 21 * n1) + 21 * q) ∧ Hid (Below W1.heap.size W1 wr)) (fun _ iv _ => n2 - (intOf iv).toNat)
            case atStart => exact ⟨0, _, rfl, rfl, by omega, hid (show T = _ by rw [HXk.out]; simp [Lra.preB]), hid (by omega), HBz⟩
            case round =>
              obtain ⟨q, U, rfl, rfl, hkq, HY, HYS, HBy⟩ := hrel
              have r3 := row_cell (BX.out _ HBy.out) 3
              have r0 := row_cell (BX.out _ HBy.out) 0
              simp only [List.getElem?_toArray, List.getElem?_cons_zero, List.getElem?_cons_succ] at r3 r0
              by_cases hl2 : q < n2
              · have hl2' : (q : Int) < n2 := by omega
                first
                | (exfalso; have := Z2.out; omega)
                | (obtain ⟨b', off', e, _, hc, u1, u2⟩ := (HL2.out.below HBy.out).at (j := q) (by rw [HN2.out]; exact hl2)
                   cases e
                   have HRT := hid (Lra.preB_take hints q (by rw [HN2.out]; exact hl2))
                   generalize hints.getD q 0 = x at hc u1 u2 HRT
                   have C := hid (number40 x (by omega) (by omega) wr)
                   have hxl : (bstr (Lib.itoa x)).size ≤ 20 := by rw [bstr_size]; exact itoa_le x (by omega) (by omega)
                   have HE := hid (show U ++ ⟨#[32]⟩ ++ bstr (Lib.itoa x) = bstr (((Lib.itoa id ++ ([] : List UInt8)) ++ Lra.preB lits ++ ([] : List UInt8)) ++ Lra.preB (hints.take (q + 1))) by
                     rw [HRT.out, HY.out, show (⟨#[32]⟩ : ByteArray) = bstr [32] from rfl, bstr_app, bstr_app]
                     simp)
                   generalize bstr (Lib.itoa x) = X at C hxl HE
                   have hTs := HYS.out
                   go_wp2_with (first
                     | (go_at_call 40; refine C.out.mono ?_; clear C; rintro e W5 ⟨rfl, hb5⟩
                        have HB5 := hid (HBy.out.trans (hb5.mono HBy.out.size))
                        clear hb5))
                   go_roundw
                   case rel => exact ⟨q + 1, _, rfl, by go_num, by omega, HE, hid (by rw [ByteArray.size_append, ByteArray.size_append]; show U.size + 1 + X.size ≤ _; omega), HB5⟩
                   case measure => simp [intOf]; omega)
              · have hl2' : ¬ (q : Int) < n2 := by omega
                have HXq := hid (show U = bstr (((Lib.itoa id ++ ([] : List UInt8)) ++ Lra.preB lits ++ ([] : List UInt8)) ++ Lra.preB hints) by
                  have := HY.out
                  rwa [List.take_of_length_le (by rw [HN2.out]; omega)] at this)
                have hTs := HYS.out
                have hT3 : ¬ 9223372036854775807 < U.size + 3 := by omega
                go_wp2
                go_ret
                refine ⟨?_, HBX.out.trans (HBy.out.mono HBX.out.size)⟩
                rw [HXq.out, show (⟨#[32, 48, 10]⟩ : ByteArray) = bstr [32, 48, 10] from rfl, bstr_app]
                unfold Lra.refLine
                simp only [KK2, KK1]
                rfl
          · have KK1 : (kind = 1) = True := by simpa using k1
            have hT2 : ¬ 9223372036854775807 < T.size + 2 := by omega
            go_wp2
            go_loopw [3, 5] (fun tv iv wr => ∃ (q : Nat) (U : ByteArray), tv = .string U ∧ iv = .int .i64 q ∧ q ≤ n2 ∧ Hid (U = bstr (((Lib.itoa id ++ ([] : List UInt8)) ++ Lra.preB lits ++ [32, 48]) ++ Lra.preB (hints.take q))) ∧ Hid (U.size ≤ (24 + 21 * n1) + 21 * q) ∧ Hid (Below W1.heap.size W1 wr)) (fun _ iv _ => n2 - (intOf iv).toNat)
            case atStart => exact ⟨0, _, rfl, rfl, by omega, hid (show T ++ ⟨#[32, 48]⟩ = _ by rw [HXk.out, show (⟨#[32, 48]⟩ : ByteArray) = bstr [32, 48] from rfl, bstr_app]; simp [Lra.preB]), hid (by rw [ByteArray.size_append]; show T.size + 2 ≤ _; omega), HBz⟩
            case round =>
              obtain ⟨q, U, rfl, rfl, hkq, HY, HYS, HBy⟩ := hrel
              have r3 := row_cell (BX.out _ HBy.out) 3
              have r0 := row_cell (BX.out _ HBy.out) 0
              simp only [List.getElem?_toArray, List.getElem?_cons_zero, List.getElem?_cons_succ] at r3 r0
              by_cases hl2 : q < n2
              · have hl2' : (q : Int) < n2 := by omega
                first
                | (exfalso; have := Z2.out; omega)
                | (obtain ⟨b', off', e, _, hc, u1, u2⟩ := (HL2.out.below HBy.out).at (j := q) (by rw [HN2.out]; exact hl2)
                   cases e
                   have HRT := hid (Lra.preB_take hints q (by rw [HN2.out]; exact hl2))
                   generalize hints.getD q 0 = x at hc u1 u2 HRT
                   have C := hid (number40 x (by omega) (by omega) wr)
                   have hxl : (bstr (Lib.itoa x)).size ≤ 20 := by rw [bstr_size]; exact itoa_le x (by omega) (by omega)
                   have HE := hid (show U ++ ⟨#[32]⟩ ++ bstr (Lib.itoa x) = bstr (((Lib.itoa id ++ ([] : List UInt8)) ++ Lra.preB lits ++ [32, 48]) ++ Lra.preB (hints.take (q + 1))) by
                     rw [HRT.out, HY.out, show (⟨#[32]⟩ : ByteArray) = bstr [32] from rfl, bstr_app, bstr_app]
                     simp)
                   generalize bstr (Lib.itoa x) = X at C hxl HE
                   have hTs := HYS.out
                   go_wp2_with (first
                     | (go_at_call 40; refine C.out.mono ?_; clear C; rintro e W5 ⟨rfl, hb5⟩
                        have HB5 := hid (HBy.out.trans (hb5.mono HBy.out.size))
                        clear hb5))
                   go_roundw
                   case rel => exact ⟨q + 1, _, rfl, by go_num, by omega, HE, hid (by rw [ByteArray.size_append, ByteArray.size_append]; show U.size + 1 + X.size ≤ _; omega), HB5⟩
                   case measure => simp [intOf]; omega)
              · have hl2' : ¬ (q : Int) < n2 := by omega
                have HXq := hid (show U = bstr (((Lib.itoa id ++ ([] : List UInt8)) ++ Lra.preB lits ++ [32, 48]) ++ Lra.preB hints) by
                  have := HY.out
                  rwa [List.take_of_length_le (by rw [HN2.out]; omega)] at this)
                have hTs := HYS.out
                have hT3 : ¬ 9223372036854775807 < U.size + 3 := by omega
                go_wp2
                go_ret
                refine ⟨?_, HBX.out.trans (HBy.out.mono HBX.out.size)⟩
                rw [HXq.out, show (⟨#[32, 48, 10]⟩ : ByteArray) = bstr [32, 48, 10] from rfl, bstr_app]
                unfold Lra.refLine
                simp only [KK2, KK1]
                rfl
    · have KK2 : (kind = 2) = True := by simpa using k2
      have g0 : ¬ 9223372036854775807 < T0.size + 2 := by omega
      go_enter Tryd.func25, Tryd.ntmps25
      go_wp2_with (first
        | (go_at_call 40; refine C0.out.mono ?_; clear C0; rintro e W2 ⟨rfl, hb2⟩
           have y0 := row_cell (BX.out W2 hb2) 0
           simp only [List.getElem?_toArray, List.getElem?_cons_zero] at y0
           have HB2 := hid hb2
           clear hb2))
      clear y0
      go_loopw [3, 4] (fun tv iv wr => ∃ (k : Nat) (T : ByteArray), tv = .string T ∧ iv = .int .i64 k ∧ k ≤ n1 ∧ Hid (T = bstr ((Lib.itoa id ++ [32, 100]) ++ Lra.preB (lits.take k))) ∧ Hid (T.size ≤ 22 + 21 * k) ∧ Hid (Below W1.heap.size W1 wr)) (fun _ iv _ => n1 - (intOf iv).toNat)
      case atStart => exact ⟨0, _, rfl, rfl, by omega, hid (show T0 ++ ⟨#[32, 100]⟩ = _ by rw [← HT0.out, show (⟨#[32, 100]⟩ : ByteArray) = bstr [32, 100] from rfl, bstr_app]; simp [Lra.preB]), hid (by rw [ByteArray.size_append]; show T0.size + 2 ≤ _; omega), HB2⟩
      case round =>
        obtain ⟨k, T, rfl, rfl, hkk, HZ, HZS, HBz⟩ := hrel
        have r2 := row_cell (BX.out _ HBz.out) 2
        have r0 := row_cell (BX.out _ HBz.out) 0
        simp only [List.getElem?_toArray, List.getElem?_cons_zero, List.getElem?_cons_succ] at r2 r0
        by_cases hlt : k < n1
        · have hlt' : (k : Int) < n1 := by omega
          first
          | (exfalso; have := Z1.out; omega)
          | (obtain ⟨b', off', e, _, hc, u1, u2⟩ := (HL1.out.below HBz.out).at (j := k) (by rw [HN1.out]; exact hlt)
             cases e
             have HRT := hid (Lra.preB_take lits k (by rw [HN1.out]; exact hlt))
             generalize lits.getD k 0 = x at hc u1 u2 HRT
             have C := hid (number40 x (by omega) (by omega) wr)
             have hxl : (bstr (Lib.itoa x)).size ≤ 20 := by rw [bstr_size]; exact itoa_le x (by omega) (by omega)
             have HE := hid (show T ++ ⟨#[32]⟩ ++ bstr (Lib.itoa x) = bstr ((Lib.itoa id ++ [32, 100]) ++ Lra.preB (lits.take (k + 1))) by
               rw [HRT.out, HZ.out, show (⟨#[32]⟩ : ByteArray) = bstr [32] from rfl, bstr_app, bstr_app]
               simp)
             generalize bstr (Lib.itoa x) = X at C hxl HE
             have hTs := HZS.out
             go_wp2_with (first
               | (go_at_call 40; refine C.out.mono ?_; clear C; rintro e W5 ⟨rfl, hb5⟩
                  have HB5 := hid (HBz.out.trans (hb5.mono HBz.out.size))
                  clear hb5))
             go_roundw
             case rel => exact ⟨k + 1, _, rfl, by go_num, by omega, HE, hid (by rw [ByteArray.size_append, ByteArray.size_append]; show T.size + 1 + X.size ≤ _; omega), HB5⟩
             case measure => simp [intOf]; omega)
        · have hlt' : ¬ (k : Int) < n1 := by omega
          have HXk := hid (show T = bstr ((Lib.itoa id ++ [32, 100]) ++ Lra.preB lits) by
            have := HZ.out
            rwa [List.take_of_length_le (by rw [HN1.out]; omega)] at this)
          have hTz := HZS.out
          cases k1 : (kind == 1)
          · have KK1 : (kind = 1) = False := by simpa using k1
            go_wp2
            go_loopw [3, 5] (fun tv iv wr => ∃ (q : Nat) (U : ByteArray), tv = .string U ∧ iv = .int .i64 q ∧ q ≤ n2 ∧ Hid (U = bstr (((Lib.itoa id ++ [32, 100]) ++ Lra.preB lits ++ ([] : List UInt8)) ++ Lra.preB (hints.take q))) ∧ Hid (U.size ≤ (24 + 21 * n1) + 21 * q) ∧ Hid (Below W1.heap.size W1 wr)) (fun _ iv _ => n2 - (intOf iv).toNat)
            case atStart => exact ⟨0, _, rfl, rfl, by omega, hid (show T = _ by rw [HXk.out]; simp [Lra.preB]), hid (by omega), HBz⟩
            case round =>
              obtain ⟨q, U, rfl, rfl, hkq, HY, HYS, HBy⟩ := hrel
              have r3 := row_cell (BX.out _ HBy.out) 3
              have r0 := row_cell (BX.out _ HBy.out) 0
              simp only [List.getElem?_toArray, List.getElem?_cons_zero, List.getElem?_cons_succ] at r3 r0
              by_cases hl2 : q < n2
              · have hl2' : (q : Int) < n2 := by omega
                first
                | (exfalso; have := Z2.out; omega)
                | (obtain ⟨b', off', e, _, hc, u1, u2⟩ := (HL2.out.below HBy.out).at (j := q) (by rw [HN2.out]; exact hl2)
                   cases e
                   have HRT := hid (Lra.preB_take hints q (by rw [HN2.out]; exact hl2))
                   generalize hints.getD q 0 = x at hc u1 u2 HRT
                   have C := hid (number40 x (by omega) (by omega) wr)
                   have hxl : (bstr (Lib.itoa x)).size ≤ 20 := by rw [bstr_size]; exact itoa_le x (by omega) (by omega)
                   have HE := hid (show U ++ ⟨#[32]⟩ ++ bstr (Lib.itoa x) = bstr (((Lib.itoa id ++ [32, 100]) ++ Lra.preB lits ++ ([] : List UInt8)) ++ Lra.preB (hints.take (q + 1))) by
                     rw [HRT.out, HY.out, show (⟨#[32]⟩ : ByteArray) = bstr [32] from rfl, bstr_app, bstr_app]
                     simp)
                   generalize bstr (Lib.itoa x) = X at C hxl HE
                   have hTs := HYS.out
                   go_wp2_with (first
                     | (go_at_call 40; refine C.out.mono ?_; clear C; rintro e W5 ⟨rfl, hb5⟩
                        have HB5 := hid (HBy.out.trans (hb5.mono HBy.out.size))
                        clear hb5))
                   go_roundw
                   case rel => exact ⟨q + 1, _, rfl, by go_num, by omega, HE, hid (by rw [ByteArray.size_append, ByteArray.size_append]; show U.size + 1 + X.size ≤ _; omega), HB5⟩
                   case measure => simp [intOf]; omega)
              · have hl2' : ¬ (q : Int) < n2 := by omega
                have HXq := hid (show U = bstr (((Lib.itoa id ++ [32, 100]) ++ Lra.preB lits ++ ([] : List UInt8)) ++ Lra.preB hints) by
                  have := HY.out
                  rwa [List.take_of_length_le (by rw [HN2.out]; omega)] at this)
                have hTs := HYS.out
                have hT3 : ¬ 9223372036854775807 < U.size + 3 := by omega
                go_wp2
                go_ret
                refine ⟨?_, HBX.out.trans (HBy.out.mono HBX.out.size)⟩
                rw [HXq.out, show (⟨#[32, 48, 10]⟩ : ByteArray) = bstr [32, 48, 10] from rfl, bstr_app]
                unfold Lra.refLine
                simp only [KK2, KK1]
                rfl
          · have KK1 : (kind = 1) = True := by simpa using k1
            have hT2 : ¬ 9223372036854775807 < T.size + 2 := by omega
            go_wp2
            go_loopw [3, 5] (fun tv iv wr => ∃ (q : Nat) (U : ByteArray), tv = .string U ∧ iv = .int .i64 q ∧ q ≤ n2 ∧ Hid (U = bstr (((Lib.itoa id ++ [32, 100]) ++ Lra.preB lits ++ [32, 48]) ++ Lra.preB (hints.take q))) ∧ Hid (U.size ≤ (24 + 21 * n1) + 21 * q) ∧ Hid (Below W1.heap.size W1 wr)) (fun _ iv _ => n2 - (intOf iv).toNat)
            case atStart => exact ⟨0, _, rfl, rfl, by omega, hid (show T ++ ⟨#[32, 48]⟩ = _ by rw [HXk.out, show (⟨#[32, 48]⟩ : ByteArray) = bstr [32, 48] from rfl, bstr_app]; simp [Lra.preB]), hid (by rw [ByteArray.size_append]; show T.size + 2 ≤ _; omega), HBz⟩
            case round =>
              obtain ⟨q, U, rfl, rfl, hkq, HY, HYS, HBy⟩ := hrel
              have r3 := row_cell (BX.out _ HBy.out) 3
              have r0 := row_cell (BX.out _ HBy.out) 0
              simp only [List.getElem?_toArray, List.getElem?_cons_zero, List.getElem?_cons_succ] at r3 r0
              by_cases hl2 : q < n2
              · have hl2' : (q : Int) < n2 := by omega
                first
                | (exfalso; have := Z2.out; omega)
                | (obtain ⟨b', off', e, _, hc, u1, u2⟩ := (HL2.out.below HBy.out).at (j := q) (by rw [HN2.out]; exact hl2)
                   cases e
                   have HRT := hid (Lra.preB_take hints q (by rw [HN2.out]; exact hl2))
                   generalize hints.getD q 0 = x at hc u1 u2 HRT
                   have C := hid (number40 x (by omega) (by omega) wr)
                   have hxl : (bstr (Lib.itoa x)).size ≤ 20 := by rw [bstr_size]; exact itoa_le x (by omega) (by omega)
                   have HE := hid (show U ++ ⟨#[32]⟩ ++ bstr (Lib.itoa x) = bstr (((Lib.itoa id ++ [32, 100]) ++ Lra.preB lits ++ [32, 48]) ++ Lra.preB (hints.take (q + 1))) by
                     rw [HRT.out, HY.out, show (⟨#[32]⟩ : ByteArray) = bstr [32] from rfl, bstr_app, bstr_app]
                     simp)
                   generalize bstr (Lib.itoa x) = X at C hxl HE
                   have hTs := HYS.out
                   go_wp2_with (first
                     | (go_at_call 40; refine C.out.mono ?_; clear C; rintro e W5 ⟨rfl, hb5⟩
                        have HB5 := hid (HBy.out.trans (hb5.mono HBy.out.size))
                        clear hb5))
                   go_roundw
                   case rel => exact ⟨q + 1, _, rfl, by go_num, by omega, HE, hid (by rw [ByteArray.size_append, ByteArray.size_append]; show U.size + 1 + X.size ≤ _; omega), HB5⟩
                   case measure => simp [intOf]; omega)
              · have hl2' : ¬ (q : Int) < n2 := by omega
                have HXq := hid (show U = bstr (((Lib.itoa id ++ [32, 100]) ++ Lra.preB lits ++ [32, 48]) ++ Lra.preB hints) by
                  have := HY.out
                  rwa [List.take_of_length_le (by rw [HN2.out]; omega)] at this)
                have hTs := HYS.out
                have hT3 : ¬ 9223372036854775807 < U.size + 3 := by omega
                go_wp2
                go_ret
                refine ⟨?_, HBX.out.trans (HBy.out.mono HBX.out.size)⟩
                rw [HXq.out, show (⟨#[32, 48, 10]⟩ : ByteArray) = bstr [32, 48, 10] from rfl, bstr_app]
                unfold Lra.refLine
                simp only [KK2, KK1]
                rfl
end Go.Proofs.YtdodfmgbjfhnpaaDoor
