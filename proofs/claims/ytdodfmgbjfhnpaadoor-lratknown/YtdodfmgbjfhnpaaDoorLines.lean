/- The lines of a text, one by one, by the program. -/
import Derived.Test.YtdodfmgbjfhnpaaDoorRange
import Derived.Test.YtdodfmgbjfhnpaaDoorRd28
import Derived.Shelf.Abstract
import Derived.Shelf.RegionOpen
import Derived.OwnWalkIn
import Derived.TacticsInMore
import Derived.LoopNIn
import Derived.LoopIn
import Derived.RegionIn
namespace Go.Proofs.YtdodfmgbjfhnpaaDoor
open Go.RowKit
set_option linter.unusedVariables false
set_option linter.unusedSimpArgs false
attribute [local go_sem] Oper.semAt_some

theorem Book.drew (c : Option Nat) (B : Nat) (A : World) : Book c B A A.drew := ⟨rfl, rfl, rfl, Nat.le_refl _, fun _ _ h _ _ => h⟩
/-- The line k, as it is handed on. -/
def LineV (S : ByteArray) (k : Nat) (x : Value × Value) : Prop := ∃ L : ByteArray, x.1 = .int .i64 ((k : Int) + 1) ∧ x.2 = .string L ∧ Lra.ints L = (Lra.linesL (Lra.ints S)).getD k [] ∧ L.size ≤ S.size

theorem linesL_len (xs : List Int) : (Lra.linesL xs).length ≤ xs.length := by
  induction xs with
  | nil => exact Nat.le_refl _
  | cons x xs ih =>
    unfold Lra.linesL
    split
    · simp; exact ih
    · split
      · simp
      · next h => rw [h] at ih; simp at ih ⊢; omega
/-- A text's first line. -/
theorem lines_first (R : ByteArray) (h : R.size ≠ 0) : ∃ i : Nat, (Lib.indexByte R.data.toList 10 = -1 ∧ i = R.size ∨ ∃ j : Nat, Lib.indexByte R.data.toList 10 = j ∧ i = j + 1) ∧ i ≤ R.size ∧ 0 < i ∧ Lra.linesL (Lra.ints R) = Lra.ints (R.extract 0 i) :: Lra.linesL (Lra.ints (R.extract i R.size)) := by
  rcases Lra.ints_index R 10 with ⟨hx, hm⟩ | ⟨i, hi, hx, hm, he⟩
  · refine ⟨R.size, .inl ⟨hx, rfl⟩, Nat.le_refl _, by omega, ?_⟩
    have e0 : Lra.ints (R.extract 0 R.size) = Lra.ints R := by rw [Lra.ints_extract, List.drop_zero, List.take_of_length_le (by rw [Lra.ints_len]; omega)]
    have e1 : Lra.ints (R.extract R.size R.size) = [] := by rw [Lra.ints_extract]; simp
    rw [e0, e1, Lra.linesL_none _ hm (fun e => h (by rw [← Lra.ints_len, e]; rfl))]
    rfl
  · refine ⟨i + 1, .inr ⟨i, hx, rfl⟩, by omega, by omega, ?_⟩
    have e0 : Lra.ints (R.extract 0 (i + 1)) = Lra.ints (R.extract 0 i) ++ [10] := by
      rw [Lra.ints_extract, Lra.ints_extract, List.drop_zero, Nat.sub_zero, Nat.sub_zero]
      conv => lhs; rw [he]
      have hl : (Lra.ints (R.extract 0 i)).length = i := by rw [Lra.ints_len, ByteArray.size_extract]; omega
      rw [List.take_append, List.take_of_length_le (by omega), hl]
      have e2 : Lra.ints (R.extract 0 i) = (Lra.ints R).take i := by rw [Lra.ints_extract, List.drop_zero, Nat.sub_zero]
      rw [e2]
      simp
    conv => lhs; rw [he]
    rw [e0]
    exact Lra.linesL_at _ _ hm

set_option maxRecDepth 100000 in
set_option maxHeartbeats 4000000 in
theorem lines44 (S : ByteArray) (bx l : Nat) (J Jx : Nat → World → Prop) (W1 : World) (hS : S.size ≤ 1000000)
    (hJ : ∀ k A B, J k A → Book none W1.heap.size A B → J k B)
    (hY : ∀ k x W, k < (Lra.linesL (Lra.ints S)).length → J k W → LineV S k x → ∀ m, YieldAt Fence.wide m Tryd.prog l #[x.1, x.2] W fun e W' => (e = .returned (.bool true) ∧ J (k + 1) W' ∧ True) ∨ (e = .returned (.bool false) ∧ Jx (k + 1) W' ∧ KeepN l W W'))
    (hbx : W1.cell? ⟨bx, 0, none⟩ = some (.string S)) (h0 : J 0 W1) :
    CallsIn Fence.wide 9 Tryd.prog 44 #[.func (.yield l) #[] #[], .pointer (some ⟨bx, 0, none⟩)] W1 fun e W' => (∃ v, e = .returned v) ∧ (J (Lra.linesL (Lra.ints S)).length W' ∨ ∃ k, k ≤ (Lra.linesL (Lra.ints S)).length ∧ Jx k W') := by
  have HY := hid hY
  have HJ0 := hid (hJ 0 _ _ h0 (Book.drew none _ W1))
  have hSi : (S.size : Int) ≤ 1000000 := by omega
  have hLL := linesL_len (Lra.ints S)
  rw [Lra.ints_len] at hLL
  clear hY hJ h0
  obtain ⟨ls, hls⟩ : ∃ ls, Lra.linesL (Lra.ints S) = ls := ⟨_, rfl⟩
  unfold LineV at HY
  have HLS := hid hls
  rw [hls] at HY hLL ⊢
  clear hls
  refine callsIn_of_wp Tryd.func44 rfl trivial ?_ rfl
  simp only [Tryd.ntmps44, List.size_toArray, List.length_cons, List.length_nil, Nat.reduceAdd, Nat.reduceSub, Array.replicate_succ, Array.replicate_zero, List.push_toArray, List.append_toArray, List.nil_append, List.cons_append]
  gi_wp2
  gi_region
  gi_wp2
  gi_loopw [3, 4, 5] (fun av rv _ wr => ∃ (k : Nat) (R : ByteArray), av = .int .i64 ((k : Int) + 1) ∧ rv = .string R ∧ k ≤ ls.length ∧ Hid (Lra.linesL (Lra.ints R) = ls.drop k) ∧ R.size ≤ S.size ∧ Hid (J k wr)) (fun av _ _ _ => ls.length + 1 - (intOf av).toNat)
  case atStart => exact ⟨0, S, rfl, rfl, Nat.zero_le _, hid (by simpa using HLS.out), Nat.le_refl _, HJ0⟩
  case round =>
    obtain ⟨k, R, rfl, rfl, hk, HL, hR, HJ⟩ := hrel
    by_cases hz : R.size = 0
    · have hr : R = ⟨#[]⟩ := by
        obtain ⟨⟨l⟩⟩ := R
        have : l = [] := List.eq_nil_of_length_eq_zero hz
        rw [this]
      subst hr
      have hkl : k = ls.length := by
        have := HL.out
        have h2 : Lra.linesL (Lra.ints ⟨#[]⟩) = [] := rfl
        rw [h2] at this
        have := List.drop_eq_nil_iff.1 this.symm
        omega
      subst hkl
      gi_wp2
      go_end0
      exact ⟨⟨_, rfl⟩, .inl HJ.out⟩
    · have hne : (R.toList == []) = false := by
        have : R.toList ≠ [] := by
          intro e
          apply hz
          have h2 : R.data.toList = [] := by rw [← toL]; exact e
          have h3 := congrArg List.length h2
          simpa using h3
        simpa using this
      obtain ⟨i, hcase, hi, hi0, hfirst⟩ := lines_first R hz
      rw [HL.out] at hfirst
      have hk1 : k < ls.length := by
        rcases Nat.lt_or_ge k ls.length with h | h
        · exact h
        · rw [List.drop_eq_nil_of_le h] at hfirst; cases hfirst
      have hdr := hfirst
      rw [List.drop_eq_getElem_cons hk1] at hdr
      injection hdr with hd1 hd2
      obtain ⟨fn, tmps, assign, body, hy2, hRd⟩ := HY.out k (.int .i64 ((k : Int) + 1), .string (R.extract 0 i)) wr hk1 HJ.out ⟨_, rfl, rfl, by rw [← hd1]; simp [List.getD, List.getElem?_eq_getElem hk1], by rw [ByteArray.size_extract]; omega⟩ 8
      have HD := hid hd2
      have hex : (R.extract i R.size).size ≤ S.size := by rw [ByteArray.size_extract]; omega
      have C45 := indexByte45 R 10
      clear hfirst HL HLS hz
      have hi1 : (i : Int) ≤ R.size := by omega
      have hi2 : (0 : Int) < i := by omega
      have hRs : (R.size : Int) ≤ 1000000 := by omega
      rcases hcase with ⟨hx, rfl⟩ | ⟨j, hx, rfl⟩
      · rw [show (10 : Int).toNat.toUInt8 = 10 from rfl, hx] at C45
        have K45 := hid C45
        have hex0 : R.extract 0 R.size = R := by simp
        rw [hex0] at hy2
        have HEX := hid hex
        clear C45 hx hex hd1 hd2
        gi_wp2_with (refine ⟨trivial, ?_⟩; gi_at_call 45; refine (callsIn_wide.2 (K45.out _)).mono ?_; rintro e' w' ⟨rfl, rfl⟩)
        refine hRd.mono ?_
        rintro e3 W3 (⟨rfl, hJ3, _⟩ | ⟨rfl, hJx3, _⟩)
        · have HJ3 := hid hJ3
          clear hy2 hRd hJ3
          gi_wp2
          go_roundw
          case rel => exact ⟨k + 1, _, by push_cast; rfl, rfl, by omega, hid (by first | exact HD.out.symm | (have h9 := HD.out.symm; simpa using h9)), by first | exact HEX.out | simp, HJ3⟩
          case measure => simp [intOf]; omega
        · have HJx3 := hid hJx3
          clear hy2 hRd hJx3
          gi_wp2
          refine bodyPost_ret (results_none rfl _ _ _) rfl ?_
          exact ⟨⟨_, rfl⟩, .inr ⟨k + 1, by omega, HJx3.out⟩⟩
      · rw [show (10 : Int).toNat.toUInt8 = 10 from rfl, hx] at C45
        have K45 := hid C45
        have HEX := hid hex
        have hj1 : (j : Int) + 1 ≤ R.size := by omega
        clear C45 hx hex hd1 hd2
        gi_wp2_with (refine ⟨trivial, ?_⟩; gi_at_call 45; refine (callsIn_wide.2 (K45.out _)).mono ?_; rintro e' w' ⟨rfl, rfl⟩)
        refine hRd.mono ?_
        rintro e3 W3 (⟨rfl, hJ3, _⟩ | ⟨rfl, hJx3, _⟩)
        · have HJ3 := hid hJ3
          clear hy2 hRd hJ3
          gi_wp2
          go_roundw
          case rel => exact ⟨k + 1, _, by push_cast; rfl, rfl, by omega, hid (by first | exact HD.out.symm | (have h9 := HD.out.symm; simpa using h9)), by first | exact HEX.out | simp, HJ3⟩
          case measure => simp [intOf]; omega
        · have HJx3 := hid hJx3
          clear hy2 hRd hJx3
          gi_wp2
          refine bodyPost_ret (results_none rfl _ _ _) rfl ?_
          exact ⟨⟨_, rfl⟩, .inr ⟨k + 1, by omega, HJx3.out⟩⟩

set_option maxHeartbeats 2000000 in
theorem lines27 (S : ByteArray) (w : World) : Calls Tryd.prog 27 #[.string S] w fun e w' => e = .returned (.func (.func 44) #[] #[.pointer (some ⟨w.heap.size, 0, none⟩)]) ∧ w' = w.alloc (.cells #[.string S] 9) := by
  go_enter Tryd.func27, Tryd.ntmps27
  go_wp2
  go_ret
  exact ⟨rfl, rfl⟩
/-- The lines, for a loop over them. -/
theorem lines_iter (S : ByteArray) (bx : Nat) (w : World) (hS : S.size ≤ 1000000) (hbx : w.cell? ⟨bx, 0, none⟩ = some (.string S)) :
    Iter Tryd.prog 44 #[.pointer (some ⟨bx, 0, none⟩)] (fun x : Value × Value => #[x.1, x.2]) none (Lra.linesL (Lra.ints S)).length (fun k x _ => LineV S k x) (fun _ _ => True) (fun _ => True) w := by
  intro l W1 hb hl hlt J Jx hJ hJx hY h0
  refine (callsIn_wide (n := 9)).1 ?_
  refine (lines44 S bx l J Jx W1 hS hJ hY (hb.cell hbx (by simp)) h0).mono ?_
  rintro e W' ⟨hv, h⟩
  exact ⟨hv, h.imp (fun h => ⟨h, trivial⟩) id⟩
end Go.Proofs.YtdodfmgbjfhnpaaDoor
