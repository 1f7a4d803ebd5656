/- A word's number, by the document's own function. -/
import Derived.Test.YtlhpnkgdnmnclaaDoorStr
namespace Dim
set_option linter.unusedVariables false
/-- What a row of digits says, against a bound. -/
def refOf (s : List Int) (top : Nat) (neg : Bool) : Int × Bool × Bool :=
  if isNum s then (if top < valGo 0 s then (0, true, false) else ((if neg then -(valGo 0 s : Int) else valGo 0 s), true, true)) else (0, false, false)
/-- The digits of a word. -/
def refDig (xs : List Int) (minus : Bool) : List Int := if minus = true ∧ 1 < xs.length ∧ xs.getD 0 0 = 45 ∧ xs ≠ [45, 48] then xs.tail else xs
def refNum (xs : List Int) (minus : Bool) (top : Nat) : Int × Bool × Bool := refOf (refDig xs minus) top (decide ((refDig xs minus).length < xs.length))
theorem valGo_ge (w : List Int) : ∀ n, n ≤ valGo n w := by
  induction w with
  | nil => intro n; exact Nat.le_refl _
  | cons c cs ih => intro n; rw [valGo]; have := ih (10 * n + (c - 48).toNat); omega
theorem valGo_append (u v : List Int) : ∀ n, valGo n (u ++ v) = valGo (valGo n u) v := by
  induction u with
  | nil => intro n; rfl
  | cons c cs ih => intro n; rw [List.cons_append, valGo, valGo, ih]
theorem val_take_le (s : List Int) (k : Nat) : valGo 0 (s.take k) ≤ valGo 0 s := by
  conv => rhs; rw [← List.take_append_drop k s, valGo_append]
  exact valGo_ge _ _
theorem refNum_same (xs : List Int) (minus : Bool) (top : Nat) (h : ¬ (minus = true ∧ 1 < xs.length ∧ xs.getD 0 0 = 45 ∧ xs ≠ [45, 48])) : refNum xs minus top = refOf xs top false := by
  unfold refNum refDig
  rw [if_neg h, decide_eq_false (Nat.lt_irrefl _)]
theorem refNum_tail (xs : List Int) (top : Nat) (h1 : 1 < xs.length) (h2 : xs.getD 0 0 = 45) (h3 : xs ≠ [45, 48]) : refNum xs true top = refOf xs.tail top true := by
  unfold refNum refDig
  rw [if_pos ⟨rfl, h1, h2, h3⟩, decide_eq_true (by rw [List.length_tail]; omega)]
theorem ints_getD (R : ByteArray) (k : Nat) (h : k < R.size) : (ints R).getD k 0 = (R[k].toNat : Int) := by
  rw [← ints_get R k h]
  simp [List.getD, List.getElem?_eq_getElem (show k < (ints R).length by rw [ints_len]; exact h)]
theorem ints_take (R : ByteArray) (k : Nat) (h : k < R.size) : (ints R).take (k + 1) = (ints R).take k ++ [(R[k].toNat : Int)] := by
  rw [List.take_succ_eq_append_getElem (by rw [ints_len]; exact h), ints_get R k h]
theorem ints_tail (S : ByteArray) (h : 0 < S.size) : (ints S).tail = ints (S.extract 1 S.size) := by
  unfold ints
  rw [← List.map_tail]
  congr 1
  rw [ByteArray.data_extract, Array.toList_extract]
  simp [List.extract_eq_take_drop, ← ByteArray.size_data]
  exact (List.take_of_length_le (by simp)).symm
theorem refOf_bad (s : List Int) (top : Nat) (neg : Bool) (h : isNum s = false) : refOf s top neg = (0, false, false) := by unfold refOf; rw [h]; rfl
theorem refOf_big (s : List Int) (top : Nat) (neg : Bool) (h : isNum s = true) (hv : top < valGo 0 s) : refOf s top neg = (0, true, false) := by unfold refOf; rw [h, if_pos rfl, if_pos hv]
theorem refOf_fit (s : List Int) (top : Nat) (neg : Bool) (h : isNum s = true) (hv : ¬ top < valGo 0 s) : refOf s top neg = ((if neg then -(valGo 0 s : Int) else valGo 0 s), true, true) := by unfold refOf; rw [h, if_pos rfl, if_neg hv]
end Dim
namespace Go.Proofs.YtlhpnkgdnmnclaaDoor
open Go.RowKit
set_option linter.unusedVariables false
set_option linter.unusedSimpArgs false

def NumOut (r : Int × Bool × Bool) (e : Ending) : Prop := e = .returned (.tuple #[.int .i64 r.1, .bool r.2.1, .bool r.2.2])

set_option maxRecDepth 100000 in
set_option maxHeartbeats 8000000 in
theorem number29 (S : ByteArray) (minus : Bool) (top : Nat) (w : World) (hS : (S.size : Int) ≤ 100000) (ht : (top : Int) ≤ 1048576) :
    Calls Tryd.prog 29 #[.string S, .bool minus, .int .i64 top] w fun e w' => NumOut (Dim.refNum (Dim.ints S) minus top) e ∧ w' = w := by
  cases minus
  case' false =>
    have HREF := hid (Dim.refNum_same (Dim.ints S) false top (by simp))
    go_enter Tryd.func29, Tryd.ntmps29
    go_wp2
  case' true =>
    by_cases h1 : (1 : Int) < S.size
    case' neg =>
      have HREF := hid (Dim.refNum_same (Dim.ints S) true top (fun h => by have := h.2.1; rw [Dim.ints_len] at this; omega))
      go_enter Tryd.func29, Tryd.ntmps29
      go_wp2
      clear h1
    case' pos =>
      have h0 : 0 < S.size := by omega
      by_cases h2 : (S[0].toNat : Int) = 45
      case' neg =>
        have h2' : ((S[0].toNat : Int) == 45) = false := by simpa using h2
        have HREF := hid (Dim.refNum_same (Dim.ints S) true top (fun h => by have := h.2.2.1; rw [Dim.ints_getD S 0 h0] at this; exact h2 this))
        clear h2
        go_enter Tryd.func29, Tryd.ntmps29
        go_wp2
        clear h1 h2'
      case' pos =>
        cases h3 : (S.toList == [45, 48])
        case' true =>
          have HREF := hid (Dim.refNum_same (Dim.ints S) true top (fun h => by
            apply h.2.2.2
            have h4 : S.toList = [45, 48] := by simpa using h3
            rw [ByteArray.toList_eq] at h4
            unfold Dim.ints
            rw [h4]; rfl))
          go_enter Tryd.func29, Tryd.ntmps29
          go_wp2
          clear h1 h2 h3
  case pos.false =>
    have HREF := hid (show Dim.refNum (Dim.ints S) true top = Dim.refOf (Dim.ints (S.extract 1 S.size)) top true by
      rw [← Dim.ints_tail S h0]
      refine Dim.refNum_tail _ _ (by rw [Dim.ints_len]; omega) (by rw [Dim.ints_getD S 0 h0]; exact h2) (fun h => ?_)
      have h4 : S.toList = [45, 48] := by
        rw [ByteArray.toList_eq]
        unfold Dim.ints at h
        have h5 : S.data.toList.map (fun b => b.toNat) = [45, 48] := by
          have := congrArg (List.map Int.toNat) h
          simpa [List.map_map, Function.comp_def] using this
        have h6 := congrArg (List.map UInt8.ofNat) h5
        simpa [List.map_map, Function.comp_def] using h6
      rw [h4] at h3
      cases h3)
    go_enter Tryd.func29, Tryd.ntmps29
    go_wp2
    have hTs : (S.extract 1 S.size).size + 1 = S.size := by rw [ByteArray.size_extract]; omega
    generalize S.extract 1 S.size = T at HREF hTs
    clear h1 h2 h3 h0
    go_loop [10, 11] (fun n i => ∃ k m : Nat, k ≤ T.size ∧ i = .int .i64 k ∧ n = .int .i64 m ∧ m ≤ 10485769 ∧ Hid ((∀ x ∈ (Dim.ints T).take k, Dim.digit x = true) ∧ (0 < k → ¬ (1 < T.size ∧ (Dim.ints T).getD 0 0 = 48)) ∧ (m ≤ top → m = Dim.valGo 0 ((Dim.ints T).take k)) ∧ (top < m → top < Dim.valGo 0 ((Dim.ints T).take k)))) (fun _ i => T.size - (intOf i).toNat)
    case atStart => exact ⟨0, 0, Nat.zero_le _, rfl, rfl, by omega, hid ⟨(fun x hx => by simp at hx), (fun h => by omega), (fun _ => by simp [Dim.valGo]), (fun h => by omega)⟩⟩
    case round =>
      obtain ⟨k, m, hk, rfl, rfl, hm, HI⟩ := hrel
      by_cases hlt : k < T.size
      · have hlt' : (k : Int) < T.size := by omega
        have HG := hid (Dim.ints_getD T k hlt)
        have HTk := hid (Dim.ints_take T k hlt)
        have hb1 : (0 : Int) ≤ (T[k].toNat : Int) := by omega
        have hb2 : (T[k].toNat : Int) < 256 := by have := T[k].toNat_lt; omega
        obtain ⟨x, hx⟩ : ∃ x : Int, (T[k].toNat : Int) = x := ⟨_, rfl⟩
        rw [hx] at HG HTk hb1 hb2
        have HBAD := hid (fun h => Dim.refOf_bad (Dim.ints T) top true (Dim.isNum_digit (k := k) (by rw [Dim.ints_len]; exact hlt) h))
        by_cases hx1 : x < 48
        · go_wp2
          refine bodyPost_ret (results_tmp3 rfl _ _ _) rfl ?_
          exact ⟨by rw [HREF.out, HBAD.out (by rw [HG.out]; unfold Dim.digit; rw [decide_eq_false (by omega)]; rfl)]; rfl, rfl⟩
        by_cases hx2 : 57 < x
        · go_wp2
          refine bodyPost_ret (results_tmp3 rfl _ _ _) rfl ?_
          exact ⟨by rw [HREF.out, HBAD.out (by rw [HG.out]; unfold Dim.digit; rw [decide_eq_false (show ¬ x ≤ 57 by omega), Bool.and_false])]; rfl, rfl⟩
        have HD := hid (show Dim.digit x = true by unfold Dim.digit; rw [decide_eq_true (by omega), decide_eq_true (by omega)]; rfl)
        clear HBAD
        have HV := hid (show Dim.valGo 0 ((Dim.ints T).take (k + 1)) = 10 * Dim.valGo 0 ((Dim.ints T).take k) + (x - 48).toNat by rw [HTk.out, Dim.valGo_snoc])
        have HDD := hid (show ∀ y ∈ (Dim.ints T).take (k + 1), Dim.digit y = true by
          rw [HTk.out]
          intro y hy
          rcases List.mem_append.1 hy with h | h
          · exact HI.out.1 y h
          · rw [List.mem_singleton] at h; rw [h]; exact HD.out)
        have HW8 : IntKind.u8.wrap (x - 48) = x - 48 := by rw [show IntKind.u8.wrap (x - 48) = (x - 48) % 256 by simp [IntKind.wrap, IntKind.bits, IntKind.signed]]; omega
        have hlead : Hid (k = 0 ∧ x = 48 ∧ 1 < T.size) ∨ Hid (¬ (k = 0 ∧ x = 48 ∧ 1 < T.size)) := (Classical.em _).imp hid hid
        rcases hlead with HLD | HLD
        · obtain ⟨hk0, hx48, hsz⟩ := HLD.out
          have hsz' : (1 : Int) < T.size := by omega
          have hkb : ((k : Int) == 0) = true := by simp; omega
          have hxb : (x == 48) = true := by simp; omega
          have hx00 : (T[0].toNat : Int) = x := by subst hk0; exact hx
          go_wp2
          refine bodyPost_ret (results_tmp3 rfl _ _ _) rfl ?_
          exact ⟨by rw [HREF.out, Dim.refOf_bad _ _ _ (Dim.isNum_lead (by rw [Dim.ints_len]; exact hsz) (by rw [Dim.ints_getD T 0 (by omega), hx00]; exact hx48))]; rfl, rfl⟩
        have HNL := hid (show 0 < k + 1 → ¬ (1 < T.size ∧ (Dim.ints T).getD 0 0 = 48) from fun _ h => by
          rcases Nat.eq_zero_or_pos k with h0 | h0
          · subst h0
            exact HLD.out ⟨rfl, by rw [← HG.out]; exact h.2, h.1⟩
          · exact HI.out.2.1 h0 h)
        have hways : Hid (0 < k) ∨ Hid (k = 0 ∧ ¬ x = 48) ∨ Hid (k = 0 ∧ x = 48 ∧ ¬ 1 < T.size) := by
          rcases Nat.eq_zero_or_pos k with h | h
          · by_cases h48 : x = 48
            · exact .inr (.inr (hid ⟨h, h48, fun h1 => HLD.out ⟨h, h48, h1⟩⟩))
            · exact .inr (.inl (hid ⟨h, h48⟩))
          · exact .inl (hid h)
        by_cases hmt : (m : Int) ≤ top
        · rcases hways with HY | HY | HY
          · have hkb : ((k : Int) == 0) = false := by have := HY.out; simp; omega
            go_wp2
            go_round
            case rel => exact ⟨k + 1, 10 * m + (x - 48).toNat, by omega, by go_num, by go_num, by omega, hid ⟨HDD.out, HNL.out, (fun _ => by rw [HV.out, ← HI.out.2.2.1 (by omega)]), (fun h => by rw [HV.out, ← HI.out.2.2.1 (by omega)]; exact h)⟩⟩
            case measure => simp [intOf]; omega
          · have hkb : ((k : Int) == 0) = true := by have := HY.out; simp; omega
            have hxb : (x == 48) = false := by have := HY.out.2; simpa using this
            have hx00 : (T[0].toNat : Int) = x := by have := HY.out.1; subst this; exact hx
            go_wp2
            go_round
            case rel => exact ⟨k + 1, 10 * m + (x - 48).toNat, by omega, by go_num, by go_num, by omega, hid ⟨HDD.out, HNL.out, (fun _ => by rw [HV.out, ← HI.out.2.2.1 (by omega)]), (fun h => by rw [HV.out, ← HI.out.2.2.1 (by omega)]; exact h)⟩⟩
            case measure => simp [intOf]; omega
          · have hkb : ((k : Int) == 0) = true := by have := HY.out; simp; omega
            have hxb : (x == 48) = true := by have := HY.out.2.1; simpa using this
            have hx00 : (T[0].toNat : Int) = x := by have := HY.out.1; subst this; exact hx
            have hsz' : ¬ (1 : Int) < T.size := by have := HY.out.2.2; omega
            go_wp2
            go_round
            case rel => exact ⟨k + 1, 10 * m + (x - 48).toNat, by omega, by go_num, by go_num, by omega, hid ⟨HDD.out, HNL.out, (fun _ => by rw [HV.out, ← HI.out.2.2.1 (by omega)]), (fun h => by rw [HV.out, ← HI.out.2.2.1 (by omega)]; exact h)⟩⟩
            case measure => simp [intOf]; omega
        · rcases hways with HY | HY | HY
          · have hkb : ((k : Int) == 0) = false := by have := HY.out; simp; omega
            go_wp2
            go_round
            case rel => exact ⟨k + 1, m, by omega, by go_num, rfl, by omega, hid ⟨HDD.out, HNL.out, (fun h => by omega), (fun _ => by rw [HV.out]; have := HI.out.2.2.2 (by omega); omega)⟩⟩
            case measure => simp [intOf]; omega
          · have hkb : ((k : Int) == 0) = true := by have := HY.out; simp; omega
            have hxb : (x == 48) = false := by have := HY.out.2; simpa using this
            have hx00 : (T[0].toNat : Int) = x := by have := HY.out.1; subst this; exact hx
            go_wp2
            go_round
            case rel => exact ⟨k + 1, m, by omega, by go_num, rfl, by omega, hid ⟨HDD.out, HNL.out, (fun h => by omega), (fun _ => by rw [HV.out]; have := HI.out.2.2.2 (by omega); omega)⟩⟩
            case measure => simp [intOf]; omega
          · have hkb : ((k : Int) == 0) = true := by have := HY.out; simp; omega
            have hxb : (x == 48) = true := by have := HY.out.2.1; simpa using this
            have hx00 : (T[0].toNat : Int) = x := by have := HY.out.1; subst this; exact hx
            have hsz' : ¬ (1 : Int) < T.size := by have := HY.out.2.2; omega
            go_wp2
            go_round
            case rel => exact ⟨k + 1, m, by omega, by go_num, rfl, by omega, hid ⟨HDD.out, HNL.out, (fun h => by omega), (fun _ => by rw [HV.out]; have := HI.out.2.2.2 (by omega); omega)⟩⟩
            case measure => simp [intOf]; omega
      · have hlt' : ¬ (k : Int) < T.size := by omega
        obtain rfl : k = T.size := by omega
        have hi := HI.out
        rw [List.take_of_length_le (by rw [Dim.ints_len]; exact Nat.le_refl _)] at hi
        by_cases hz : T.size = 0
        · have hnil : (T.toList == []) = true := by
            rw [ByteArray.toList_eq]
            have : T.data.toList = [] := List.eq_nil_of_length_eq_zero (by rw [Array.length_toList]; exact hz)
            rw [this]; rfl
          have HB := hid (Dim.refOf_bad (Dim.ints T) top true (by
            have : Dim.ints T = [] := List.eq_nil_of_length_eq_zero (by rw [Dim.ints_len]; exact hz)
            rw [this]; rfl))
          clear hi HI hz
          go_wp2
          refine bodyPost_ret (results_tmp3 rfl _ _ _) rfl ?_
          exact ⟨by rw [HREF.out, HB.out]; rfl, rfl⟩
        · have hnil : (T.toList == []) = false := by
            rw [ByteArray.toList_eq]
            cases h : (T.data.toList == [])
            · rfl
            · have h2 : T.data.toList = [] := by simpa using h
              exact absurd (show T.data.size = 0 by rw [← Array.length_toList, h2]; rfl) hz
          have HIS := hid (Dim.isNum_of (w := Dim.ints T) (by rw [Dim.ints_len]; omega) (by rw [Dim.ints_len]; exact hi.2.1 (by omega)) hi.1)
          by_cases hmt : (top : Int) < m
          · have HB := hid (Dim.refOf_big (Dim.ints T) top true HIS.out (hi.2.2.2 (by omega)))
            clear hi HI hz HIS
            go_wp2
            refine bodyPost_ret (results_tmp3 rfl _ _ _) rfl ?_
            exact ⟨by rw [HREF.out, HB.out]; rfl, rfl⟩
          · have hv := hi.2.2.1 (by omega)
            have HB := hid (Dim.refOf_fit (Dim.ints T) top true HIS.out (by omega))
            have HV := hid hv
            clear hi HI hz HIS hv
            go_wp2
            refine bodyPost_ret (results_tmp3 rfl _ _ _) rfl ?_
            exact ⟨by rw [HREF.out, HB.out, ← HV.out]; rfl, rfl⟩
  all_goals
    go_loop [10, 11] (fun n i => ∃ k m : Nat, k ≤ S.size ∧ i = .int .i64 k ∧ n = .int .i64 m ∧ m ≤ 10485769 ∧ Hid ((∀ x ∈ (Dim.ints S).take k, Dim.digit x = true) ∧ (0 < k → ¬ (1 < S.size ∧ (Dim.ints S).getD 0 0 = 48)) ∧ (m ≤ top → m = Dim.valGo 0 ((Dim.ints S).take k)) ∧ (top < m → top < Dim.valGo 0 ((Dim.ints S).take k)))) (fun _ i => S.size - (intOf i).toNat)
    case atStart => exact ⟨0, 0, Nat.zero_le _, rfl, rfl, by omega, hid ⟨(fun x hx => by simp at hx), (fun h => by omega), (fun _ => by simp [Dim.valGo]), (fun h => by omega)⟩⟩
    case round =>
      obtain ⟨k, m, hk, rfl, rfl, hm, HI⟩ := hrel
      by_cases hlt : k < S.size
      · have hlt' : (k : Int) < S.size := by omega
        have HG := hid (Dim.ints_getD S k hlt)
        have HTk := hid (Dim.ints_take S k hlt)
        have hb1 : (0 : Int) ≤ (S[k].toNat : Int) := by omega
        have hb2 : (S[k].toNat : Int) < 256 := by have := S[k].toNat_lt; omega
        obtain ⟨x, hx⟩ : ∃ x : Int, (S[k].toNat : Int) = x := ⟨_, rfl⟩
        rw [hx] at HG HTk hb1 hb2
        have HBAD := hid (fun h => Dim.refOf_bad (Dim.ints S) top false (Dim.isNum_digit (k := k) (by rw [Dim.ints_len]; exact hlt) h))
        by_cases hx1 : x < 48
        · go_wp2
          refine bodyPost_ret (results_tmp3 rfl _ _ _) rfl ?_
          exact ⟨by rw [HREF.out, HBAD.out (by rw [HG.out]; unfold Dim.digit; rw [decide_eq_false (by omega)]; rfl)]; rfl, rfl⟩
        by_cases hx2 : 57 < x
        · go_wp2
          refine bodyPost_ret (results_tmp3 rfl _ _ _) rfl ?_
          exact ⟨by rw [HREF.out, HBAD.out (by rw [HG.out]; unfold Dim.digit; rw [decide_eq_false (show ¬ x ≤ 57 by omega), Bool.and_false])]; rfl, rfl⟩
        have HD := hid (show Dim.digit x = true by unfold Dim.digit; rw [decide_eq_true (by omega), decide_eq_true (by omega)]; rfl)
        clear HBAD
        have HV := hid (show Dim.valGo 0 ((Dim.ints S).take (k + 1)) = 10 * Dim.valGo 0 ((Dim.ints S).take k) + (x - 48).toNat by rw [HTk.out, Dim.valGo_snoc])
        have HDD := hid (show ∀ y ∈ (Dim.ints S).take (k + 1), Dim.digit y = true by
          rw [HTk.out]
          intro y hy
          rcases List.mem_append.1 hy with h | h
          · exact HI.out.1 y h
          · rw [List.mem_singleton] at h; rw [h]; exact HD.out)
        have HW8 : IntKind.u8.wrap (x - 48) = x - 48 := by rw [show IntKind.u8.wrap (x - 48) = (x - 48) % 256 by simp [IntKind.wrap, IntKind.bits, IntKind.signed]]; omega
        have hlead : Hid (k = 0 ∧ x = 48 ∧ 1 < S.size) ∨ Hid (¬ (k = 0 ∧ x = 48 ∧ 1 < S.size)) := (Classical.em _).imp hid hid
        rcases hlead with HLD | HLD
        · obtain ⟨hk0, hx48, hsz⟩ := HLD.out
          have hsz' : (1 : Int) < S.size := by omega
          have hkb : ((k : Int) == 0) = true := by simp; omega
          have hxb : (x == 48) = true := by simp; omega
          have hx00 : (S[0].toNat : Int) = x := by subst hk0; exact hx
          go_wp2
          refine bodyPost_ret (results_tmp3 rfl _ _ _) rfl ?_
          exact ⟨by rw [HREF.out, Dim.refOf_bad _ _ _ (Dim.isNum_lead (by rw [Dim.ints_len]; exact hsz) (by rw [Dim.ints_getD S 0 (by omega), hx00]; exact hx48))]; rfl, rfl⟩
        have HNL := hid (show 0 < k + 1 → ¬ (1 < S.size ∧ (Dim.ints S).getD 0 0 = 48) from fun _ h => by
          rcases Nat.eq_zero_or_pos k with h0 | h0
          · subst h0
            exact HLD.out ⟨rfl, by rw [← HG.out]; exact h.2, h.1⟩
          · exact HI.out.2.1 h0 h)
        have hways : Hid (0 < k) ∨ Hid (k = 0 ∧ ¬ x = 48) ∨ Hid (k = 0 ∧ x = 48 ∧ ¬ 1 < S.size) := by
          rcases Nat.eq_zero_or_pos k with h | h
          · by_cases h48 : x = 48
            · exact .inr (.inr (hid ⟨h, h48, fun h1 => HLD.out ⟨h, h48, h1⟩⟩))
            · exact .inr (.inl (hid ⟨h, h48⟩))
          · exact .inl (hid h)
        by_cases hmt : (m : Int) ≤ top
        · rcases hways with HY | HY | HY
          · have hkb : ((k : Int) == 0) = false := by have := HY.out; simp; omega
            go_wp2
            go_round
            case rel => exact ⟨k + 1, 10 * m + (x - 48).toNat, by omega, by go_num, by go_num, by omega, hid ⟨HDD.out, HNL.out, (fun _ => by rw [HV.out, ← HI.out.2.2.1 (by omega)]), (fun h => by rw [HV.out, ← HI.out.2.2.1 (by omega)]; exact h)⟩⟩
            case measure => simp [intOf]; omega
          · have hkb : ((k : Int) == 0) = true := by have := HY.out; simp; omega
            have hxb : (x == 48) = false := by have := HY.out.2; simpa using this
            have hx00 : (S[0].toNat : Int) = x := by have := HY.out.1; subst this; exact hx
            go_wp2
            go_round
            case rel => exact ⟨k + 1, 10 * m + (x - 48).toNat, by omega, by go_num, by go_num, by omega, hid ⟨HDD.out, HNL.out, (fun _ => by rw [HV.out, ← HI.out.2.2.1 (by omega)]), (fun h => by rw [HV.out, ← HI.out.2.2.1 (by omega)]; exact h)⟩⟩
            case measure => simp [intOf]; omega
          · have hkb : ((k : Int) == 0) = true := by have := HY.out; simp; omega
            have hxb : (x == 48) = true := by have := HY.out.2.1; simpa using this
            have hx00 : (S[0].toNat : Int) = x := by have := HY.out.1; subst this; exact hx
            have hsz' : ¬ (1 : Int) < S.size := by have := HY.out.2.2; omega
            go_wp2
            go_round
            case rel => exact ⟨k + 1, 10 * m + (x - 48).toNat, by omega, by go_num, by go_num, by omega, hid ⟨HDD.out, HNL.out, (fun _ => by rw [HV.out, ← HI.out.2.2.1 (by omega)]), (fun h => by rw [HV.out, ← HI.out.2.2.1 (by omega)]; exact h)⟩⟩
            case measure => simp [intOf]; omega
        · rcases hways with HY | HY | HY
          · have hkb : ((k : Int) == 0) = false := by have := HY.out; simp; omega
            go_wp2
            go_round
            case rel => exact ⟨k + 1, m, by omega, by go_num, rfl, by omega, hid ⟨HDD.out, HNL.out, (fun h => by omega), (fun _ => by rw [HV.out]; have := HI.out.2.2.2 (by omega); omega)⟩⟩
            case measure => simp [intOf]; omega
          · have hkb : ((k : Int) == 0) = true := by have := HY.out; simp; omega
            have hxb : (x == 48) = false := by have := HY.out.2; simpa using this
            have hx00 : (S[0].toNat : Int) = x := by have := HY.out.1; subst this; exact hx
            go_wp2
            go_round
            case rel => exact ⟨k + 1, m, by omega, by go_num, rfl, by omega, hid ⟨HDD.out, HNL.out, (fun h => by omega), (fun _ => by rw [HV.out]; have := HI.out.2.2.2 (by omega); omega)⟩⟩
            case measure => simp [intOf]; omega
          · have hkb : ((k : Int) == 0) = true := by have := HY.out; simp; omega
            have hxb : (x == 48) = true := by have := HY.out.2.1; simpa using this
            have hx00 : (S[0].toNat : Int) = x := by have := HY.out.1; subst this; exact hx
            have hsz' : ¬ (1 : Int) < S.size := by have := HY.out.2.2; omega
            go_wp2
            go_round
            case rel => exact ⟨k + 1, m, by omega, by go_num, rfl, by omega, hid ⟨HDD.out, HNL.out, (fun h => by omega), (fun _ => by rw [HV.out]; have := HI.out.2.2.2 (by omega); omega)⟩⟩
            case measure => simp [intOf]; omega
      · have hlt' : ¬ (k : Int) < S.size := by omega
        obtain rfl : k = S.size := by omega
        have hi := HI.out
        rw [List.take_of_length_le (by rw [Dim.ints_len]; exact Nat.le_refl _)] at hi
        by_cases hz : S.size = 0
        · have hnil : (S.toList == []) = true := by
            rw [ByteArray.toList_eq]
            have : S.data.toList = [] := List.eq_nil_of_length_eq_zero (by rw [Array.length_toList]; exact hz)
            rw [this]; rfl
          have HB := hid (Dim.refOf_bad (Dim.ints S) top false (by
            have : Dim.ints S = [] := List.eq_nil_of_length_eq_zero (by rw [Dim.ints_len]; exact hz)
            rw [this]; rfl))
          clear hi HI hz
          go_wp2
          refine bodyPost_ret (results_tmp3 rfl _ _ _) rfl ?_
          exact ⟨by rw [HREF.out, HB.out]; rfl, rfl⟩
        · have hnil : (S.toList == []) = false := by
            rw [ByteArray.toList_eq]
            cases h : (S.data.toList == [])
            · rfl
            · have h2 : S.data.toList = [] := by simpa using h
              exact absurd (show S.data.size = 0 by rw [← Array.length_toList, h2]; rfl) hz
          have HIS := hid (Dim.isNum_of (w := Dim.ints S) (by rw [Dim.ints_len]; omega) (by rw [Dim.ints_len]; exact hi.2.1 (by omega)) hi.1)
          by_cases hmt : (top : Int) < m
          · have HB := hid (Dim.refOf_big (Dim.ints S) top false HIS.out (hi.2.2.2 (by omega)))
            clear hi HI hz HIS
            go_wp2
            refine bodyPost_ret (results_tmp3 rfl _ _ _) rfl ?_
            exact ⟨by rw [HREF.out, HB.out]; rfl, rfl⟩
          · have hv := hi.2.2.1 (by omega)
            have HB := hid (Dim.refOf_fit (Dim.ints S) top false HIS.out (by omega))
            have HV := hid hv
            clear hi HI hz HIS hv
            go_wp2
            refine bodyPost_ret (results_tmp3 rfl _ _ _) rfl ?_
            exact ⟨by rw [HREF.out, HB.out, ← HV.out]; rfl, rfl⟩
end Go.Proofs.YtlhpnkgdnmnclaaDoor
