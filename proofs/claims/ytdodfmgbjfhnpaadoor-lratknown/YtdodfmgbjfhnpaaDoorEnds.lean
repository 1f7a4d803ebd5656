/- A text's end and its beginning, cut off by the program. -/
import Derived.Test.YtdodfmgbjfhnpaaDoorCuts
namespace Go.Proofs.YtdodfmgbjfhnpaaDoor
open Go.RowKit
set_option linter.unusedVariables false
set_option linter.unusedSimpArgs false

/-- The text ends in a line's end. -/
def Ended (S : ByteArray) : Prop := S.data.toList.getLast? = some 10
instance (S : ByteArray) : Decidable (Ended S) := by unfold Ended; infer_instance

theorem last10 (S : ByteArray) (h : 0 < S.size) : ((S.extract (S.size - 1) S.size).toList == [10]) = decide (Ended S) := by
  rw [toL]
  unfold Ended
  obtain ⟨⟨l⟩⟩ := S
  have hl : 0 < l.length := h
  have e1 : ((ByteArray.mk ⟨l⟩).extract ((ByteArray.mk ⟨l⟩).size - 1) (ByteArray.mk ⟨l⟩).size).data.toList = l.drop (l.length - 1) := by
    rw [ByteArray.data_extract, Array.toList_extract]
    show List.extract l (l.length - 1) l.length = _
    rw [List.extract_eq_take_drop]
    exact List.take_of_length_le (by simp)
  rw [e1]
  show (l.drop (l.length - 1) == [10]) = decide (l.getLast? = some 10)
  rw [List.getLast?_eq_getElem?]
  rw [List.drop_eq_getElem_cons (by omega), List.drop_of_length_le (by omega), List.getElem?_eq_getElem (by omega)]
  simp
  by_cases hb : l[l.length - 1] = 10
  · simp [hb]
  · simp [hb]

set_option maxRecDepth 100000 in
set_option maxHeartbeats 2000000 in
theorem hasSuffix73 (S : ByteArray) (w : World) (hS : (S.size : Int) ≤ 1099511627776) : Calls Tryd.prog 73 #[.string S, .string ⟨#[10]⟩] w fun e w' => e = .returned (.bool (decide (Ended S))) ∧ w' = w := by
  by_cases h0 : 0 < S.size
  · have h1 : (1 : Int) ≤ S.size := by omega
    have h2 : ¬ (S.size : Int) < 1 := by omega
    have hq := last10 S h0
    generalize decide (Ended S) = q at hq ⊢
    have Q := hid hq
    clear hq
    go_enter Tryd.func73, Tryd.ntmps73
    go_wp2
    go_ret
    exact ⟨by rw [Q.out]; rfl, rfl⟩
  · have h2 : (S.size : Int) < 1 := by omega
    have Q := hid (show decide (Ended S) = false by
      apply decide_eq_false
      unfold Ended
      have : S.data.toList = [] := List.eq_nil_of_length_eq_zero (by rw [Array.length_toList]; show S.size = 0; omega)
      rw [this]; simp)
    generalize decide (Ended S) = q at Q ⊢
    go_enter Tryd.func73, Tryd.ntmps73
    go_wp2
    go_ret
    exact ⟨by rw [Q.out]; rfl, rfl⟩

/-- The end cut off. -/
def SufOut (S : ByteArray) (e : Ending) : Prop := (Ended S ∧ e = .returned (.tuple #[.string (S.extract 0 (S.size - 1)), .bool true])) ∨ (¬ Ended S ∧ e = .returned (.tuple #[.string S, .bool false]))
theorem Ended.pos {S : ByteArray} (h : Ended S) : 0 < S.size := by
  unfold Ended at h
  rcases Nat.eq_zero_or_pos S.size with h0 | h0
  · have : S.data.toList = [] := List.eq_nil_of_length_eq_zero (by rw [Array.length_toList]; exact h0)
    rw [this] at h; cases h
  · exact h0

set_option maxRecDepth 100000 in
set_option maxHeartbeats 2000000 in
theorem cutSuffix62 (S : ByteArray) (w : World) (hS : (S.size : Int) ≤ 1099511627776) : Calls Tryd.prog 62 #[.string S, .string ⟨#[10]⟩] w fun e w' => SufOut S e ∧ w' = w := by
  have C := hasSuffix73 S w hS
  by_cases h : Ended S
  · rw [decide_eq_true h] at C
    have HC := hid C
    have HH := hid h
    have h1 : (1 : Int) ≤ S.size := by have := h.pos; omega
    clear C h
    go_enter Tryd.func62, Tryd.ntmps62
    go_wp2_with (go_at_call 73; refine HC.out.mono ?_; clear HC; rintro e W ⟨rfl, rfl⟩)
    go_ret2
    exact ⟨.inl ⟨HH.out, rfl⟩, rfl⟩
  · rw [decide_eq_false h] at C
    have HC := hid C
    have HH := hid h
    clear C h
    go_enter Tryd.func62, Tryd.ntmps62
    go_wp2_with (go_at_call 73; refine HC.out.mono ?_; clear HC; rintro e W ⟨rfl, rfl⟩)
    go_ret2
    exact ⟨.inr ⟨HH.out, rfl⟩, rfl⟩

set_option maxHeartbeats 2000000 in
theorem cutSuffix46 (S : ByteArray) (w : World) (hS : (S.size : Int) ≤ 1099511627776) : Calls Tryd.prog 46 #[.string S, .string ⟨#[10]⟩] w fun e w' => SufOut S e ∧ w' = w := by
  have HC := hid (cutSuffix62 S w hS)
  clear hS
  go_enter Tryd.func46, Tryd.ntmps46
  go_wp2_with (go_at_call 62; refine HC.out.mono ?_; clear HC; rintro e W ⟨(⟨h, rfl⟩ | ⟨h, rfl⟩), rfl⟩ <;> have HH := hid h <;> clear h)
  · go_ret2
    exact ⟨.inl ⟨HH.out, rfl⟩, rfl⟩
  · go_ret2
    exact ⟨.inr ⟨HH.out, rfl⟩, rfl⟩

/-- The text begins with the letter d and a blank. -/
def Lettered (S : ByteArray) : Prop := S.data.toList.take 2 = [100, 32]
instance (S : ByteArray) : Decidable (Lettered S) := by unfold Lettered; infer_instance
theorem Lettered.two {S : ByteArray} (h : Lettered S) : 2 ≤ S.size := by
  unfold Lettered at h
  have := congrArg List.length h
  rw [List.length_take, Array.length_toList] at this
  have h2 : S.size = S.data.size := rfl
  simp at this
  omega
theorem head2 (S : ByteArray) : ((S.extract 0 2).toList == [100, 32]) = decide (Lettered S) := by
  rw [toL]
  have e1 : (S.extract 0 2).data.toList = S.data.toList.take 2 := by
    rw [ByteArray.data_extract, Array.toList_extract]
    simp [List.extract_eq_take_drop]
  rw [e1]
  by_cases hb : Lettered S
  · rw [decide_eq_true hb]
    unfold Lettered at hb
    rw [hb]; rfl
  · rw [decide_eq_false hb]
    unfold Lettered at hb
    simpa using hb

set_option maxHeartbeats 2000000 in
theorem hasPrefix79d (S : ByteArray) (w : World) : Calls Tryd.prog 79 #[.string S, .string ⟨#[100, 32]⟩] w fun e w' => e = .returned (.bool (decide (Lettered S))) ∧ w' = w := by
  by_cases h0 : 2 ≤ S.size
  · have h1 : (2 : Int) ≤ S.size := by omega
    have h2 : ¬ (S.size : Int) < 2 := by omega
    have hq := head2 S
    generalize decide (Lettered S) = q at hq ⊢
    have Q := hid hq
    clear hq
    go_enter Tryd.func79, Tryd.ntmps79
    go_wp2
    go_ret
    exact ⟨by rw [Q.out]; rfl, rfl⟩
  · have h2 : (S.size : Int) < 2 := by omega
    have Q := hid (show decide (Lettered S) = false from decide_eq_false (fun h => h0 h.two))
    generalize decide (Lettered S) = q at Q ⊢
    go_enter Tryd.func79, Tryd.ntmps79
    go_wp2
    go_ret
    exact ⟨by rw [Q.out]; rfl, rfl⟩

/-- The letter cut off. -/
def LetOut (S : ByteArray) (e : Ending) : Prop := (Lettered S ∧ e = .returned (.tuple #[.string (S.extract 2 S.size), .bool true])) ∨ (¬ Lettered S ∧ e = .returned (.tuple #[.string S, .bool false]))

set_option maxHeartbeats 2000000 in
theorem cutPrefix75d (S : ByteArray) (w : World) : Calls Tryd.prog 75 #[.string S, .string ⟨#[100, 32]⟩] w fun e w' => LetOut S e ∧ w' = w := by
  have C := hasPrefix79d S w
  by_cases h : Lettered S
  · rw [decide_eq_true h] at C
    have HC := hid C
    have HH := hid h
    have h1 : (2 : Int) ≤ S.size := by have := h.two; omega
    clear C h
    go_enter Tryd.func75, Tryd.ntmps75
    go_wp2_with (go_at_call 79; refine HC.out.mono ?_; clear HC; rintro e W ⟨rfl, rfl⟩)
    go_ret2
    exact ⟨.inl ⟨HH.out, rfl⟩, rfl⟩
  · rw [decide_eq_false h] at C
    have HC := hid C
    have HH := hid h
    clear C h
    go_enter Tryd.func75, Tryd.ntmps75
    go_wp2_with (go_at_call 79; refine HC.out.mono ?_; clear HC; rintro e W ⟨rfl, rfl⟩)
    go_ret2
    exact ⟨.inr ⟨HH.out, rfl⟩, rfl⟩

set_option maxHeartbeats 2000000 in
theorem cutPrefix65d (S : ByteArray) (w : World) : Calls Tryd.prog 65 #[.string S, .string ⟨#[100, 32]⟩] w fun e w' => LetOut S e ∧ w' = w := by
  have HC := hid (cutPrefix75d S w)
  go_enter Tryd.func65, Tryd.ntmps65
  go_wp2_with (go_at_call 75; refine HC.out.mono ?_; clear HC; rintro e W ⟨(⟨h, rfl⟩ | ⟨h, rfl⟩), rfl⟩ <;> have HH := hid h <;> clear h)
  · go_ret2
    exact ⟨.inl ⟨HH.out, rfl⟩, rfl⟩
  · go_ret2
    exact ⟨.inr ⟨HH.out, rfl⟩, rfl⟩
end Go.Proofs.YtdodfmgbjfhnpaaDoor
