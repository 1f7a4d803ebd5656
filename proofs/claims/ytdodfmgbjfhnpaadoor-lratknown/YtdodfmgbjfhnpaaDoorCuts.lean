/- A text cut at a byte, by the program. -/
import Derived.Test.YtdodfmgbjfhnpaaDoorWord
import Derived.Lib.Bytealg
import Derived.Laws.Externs
import Derived.Deep.QuietTactic
namespace Go.Proofs.YtdodfmgbjfhnpaaDoor
open Go.RowKit
set_option linter.unusedVariables false
set_option linter.unusedSimpArgs false

def Drawn (w w' : World) : Prop := ∃ q, w' = w.drewN q
theorem Drawn.refl (w : World) : Drawn w w := ⟨0, rfl⟩
theorem Drawn.drewN {w w' : World} (h : Drawn w w') (n : Nat) : Drawn w (w'.drewN n) := by obtain ⟨q, rfl⟩ := h; exact ⟨q + n, by rw [World.drewN_drewN]⟩
theorem Drawn.trans {w w' w'' : World} (h : Drawn w w') (k : Drawn w' w'') : Drawn w w'' := by obtain ⟨q, rfl⟩ := k; exact h.drewN q
theorem Drawn.cell {w w' : World} (h : Drawn w w') (a : Addr) : w'.cell? a = w.cell? a := by obtain ⟨q, rfl⟩ := h; rfl

set_option maxRecDepth 100000 in
set_option maxHeartbeats 2000000 in
theorem indexByte61 (S : ByteArray) (c : Int) (w : World) : Calls Tryd.prog 61 #[.string S, .int .u8 c] w fun e w' => e = .returned (.int .i64 (Lib.indexByte S.data.toList c.toNat.toUInt8)) ∧ w' = w := by
  go_enter Tryd.func61, Tryd.ntmps61
  go_wp2
  rw [run_callFunc_extern Tryd.func72 (by kernel_rfl) (by kernel_rfl) (by kernel_rfl) (e := Extern.BytealgIndexByte.indexByte) (by kernel_rfl), Lib.run_indexByteString]
  simp only [Result.andThen]
  rw [Oper.upon_value]
  go_wp2
  go_ret
  exact ⟨rfl, rfl⟩

set_option maxRecDepth 100000 in
set_option maxHeartbeats 2000000 in
theorem indexByte45 (S : ByteArray) (c : Int) (w : World) : Calls Tryd.prog 45 #[.string S, .int .u8 c] w fun e w' => e = .returned (.int .i64 (Lib.indexByte S.data.toList c.toNat.toUInt8)) ∧ w' = w := by
  have HC := hid (indexByte61 S c w)
  go_enter Tryd.func45, Tryd.ntmps45
  go_wp2_with (go_at_call 61; refine HC.out.mono ?_; clear HC; rintro e W ⟨rfl, rfl⟩)
  go_ret
  exact ⟨rfl, rfl⟩

set_option maxRecDepth 100000 in
set_option maxHeartbeats 2000000 in
theorem count26 (S : ByteArray) (c : UInt8) (w : World) : Calls Tryd.prog 26 #[.string S, .string ⟨#[c]⟩] w fun e w' => e = .returned (.int .i64 (Lib.countByte S.data.toList c)) ∧ w' = w := by
  go_enter Tryd.func26, Tryd.ntmps26
  go_wp2
  rw [run_callFunc_extern Tryd.func42 (by kernel_rfl) (by kernel_rfl) (by kernel_rfl) (e := Extern.BytealgCount.count) (by kernel_rfl), Lib.run_countString]
  simp only [Result.andThen]
  rw [Oper.upon_value]
  go_wp2
  go_ret
  exact ⟨rfl, rfl⟩

set_option maxRecDepth 100000 in
set_option maxHeartbeats 2000000 in
theorem index60 (S : ByteArray) (w : World) : Calls Tryd.prog 60 #[.string S, .string ⟨#[32]⟩] w fun e w' => e = .returned (.int .i64 (Lib.indexByte S.data.toList 32)) ∧ w' = w := by
  cases h : ([32] == S.toList)
  · have HC := hid (indexByte61 S 32 w)
    go_enter Tryd.func60, Tryd.ntmps60
    go_wp2_with (go_at_call 61; refine HC.out.mono ?_; clear HC; rintro e W ⟨rfl, rfl⟩)
    go_ret
    exact ⟨rfl, rfl⟩
  · have HI := hid (show Lib.indexByte S.data.toList 32 = 0 by
      have h2 : [32] = S.toList := by simpa using h
      rw [toL] at h2
      rw [← h2]; rfl)
    generalize Lib.indexByte S.data.toList 32 = q at HI ⊢
    go_enter Tryd.func60, Tryd.ntmps60
    go_wp2
    go_ret
    exact ⟨by rw [HI.out]; rfl, rfl⟩

/-- What a text is cut into at its first blank. -/
def Cut3 (S : ByteArray) (e : Ending) : Prop :=
  (∃ i : Nat, i < S.size ∧ Lib.indexByte S.data.toList 32 = i ∧ e = .returned (.tuple #[.string (S.extract 0 i), .string (S.extract (i + 1) S.size), .bool true]))
  ∨ (Lib.indexByte S.data.toList 32 = -1 ∧ e = .returned (.tuple #[.string S, .string ⟨#[]⟩, .bool false]))

theorem index_cases (l : List UInt8) (c : UInt8) : Lib.indexByte l c = -1 ∨ ∃ i : Nat, i < l.length ∧ Lib.indexByte l c = i := by
  induction l with
  | nil => left; rfl
  | cons b t ih =>
    unfold Lib.indexByte
    split
    · right; exact ⟨0, by simp, rfl⟩
    · rcases ih with h | ⟨i, hi, h⟩
      · left; rw [h]; rfl
      · right
        refine ⟨i + 1, by simpa using hi, ?_⟩
        rw [h, if_neg (by simp)]
        push_cast; rfl

set_option maxRecDepth 100000 in
set_option maxHeartbeats 2000000 in
theorem cut78 (S : ByteArray) (w : World) (hS : (S.size : Int) ≤ 1099511627776) : Calls Tryd.prog 78 #[.string S, .string ⟨#[32]⟩] w fun e w' => Cut3 S e ∧ Drawn w w' := by
  have C := index60 S w
  rcases index_cases S.data.toList 32 with h | ⟨i, hi, h⟩
  · rw [h] at C
    have HC := hid C
    have HH := hid h
    clear C h
    go_enter Tryd.func78, Tryd.ntmps78
    go_wp2_with (go_at_call 60; refine HC.out.mono ?_; clear HC; rintro e W ⟨rfl, rfl⟩)
    go_ret3
    exact ⟨.inr ⟨HH.out, rfl⟩, Drawn.refl _⟩
  · rw [h] at C
    have hi' : i < S.size := by simpa using hi
    have hi1 : (i : Int) + 1 ≤ S.size := by omega
    have hi2 : (i : Int) ≤ S.size := by omega
    have hi0 : (0 : Int) ≤ i := by omega
    have HC := hid C
    have HH := hid h
    clear C h hi
    go_enter Tryd.func78, Tryd.ntmps78
    go_wp2_with (go_at_call 60; refine HC.out.mono ?_; clear HC; rintro e W ⟨rfl, rfl⟩)
    go_quiet (fail)
    go_wp2
    go_ret3
    exact ⟨.inl ⟨i, hi', HH.out, rfl⟩, ⟨_, rfl⟩⟩

set_option maxRecDepth 100000 in
set_option maxHeartbeats 2000000 in
theorem cut74 (S : ByteArray) (w : World) (hS : (S.size : Int) ≤ 1099511627776) : Calls Tryd.prog 74 #[.string S, .string ⟨#[32]⟩] w fun e w' => Cut3 S e ∧ Drawn w w' := by
  have HC := hid (cut78 S w hS)
  clear hS
  go_enter Tryd.func74, Tryd.ntmps74
  go_wp2_with (go_at_call 78; refine HC.out.mono ?_; clear HC; rintro e W ⟨(⟨i, hi, h, rfl⟩ | ⟨h, rfl⟩), hw⟩ <;> have HH := hid h <;> have HW := hid hw <;> clear h hw)
  · go_ret3
    exact ⟨.inl ⟨i, hi, HH.out, rfl⟩, HW.out⟩
  · go_ret3
    exact ⟨.inr ⟨HH.out, rfl⟩, HW.out⟩
end Go.Proofs.YtdodfmgbjfhnpaaDoor
