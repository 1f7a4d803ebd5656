/- Parse at a string's bytes; the three beginnings of the law of the blanks. -/
import Derived.Test.YtlhpnkgdnmnclaaDoorWorks
import Derived.Test.YtlhpnkgdnmnclaaDoorSameF
import Derived.Test.YtlhpnkgdnmnclaaDoorBlank
import Derived.Test.YtlhpnkgdnmnclaaDoorBound
import Derived.Lib.ConvBytes
namespace Dim
set_option linter.unusedVariables false
def ints (S : ByteArray) : List Int := S.data.toList.map (fun b => (b.toNat : Int))
theorem ints_len (S : ByteArray) : (ints S).length = S.size := by
  unfold ints
  rw [List.length_map, Array.length_toList]
  rfl
theorem ints_append (S T : ByteArray) : ints (S ++ T) = ints S ++ ints T := by
  unfold ints
  rw [ByteArray.data_append, Array.toList_append, List.map_append]
theorem ints_get (R : ByteArray) (k : Nat) (h : k < R.size) : (ints R)[k]'(by rw [ints_len]; exact h) = (R[k].toNat : Int) := by
  unfold ints
  rw [List.getElem_map, Array.getElem_toList]
  rfl
theorem noTen_step (R : ByteArray) (k : Nat) (h : k < R.size) (hk : ∀ c ∈ (ints R).take k, c ≠ 10) (ht : ((R[k].toNat : Int) == 10) = false) : ∀ c ∈ (ints R).take (k + 1), c ≠ 10 := by
  have hl : k < (ints R).length := by rw [ints_len]; exact h
  rw [List.take_succ_eq_append_getElem hl, ints_get R k h]
  intro c hc
  rcases List.mem_append.1 hc with hc | hc
  · exact hk c hc
  · rw [List.mem_singleton] at hc
    subst hc
    exact beq_eq_false_iff_ne.1 ht
end Dim
namespace Go.Proofs.YtlhpnkgdnmnclaaDoor
open Go.RowKit
set_option linter.unusedVariables false

theorem bytes_below (w : World) (S : ByteArray) : Below w.heap.size w (Lib.bytesWorld w 5 S) := ⟨rfl, rfl, rfl, by rw [Lib.bytesWorld_size]; omega, fun k hk => Lib.bytesWorld_at_old w 5 S k hk⟩

theorem parse_str (S : ByteArray) (w : World) (hS : S.size ≤ 100000) :
    Calls Tryd.prog 9 #[.slice (some ⟨w.heap.size, 0, none⟩) S.size (grownCap w S.size 0 5)] (Lib.bytesWorld w 5 S) fun e w' => ∃ a cap, e = .returned (.tuple #[.agg #[.int .i64 (Dim.parse (Dim.ints S)).vars, .slice a (Dim.parse (Dim.ints S)).cls.length cap], .int .i64 (Dim.parse (Dim.ints S)).err, .int .i64 (Dim.parse (Dim.ints S)).at_]) ∧ Cls w' a (Dim.parse (Dim.ints S)).cls ∧ Below w.heap.size w w' := by
  refine (parse9 w.heap.size (some ⟨w.heap.size, 0, none⟩) S.size (grownCap w S.size 0 5) (Dim.ints S) (Lib.bytesWorld w 5 S) ⟨_, _, Lib.bytesWorld_at_new w 5 S⟩ (Dim.ints_len S) ⟨?_, ?_, ⟨?_, ?_⟩, .inr ⟨0, rfl, fun i hi => ?_⟩⟩ (by omega)).mono ?_
  · intro x hx
    obtain ⟨b, _, rfl⟩ := List.mem_map.1 hx
    have := b.toNat_lt
    omega
  · rw [Dim.ints_len]; exact grownCap_ge w S.size 0 5
  · rw [Dim.ints_len]; omega
  · exact grownCap_le_maxLen w S.size 0 5 (by unfold maxLen; omega)
  · rw [Dim.ints_len] at hi
    rw [Nat.zero_add, Lib.bytesWorld_cell w 5 S i hi]
    have h2 : i < S.data.toList.length := by rw [Array.length_toList]; exact hi
    unfold Dim.ints List.getD
    rw [List.getElem?_map, List.getElem?_eq_getElem h2]
    rfl
  · rintro e w' ⟨a, cap, he, hc, hb⟩
    exact ⟨a, cap, he, hc, (bytes_below w S).trans (hb.mono (by rw [Lib.bytesWorld_size]; omega))⟩

/-- The three beginnings: each is a line with no words. -/
theorem starts (R S : ByteArray) (A : Dim.Ans) (hA : Dim.parse (Dim.ints S) = A) (hR : ∀ c ∈ Dim.ints R, c ≠ 10) : ∀ X : ByteArray, X = ⟨#[10]⟩ ∨ X = ⟨#[32, 9, 13, 10]⟩ ∨ X = ⟨#[99]⟩ ++ R ++ ⟨#[10]⟩ → Dim.parse (Dim.ints (X ++ S)) = Dim.later A := by
  intro X hX
  subst hA
  rw [Dim.ints_append]
  rcases hX with rfl | rfl | rfl
  · exact Dim.parse_line [] _ (fun c h => by cases h) Dim.words_none
  · exact Dim.parse_line [32, 9, 13] _ (by decide) Dim.words_blanks
  · rw [Dim.ints_append, Dim.ints_append]
    have := Dim.parse_line (99 :: Dim.ints R) (Dim.ints S) (fun c h => by
      rcases List.mem_cons.1 h with rfl | h
      · decide
      · exact hR c h) (Dim.words_remark _)
    have e : Dim.ints ⟨#[99]⟩ ++ Dim.ints R ++ Dim.ints ⟨#[10]⟩ ++ Dim.ints S = 99 :: Dim.ints R ++ 10 :: Dim.ints S := by
      rw [show Dim.ints ⟨#[99]⟩ = [99] from rfl, show Dim.ints ⟨#[10]⟩ = [10] from rfl]
      simp
    rw [e]; exact this
end Go.Proofs.YtlhpnkgdnmnclaaDoor
