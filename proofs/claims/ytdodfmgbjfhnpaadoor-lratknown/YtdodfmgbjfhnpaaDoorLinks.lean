/- What the reader sees of a line, as words. -/
import Derived.Test.YtdodfmgbjfhnpaaDoorList
import Derived.Test.YtdodfmgbjfhnpaaDoorNull
import Derived.Test.YtdodfmgbjfhnpaaDoorSpec
namespace Lra
theorem ints_extract (S : ByteArray) (a b : Nat) : ints (S.extract a b) = ((ints S).drop a).take (b - a) := by
  unfold ints
  rw [ByteArray.data_extract, Array.toList_extract, List.extract_eq_take_drop, List.map_take, List.map_drop]
theorem ints_mem (S : ByteArray) (c : UInt8) : (c.toNat : Int) ∈ ints S ↔ c ∈ S.data.toList := by
  unfold ints
  rw [List.mem_map]
  constructor
  · rintro ⟨b, hb, e⟩
    have : b = c := UInt8.toNat_inj.mp (by omega)
    rw [← this]; exact hb
  · intro h; exact ⟨c, h, rfl⟩
theorem index_spec (l : List UInt8) (c : UInt8) : (Go.Lib.indexByte l c = -1 ∧ c ∉ l) ∨ ∃ i : Nat, i < l.length ∧ Go.Lib.indexByte l c = i ∧ c ∉ l.take i ∧ l[i]? = some c := by
  induction l with
  | nil => left; exact ⟨rfl, by simp⟩
  | cons b t ih =>
    unfold Go.Lib.indexByte
    split
    · next hb =>
      right
      have : b = c := by simpa using hb
      exact ⟨0, by simp, rfl, by simp, by simp [this]⟩
    · next hb =>
      have hbc : ¬ c = b := fun e => hb (by simp [e])
      rcases ih with ⟨h, hm⟩ | ⟨i, hi, h, hm, hg⟩
      · left
        refine ⟨by rw [h]; rfl, ?_⟩
        simp only [List.mem_cons, not_or]; exact ⟨hbc, hm⟩
      · right
        refine ⟨i + 1, by simpa using hi, ?_, ?_, by simpa using hg⟩
        · rw [h, if_neg (by simp)]
          push_cast; rfl
        · rw [List.take_succ_cons]
          simp only [List.mem_cons, not_or]; exact ⟨hbc, hm⟩
/-- A text at its first byte c. -/
theorem ints_index (S : ByteArray) (c : UInt8) : (Go.Lib.indexByte S.data.toList c = -1 ∧ (c.toNat : Int) ∉ ints S) ∨ ∃ i : Nat, i < S.size ∧ Go.Lib.indexByte S.data.toList c = i ∧ (c.toNat : Int) ∉ ints (S.extract 0 i) ∧ ints S = ints (S.extract 0 i) ++ (c.toNat : Int) :: ints (S.extract (i + 1) S.size) := by
  rcases index_spec S.data.toList c with ⟨h, hm⟩ | ⟨i, hi, h, hm, hg⟩
  · exact .inl ⟨h, fun e => hm ((ints_mem S c).1 e)⟩
  · right
    have hs : i < S.size := by simpa using hi
    have e0 : ints (S.extract 0 i) = (ints S).take i := by rw [ints_extract]; simp
    have e1 : ints (S.extract (i + 1) S.size) = (ints S).drop (i + 1) := by
      rw [ints_extract]; exact List.take_of_length_le (by rw [List.length_drop, ints_len]; exact Nat.le_refl _)
    have hl : i < (ints S).length := by rw [ints_len]; exact hs
    have hgi : (ints S)[i] = (c.toNat : Int) := by
      have e2 : (ints S)[i]? = some (c.toNat : Int) := by
        unfold ints
        rw [List.getElem?_map, hg]; rfl
      rw [List.getElem?_eq_getElem hl] at e2
      exact Option.some.inj e2
    refine ⟨i, hs, h, ?_, ?_⟩
    · rw [e0]
      intro e
      unfold ints at e
      rw [← List.map_take, List.mem_map] at e
      obtain ⟨b, hb, e⟩ := e
      have : b = c := UInt8.toNat_inj.mp (by omega)
      exact hm (this ▸ hb)
    · rw [e0, e1, ← hgi, ← List.drop_eq_getElem_cons hl, List.take_append_drop]
theorem cutAll_letter (l : List Int) : (l.take 2 = [100, 32] → cutAll 32 l = [100] :: cutAll 32 (l.drop 2)) ∧ (l.take 2 ≠ [100, 32] → ¬ ((cutAll 32 l).head? = some [100] ∧ (cutAll 32 l).tail ≠ [])) := by
  constructor
  · intro h
    match l, h with
    | a :: b :: t, h =>
      simp at h
      obtain ⟨rfl, rfl⟩ := h
      exact cutAll_at 32 [100] t (by decide)
  · rintro h ⟨h1, h2⟩
    rcases split_at 32 l with hn | ⟨u, v, hu, rfl⟩
    · rw [cutAll_none 32 l hn] at h2
      exact h2 rfl
    · rw [cutAll_at 32 u v hu] at h1
      simp at h1
      subst h1
      exact h rfl
end Lra
namespace Go.Proofs.YtdodfmgbjfhnpaaDoor
open Go.RowKit
set_option linter.unusedVariables false
set_option linter.unusedSimpArgs false

/-- The words that are left. -/
def wordsOf (rest : ByteArray) (more : Bool) : List (List Int) := if more = true then Lra.cutAll 32 (Lra.ints rest) else []
theorem wordsOf_nil (rest : ByteArray) (more : Bool) : wordsOf rest more = [] ↔ more = false := by
  unfold wordsOf
  cases more
  · simp
  · simp [Lra.cutAll_ne]
theorem wordsOf_word (rest : ByteArray) : wordsOf rest true = Lra.ints (wordB rest true).1 :: wordsOf (wordB rest true).2.1 (wordB rest true).2.2 ∧ ((wordB rest true).2.2 = false → (wordB rest true).2.1 = ⟨#[]⟩) := by
  rcases Lra.ints_index rest 32 with ⟨hx, hm⟩ | ⟨i, hi, hx, hm, he⟩
  · have e1 : wordB rest true = (rest, ⟨#[]⟩, false) := by unfold wordB; rw [if_pos rfl, hx]; rfl
    rw [e1]
    refine ⟨?_, fun _ => rfl⟩
    unfold wordsOf
    simp only [if_true]
    rw [Lra.cutAll_none 32 _ hm]; rfl
  · have e1 : wordB rest true = (rest.extract 0 i, rest.extract (i + 1) rest.size, true) := by
      unfold wordB
      rw [if_pos rfl, hx, if_neg (by omega)]
      simp
    rw [e1]
    refine ⟨?_, fun h => by cases h⟩
    unfold wordsOf
    simp only [if_true]
    conv => lhs; rw [he]
    exact Lra.cutAll_at 32 _ _ hm
theorem letter_ints (rest : ByteArray) : Lettered rest ↔ (Lra.ints rest).take 2 = [100, 32] := by
  unfold Lettered Lra.ints
  rw [← List.map_take]
  constructor
  · intro h; rw [h]; rfl
  · intro h
    match hh : rest.data.toList.take 2, h with
    | [a, b], h =>
      simp at h
      have ha : a = 100 := UInt8.toNat_inj.mp (by have : (100 : UInt8).toNat = 100 := rfl; omega)
      have hb : b = 32 := UInt8.toNat_inj.mp (by have : (32 : UInt8).toNat = 32 := rfl; omega)
      rw [ha, hb]
    | [], h => simp at h
    | [a], h => simp at h
    | a :: b :: c :: t, h => simp at h
theorem wordsOf_letter (rest : ByteArray) : (Lettered rest → wordsOf rest true = [100] :: wordsOf (rest.extract 2 rest.size) true) ∧ (¬ Lettered rest → ¬ ((wordsOf rest true).head? = some [100] ∧ (wordsOf rest true).tail ≠ [])) := by
  unfold wordsOf
  simp only [if_true]
  constructor
  · intro h
    rw [(Lra.cutAll_letter _).1 ((letter_ints rest).1 h), Lra.ints_extract]
    rw [List.take_of_length_le (by rw [List.length_drop, Lra.ints_len]; omega)]
  · intro h
    exact (Lra.cutAll_letter _).2 (fun e => h ((letter_ints rest).2 e))
theorem listB_words (chk : Int → Bool) : ∀ (f : Nat) (rest : ByteArray) (more : Bool) (acc : List Int), far rest more < f →
    (Lra.listW chk (wordsOf rest more) = none ∧ listB chk f rest more acc = none) ∨ (∃ xs r p2 p3, Lra.listW chk (wordsOf rest more) = some (xs, r) ∧ listB chk f rest more acc = some (acc ++ xs, p2, p3) ∧ wordsOf p2 p3 = r ∧ p2.size ≤ rest.size ∧ xs.length + far p2 p3 ≤ far rest more) := by
  intro f
  induction f with
  | zero => intro rest more acc h; omega
  | succ f ih =>
    intro rest more acc h
    cases more with
    | false =>
      left
      refine ⟨rfl, ?_⟩
      unfold listB
      rw [show (wordB rest false).1 = ⟨#[]⟩ from rfl, numL_empty]
    | true =>
      obtain ⟨hw, _⟩ := wordsOf_word rest
      have hsz := (wordB_size rest true).2
      have hfl := fun n => far_less (rest := rest) (more := true) (n := n)
      unfold listB
      rw [hw, Lra.listW]
      generalize (wordB rest true).2.2 = p3 at *
      generalize (wordB rest true).2.1 = p2 at *
      generalize (wordB rest true).1 = p1 at *
      cases hn : Lra.numL (Lra.ints p1) with
      | none => left; exact ⟨rfl, rfl⟩
      | some n =>
        have hf := (hfl n hn).2
        by_cases h0 : n = 0
        · right
          refine ⟨[], wordsOf p2 p3, p2, p3, ?_, ?_, rfl, hsz, ?_⟩
          · simp [h0]
          · simp [h0]
          · simp; omega
        · cases hc : chk n
          · left; simp [h0, hc]
          · rcases ih p2 p3 (acc ++ [n]) (by omega) with ⟨h1, h2⟩ | ⟨xs, r, q2, q3, h1, h2, h3, h4, h5⟩
            · left; simp [h0, hc, h1, h2]
            · right
              refine ⟨n :: xs, r, q2, q3, ?_, ?_, h3, by omega, by simp; omega⟩
              · simp [h0, hc, h1]
              · simp [h0, hc, h2]
end Go.Proofs.YtdodfmgbjfhnpaaDoor
