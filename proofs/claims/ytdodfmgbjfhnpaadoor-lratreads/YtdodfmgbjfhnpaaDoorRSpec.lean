/- What a line's words say, as the document goes through them: plain. -/
import Derived.Test.YtdodfmgbjfhnpaaDoorText
namespace Lra
set_option linter.unusedVariables false
/-- A row of numbers up to the last word. -/
def tailW (chk : Int → Bool) (ws : List (List Int)) : Option (List Int) := match listW chk ws with
  | some (xs, []) => some xs
  | _ => none
theorem tailW_none (chk : Int → Bool) (w : List Int) (ws : List (List Int)) (h : numL w = none) : tailW chk (w :: ws) = none := by
  unfold tailW
  rw [listW, h]
theorem tailW_some (chk : Int → Bool) (h0 : chk 0 = false) (w : List Int) (ws : List (List Int)) (n : Int) (h : numL w = some n) (hr : ws ≠ []) : tailW chk (w :: ws) = if chk n = true then (tailW chk ws).map (fun xs => n :: xs) else none := by
  unfold tailW
  rw [listW, h]
  simp only
  by_cases hn : n = 0
  · subst hn
    rw [if_pos rfl, h0, if_neg (by decide)]
    cases ws with
    | nil => exact absurd rfl hr
    | cons _ _ => rfl
  · rw [if_neg hn]
    by_cases hc : chk n = true
    · rw [if_pos hc, if_pos hc]
      cases listW chk ws with
      | none => rfl
      | some p =>
        obtain ⟨xs, r⟩ := p
        cases r <;> rfl
    · rw [if_neg hc, if_neg hc]
theorem tailW_last (chk : Int → Bool) : tailW chk [[48]] = some [] := by
  unfold tailW
  rw [listW, ← W_0, numL_W 0 (by decide) (by decide)]
  rfl
/-- Behind some numbers of a row. -/
def tailAt (chk : Int → Bool) (acc : List Int) (rest : List (List Int)) : Option (List Int) := if acc.all chk = true then (tailW chk rest).map (fun xs => acc ++ xs) else none
theorem tailAt_nil (chk : Int → Bool) (ws : List (List Int)) : tailAt chk [] ws = tailW chk ws := by
  unfold tailAt
  simp
theorem tailAt_step (chk : Int → Bool) (h0 : chk 0 = false) (acc : List Int) (w : List Int) (ws : List (List Int)) (n : Int) (h : numL w = some n) (hr : ws ≠ []) : tailAt chk acc (w :: ws) = tailAt chk (acc ++ [n]) ws := by
  unfold tailAt
  rw [tailW_some chk h0 w ws n h hr, List.all_append]
  by_cases ha : acc.all chk = true
  · rw [if_pos ha, ha]
    by_cases hc : chk n = true
    · rw [if_pos hc, if_pos (by simp [hc])]
      cases tailW chk ws <;> simp
    · rw [if_neg hc, if_neg (by simpa using hc)]; rfl
  · rw [if_neg ha, if_neg (by simp [ha])]
theorem tailAt_none (chk : Int → Bool) (acc : List Int) (w : List Int) (ws : List (List Int)) (h : numL w = none) : tailAt chk acc (w :: ws) = none := by
  unfold tailAt
  rw [tailW_none chk w ws h]
  split <;> rfl
theorem tailAt_last (chk : Int → Bool) (acc : List Int) : tailAt chk acc [[48]] = if acc.all chk = true then some acc else none := by
  unfold tailAt
  rw [tailW_last]
  simp
theorem delW_tail (id : Int) (ws : List (List Int)) : delW id ws = (tailW added ws).map (fun xs => ⟨2, id, [], xs⟩) := by
  unfold delW tailW
  cases listW added ws with
  | none => rfl
  | some p =>
    obtain ⟨xs, r⟩ := p
    cases r with
    | nil => simp
    | cons _ _ => simp
/-- Behind some literals of a row. -/
def litAt (id : Int) (acc : List Int) (rest : List (List Int)) : Option Stp := if added id = true then (match listW literal rest with
  | none => none
  | some (ls, r) => (tailW hint r).map (fun xs => ⟨1, id, acc ++ ls, xs⟩)) else none
theorem addW_lit (id : Int) (ws : List (List Int)) : addW id ws = litAt id [] ws := by
  unfold addW litAt
  split
  · cases listW literal ws with
    | none => rfl
    | some p =>
      obtain ⟨ls, r⟩ := p
      simp only
      unfold tailW
      cases listW hint r with
      | none => rfl
      | some q =>
        obtain ⟨hs, r'⟩ := q
        cases r' <;> simp
  · rfl
theorem litAt_none (id : Int) (acc : List Int) (w : List Int) (ws : List (List Int)) (h : numL w = none) : litAt id acc (w :: ws) = none := by
  unfold litAt
  rw [listW, h]
  split <;> rfl
theorem litAt_out (id : Int) (acc : List Int) (w : List Int) (ws : List (List Int)) (n : Int) (h : numL w = some n) (hw : w ≠ [48]) (hn : literal n = false) : litAt id acc (w :: ws) = none := by
  have h0 : n ≠ 0 := by
    rintro rfl
    exact hw (by rw [numL_inv h, W_0])
  unfold litAt
  rw [listW, h]
  simp only
  rw [if_neg h0, hn]
  split <;> rfl
theorem litAt_step (id : Int) (acc : List Int) (w : List Int) (ws : List (List Int)) (n : Int) (h : numL w = some n) (hn : literal n = true) : litAt id acc (w :: ws) = litAt id (acc ++ [n]) ws := by
  have h0 : n ≠ 0 := (chk_literal n hn).1
  unfold litAt
  rw [listW, h]
  simp only
  rw [if_neg h0, if_pos hn]
  split
  · cases listW literal ws with
    | none => rfl
    | some p => obtain ⟨ls, r⟩ := p; simp
  · rfl
theorem litAt_zero (id : Int) (acc : List Int) (ws : List (List Int)) : litAt id acc ([48] :: ws) = if added id = true then (tailW hint ws).map (fun xs => ⟨1, id, acc, xs⟩) else none := by
  unfold litAt
  rw [listW, ← W_0, numL_W 0 (by decide) (by decide)]
  simp
theorem litAt_end (id : Int) (acc : List Int) : litAt id acc [] = none := by
  unfold litAt
  split <;> rfl
theorem literal_range (n : Int) (h0 : n ≠ 0) : literal n = true ↔ (-1048576 ≤ n ∧ n ≤ 1048576) := by
  unfold literal; simp [h0]
/-- The last word of a step's. -/
theorem stepW_last {ws : List (List Int)} {x : Stp} (h : stepW ws = some x) : ws.getLast? = some [48] ∧ 2 ≤ ws.length := by
  have e := stepW_inv h
  rw [e]
  unfold wordsS
  constructor
  · rw [← List.cons_append, List.getLast?_append]; simp
  · simp; omega
theorem stepW_two (w v : List Int) (ws : List (List Int)) (id : Int) (h : numL w = some id) : stepW (w :: v :: ws) = if known id = true then (if v = [100] ∧ ws ≠ [] then delW id ws else addW id (v :: ws)) else none := by
  rw [stepW, h]
  simp
theorem known_of_added {n : Int} (h : added n = true) : known n = true := by unfold added at h; unfold known; simp at h ⊢; omega
/-- A deletion's step. -/
theorem del_may (id : Int) (hs : List Int) (w : List Int) (ws : List (List Int)) (h : numL w = some id) (hr : ws ≠ []) (ht : tailW added ws = if hs.all added = true then some hs else none) : stepW (w :: [100] :: ws) = if may ⟨2, id, [], hs⟩ = true then some ⟨2, id, [], hs⟩ else none := by
  rw [stepW_two _ _ _ _ h, if_pos (c := [100] = [100] ∧ ws ≠ []) ⟨rfl, hr⟩, delW_tail, ht]
  have hm : may ⟨2, id, [], hs⟩ = (known id && (List.isEmpty ([] : List Int) && hs.all added)) := rfl
  rw [hm]
  by_cases h1 : known id = true
  · rw [if_pos h1, h1]
    by_cases h2 : hs.all added = true
    · rw [if_pos h2, h2]; rfl
    · rw [if_neg h2]
      rw [if_neg (by simpa using h2)]; rfl
  · rw [if_neg h1, if_neg (by simp [h1])]
/-- An addition's step. -/
theorem add_may {r : Option Stp} (id : Int) (ls hs : List Int) (hl : ls.all literal = true) (ht : (if added id = true then (if hs.all hint = true then some hs else none : Option (List Int)).map (fun xs => (⟨1, id, ls, xs⟩ : Stp)) else none) = r) : r = if may ⟨1, id, ls, hs⟩ = true then some ⟨1, id, ls, hs⟩ else none := by
  rw [← ht]
  have hm : may ⟨1, id, ls, hs⟩ = (added id && (ls.all literal && hs.all hint)) := rfl
  rw [hm, hl]
  by_cases h1 : added id = true
  · rw [if_pos h1, h1]
    by_cases h2 : hs.all hint = true
    · rw [if_pos h2, h2]; rfl
    · rw [if_neg h2, if_neg (by simpa using h2)]; rfl
  · rw [if_neg h1, if_neg (by simp [h1])]
end Lra
