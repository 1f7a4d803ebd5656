/- What a text of steps says: its words, its lines, its steps; plain. -/
import Derived.Test.YtdodfmgbjfhnpaaDoorWord
namespace Lra
set_option linter.unusedVariables false

/-- A text cut at each byte c. -/
def cutAll (c : Int) : List Int → List (List Int)
  | [] => [[]]
  | x :: xs => if x = c then [] :: cutAll c xs else (match cutAll c xs with | [] => [[x]] | w :: ws => (x :: w) :: ws)
theorem cutAll_ne (c : Int) (xs : List Int) : cutAll c xs ≠ [] := by
  cases xs with
  | nil => simp [cutAll]
  | cons x xs =>
    unfold cutAll
    split
    · simp
    · split <;> simp
theorem cutAll_none (c : Int) (xs : List Int) (h : c ∉ xs) : cutAll c xs = [xs] := by
  induction xs with
  | nil => rfl
  | cons x xs ih =>
    simp only [List.mem_cons, not_or] at h
    rw [cutAll, if_neg (fun e => h.1 e.symm), ih h.2]
theorem cutAll_at (c : Int) (u v : List Int) (h : c ∉ u) : cutAll c (u ++ c :: v) = u :: cutAll c v := by
  induction u with
  | nil => simp [cutAll]
  | cons x u ih =>
    simp only [List.mem_cons, not_or] at h
    rw [List.cons_append, cutAll, if_neg (fun e => h.1 e.symm), ih h.2]
/-- The lines of a text, each with its byte 10. -/
def linesL : List Int → List (List Int)
  | [] => []
  | x :: xs => if x = 10 then [x] :: linesL xs else (match linesL xs with | [] => [[x]] | l :: ls => (x :: l) :: ls)
theorem linesL_none (xs : List Int) (h : 10 ∉ xs) (h0 : xs ≠ []) : linesL xs = [xs] := by
  induction xs with
  | nil => exact absurd rfl h0
  | cons x xs ih =>
    simp only [List.mem_cons, not_or] at h
    rw [linesL, if_neg (fun e => h.1 e.symm)]
    cases xs with
    | nil => rfl
    | cons y ys => rw [ih h.2 (by simp)]
theorem linesL_at (u v : List Int) (h : 10 ∉ u) : linesL (u ++ 10 :: v) = (u ++ [10]) :: linesL v := by
  induction u with
  | nil => simp [linesL]
  | cons x u ih =>
    simp only [List.mem_cons, not_or] at h
    rw [List.cons_append, linesL, if_neg (fun e => h.1 e.symm), ih h.2]
    rfl
theorem split_at (c : Int) (xs : List Int) : c ∉ xs ∨ ∃ u v, c ∉ u ∧ xs = u ++ c :: v := by
  induction xs with
  | nil => left; simp
  | cons x xs ih =>
    by_cases hx : x = c
    · right; exact ⟨[], xs, by simp, by rw [hx]; rfl⟩
    · rcases ih with h | ⟨u, v, h1, h2⟩
      · left; simp only [List.mem_cons, not_or]; exact ⟨fun e => hx e.symm, h⟩
      · right; refine ⟨x :: u, v, ?_, by rw [h2]; rfl⟩
        simp only [List.mem_cons, not_or]; exact ⟨fun e => hx e.symm, h1⟩
/-- A row of numbers up to its 0, each as chk asks, and the words behind it. -/
def listW (chk : Int → Bool) : List (List Int) → Option (List Int × List (List Int))
  | [] => none
  | w :: ws => match numL w with
    | none => none
    | some n => if n = 0 then some ([], ws) else if chk n = true then (match listW chk ws with | none => none | some (xs, r) => some (n :: xs, r)) else none
/-- A deletion's row. -/
def delW (id : Int) (ws : List (List Int)) : Option Stp := match listW added ws with
  | none => none
  | some (xs, r) => if r = [] then some ⟨2, id, [], xs⟩ else none
/-- An addition's rows. -/
def addW (id : Int) (ws : List (List Int)) : Option Stp := if added id = true then (match listW literal ws with
  | none => none
  | some (ls, r) => match listW hint r with
    | none => none
    | some (hs, r') => if r' = [] then some ⟨1, id, ls, hs⟩ else none) else none
/-- The step that words say. -/
def stepW : List (List Int) → Option Stp
  | [] => none
  | w :: ws => match numL w with
    | none => none
    | some id => if known id = true then (if ws.head? = some [100] ∧ ws.tail ≠ [] then delW id ws.tail else addW id ws) else none
/-- The step that a line says. -/
def stepLine (l : List Int) : Option Stp := if l.getLast? = some 10 then stepW (cutAll 32 l.dropLast) else none
/-- The steps that lines say, or which line is wrong. -/
def parseGo (acc : List Stp) : List (List Int) → Except Nat (List Stp)
  | [] => .ok acc
  | l :: ls => match stepLine l with
    | none => .error (acc.length + 1)
    | some x => parseGo (acc ++ [x]) ls
def parse (s : List Int) : Except Nat (List Stp) := parseGo [] (linesL s)
end Lra
