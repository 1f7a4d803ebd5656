/- What a text of a formula says: its lines, their words, the numbers; plain functions over rows of bytes. -/
import Init
namespace Dim
set_option linter.unusedVariables false

def blank (c : Int) : Bool := c == 32 || c == 9 || c == 13

def wordsGo : List Int → List Int → List (List Int)
  | cur, [] => if cur = [] then [] else [cur]
  | cur, c :: cs => if blank c then (if cur = [] then wordsGo [] cs else cur :: wordsGo [] cs) else wordsGo (cur ++ [c]) cs
def remark (l : List Int) : Bool := l.head? == some 99
def words (l : List Int) : List (List Int) := if remark l then [] else wordsGo [] l

def cutL (b : List Int) : List Int := b.takeWhile (fun c => c != 10)
def cutR (b : List Int) : List Int := (b.dropWhile (fun c => c != 10)).tail

theorem cut_len (b : List Int) : (cutR b).length ≤ b.length - 1 := by
  unfold cutR
  have h : (b.dropWhile (fun c => c != 10)).length ≤ b.length := by
    induction b with
    | nil => simp
    | cons c cs ih => simp only [List.dropWhile_cons]; split <;> simp <;> omega
  simp
  omega
theorem cut_lt (b : List Int) (h : b ≠ []) : (cutR b).length < b.length := by
  have := cut_len b
  have : 0 < b.length := List.length_pos_iff.2 h
  omega

def lines (b : List Int) : List (List Int) := if h : b = [] then [] else cutL b :: lines (cutR b)
termination_by b.length
decreasing_by exact cut_lt b h

theorem lines_nil : lines [] = [] := by rw [lines]; simp
theorem lines_cons (b : List Int) (h : b ≠ []) : lines b = cutL b :: lines (cutR b) := by rw [lines]; simp [h]

/-- The words of all lines, each with its line's number, the first line's being n + 1. -/
def items (n : Nat) : List (List Int) → List (Nat × List Int)
  | [] => []
  | l :: ls => (words l).map (fun w => (n + 1, w)) ++ items (n + 1) ls

/-- The first line that has words, what is behind it, its number. -/
def headT (n : Nat) (b : List Int) : List Int × List Int × Nat :=
  if h : b = [] then ([], [], n + 1) else if words (cutL b) = [] then headT (n + 1) (cutR b) else (cutL b, cutR b, n + 1)
termination_by b.length
decreasing_by exact cut_lt b h

theorem headT_nil (n : Nat) : headT n [] = ([], [], n + 1) := by rw [headT]; simp
theorem headT_skip (n : Nat) (b : List Int) (h : b ≠ []) (hw : words (cutL b) = []) : headT n b = headT (n + 1) (cutR b) := by rw [headT]; simp [h, hw]
theorem headT_stop (n : Nat) (b : List Int) (h : b ≠ []) (hw : words (cutL b) ≠ []) : headT n b = (cutL b, cutR b, n + 1) := by rw [headT]; simp [h, hw]

def digit (c : Int) : Bool := decide (48 ≤ c) && decide (c ≤ 57)
def valGo (n : Nat) : List Int → Nat
  | [] => n
  | c :: cs => valGo (10 * n + (c - 48).toNat) cs
def isNum (w : List Int) : Bool := !(w.length == 0 || (decide (1 < w.length) && w.getD 0 0 == 48)) && w.all digit
def number (w : List Int) : Option Nat := if isNum w then some (valGo 0 w) else none
def sat (n : Nat) : Nat := min n 1048577
def numV (w : List Int) : Int := if isNum w then (sat (valGo 0 w) : Int) else 0
def signed (w : List Int) : Option (Bool × Nat) :=
  if w.head? = some 45 then (match number w.tail with | some n => if n = 0 then none else some (true, n) | none => none)
  else (number w).map (fun n => (false, n))

structure St where
  cls : List (List Int)
  opn : List Int
  lits : Nat

def take (vars clauses : Nat) (st : St) (w : List Int) : Except Nat St :=
  match signed w with
  | none => .error 21
  | some (m, n) =>
    if st.cls.length = clauses then .error 24
    else if n = 0 then .ok ⟨st.cls ++ [st.opn], [], st.lits⟩
    else if vars < n ∨ st.lits = 16777216 then .error 22
    else .ok ⟨st.cls, st.opn ++ [if m then -(n : Int) else n], st.lits + 1⟩

def play (vars clauses : Nat) (st : St) : List (Nat × List Int) → Except (Nat × Nat) St
  | [] => .ok st
  | (k, w) :: r => match take vars clauses st w with
    | .error e => .error (e, k)
    | .ok st' => play vars clauses st' r

def readHead (l : List Int) : Option (Nat × Nat) :=
  match words l with
  | [p, c, a, b] => if p = [112] ∧ c = [99, 110, 102] then (match number a, number b with | some x, some y => some (x, y) | _, _ => none) else none
  | _ => none

structure Ans where
  err : Nat
  at_ : Nat
  vars : Nat
  cls : List (List Int)

def parse (b : List Int) : Ans :=
  match readHead (headT 0 b).1 with
  | none => ⟨20, (headT 0 b).2.2, 0, []⟩
  | some (v, c) =>
    if 1048576 < v ∨ 1048576 < c then ⟨22, (headT 0 b).2.2, 0, []⟩
    else match play v c ⟨[], [], 0⟩ (items (headT 0 b).2.2 (lines (headT 0 b).2.1)) with
      | .error (e, k) => ⟨e, k, 0, []⟩
      | .ok st => if st.cls.length < c then ⟨23, (headT 0 b).2.2 + (lines (headT 0 b).2.1).length + 1, 0, []⟩ else ⟨0, 0, v, st.cls⟩

/-! ### words -/
theorem drop_eq_cons {α : Type} {L : List α} {k : Nat} {x : α} {r : List α} (h : L.drop k = x :: r) : k < L.length ∧ L[k]? = some x ∧ L.drop (k + 1) = r := by
  have hk : k < L.length := by
    rcases Nat.lt_or_ge k L.length with h' | h'
    · exact h'
    · rw [List.drop_eq_nil_of_le h'] at h; cases h
  rw [List.drop_eq_getElem_cons hk] at h
  injection h with h1 h2
  exact ⟨hk, by rw [List.getElem?_eq_getElem hk, h1], h2⟩

theorem wordsGo_ne (cur : List Int) (l : List Int) : ∀ w ∈ wordsGo cur l, w ≠ [] := by
  induction l generalizing cur with
  | nil => intro w hw; unfold wordsGo at hw; split at hw <;> simp_all
  | cons c cs ih =>
    intro w hw
    unfold wordsGo at hw
    split at hw
    · split at hw
      · exact ih _ w hw
      · rcases List.mem_cons.1 hw with h | h
        · subst h; assumption
        · exact ih _ w h
    · exact ih _ w hw
theorem words_ne (l : List Int) : ∀ w ∈ words l, w ≠ [] := by
  intro w hw
  unfold words at hw
  split at hw
  · cases hw
  · exact wordsGo_ne _ _ w hw

/-- A word that is under way: from b up to i. -/
def cur (l : List Int) (b i : Nat) : List Int := (l.drop b).take (i - b)
theorem cur_self (l : List Int) (b : Nat) : cur l b b = [] := by simp [cur]
theorem cur_len (l : List Int) (b i : Nat) (h : i ≤ l.length) (hb : b ≤ i) : (cur l b i).length = i - b := by simp [cur]; omega
theorem cur_nil (l : List Int) (b i : Nat) (h : i ≤ l.length) (hb : b ≤ i) : cur l b i = [] ↔ b = i := by
  constructor
  · intro h'; have := cur_len l b i h hb; rw [h'] at this; simp at this; omega
  · rintro rfl; exact cur_self l b
theorem cur_snoc (l : List Int) (b i : Nat) (h : i < l.length) (hb : b ≤ i) : cur l b (i + 1) = cur l b i ++ [l.getD i 0] := by
  unfold cur
  rw [show i + 1 - b = (i - b) + 1 by omega, List.take_add_one, List.getElem?_drop, show b + (i - b) = i by omega, List.getElem?_eq_getElem h]
  simp [List.getD, List.getElem?_eq_getElem h]
theorem drop_at (l : List Int) (i : Nat) (h : i < l.length) : l.drop i = l.getD i 0 :: l.drop (i + 1) := by
  rw [List.drop_eq_getElem_cons h]; simp [List.getD, h]
theorem cur_get (l : List Int) (b i j : Nat) (hi : i ≤ l.length) (hj : j < i - b) : (cur l b i).getD j 0 = l.getD (b + j) 0 := by
  simp [cur, List.getD, hj]

theorem wordsGo_blank (c : Int) (cs cu : List Int) (h : blank c = true) (hc : cu ≠ []) : wordsGo cu (c :: cs) = cu :: wordsGo [] cs := by rw [wordsGo, if_pos h, if_neg hc]
theorem wordsGo_blank0 (c : Int) (cs : List Int) (h : blank c = true) : wordsGo [] (c :: cs) = wordsGo [] cs := by rw [wordsGo, if_pos h, if_pos rfl]
theorem wordsGo_on (c : Int) (cs cu : List Int) (h : blank c = false) : wordsGo cu (c :: cs) = wordsGo (cu ++ [c]) cs := by rw [wordsGo, if_neg (by simp [h])]
theorem wordsGo_end (cu : List Int) (hc : cu ≠ []) : wordsGo cu [] = [cu] := by rw [wordsGo, if_neg hc]
theorem wordsGo_end0 : wordsGo [] [] = [] := by rw [wordsGo, if_pos rfl]

/-! ### numbers -/
theorem valGo_snoc (n : Nat) (w : List Int) (c : Int) : valGo n (w ++ [c]) = 10 * valGo n w + (c - 48).toNat := by
  induction w generalizing n with
  | nil => simp [valGo]
  | cons x xs ih => simp [valGo, ih]
theorem take_snoc (xs : List Int) (k : Nat) (h : k < xs.length) : xs.take (k + 1) = xs.take k ++ [xs.getD k 0] := by
  rw [List.take_succ_eq_append_getElem h]; simp [List.getD, List.getElem?_eq_getElem h]
theorem getD_mem (xs : List Int) (k : Nat) (h : k < xs.length) : xs.getD k 0 ∈ xs := by simp [List.getD, List.getElem?_eq_getElem h]
theorem sat_step (n : Nat) (c : Int) (h1 : 48 ≤ c) (h2 : c ≤ 57) : (sat (10 * n + (c - 48).toNat) : Int) = min (10 * (sat n : Int) + (c - 48)) 1048577 := by
  unfold sat
  omega
theorem sat_gt (n v : Nat) (h : v ≤ 1048576) : v < sat n ↔ v < n := by unfold sat; omega
theorem sat_zero (n : Nat) : sat n = 0 ↔ n = 0 := by unfold sat; omega
theorem sat_of_le (n : Nat) (h : n ≤ 1048576) : sat n = n := by unfold sat; omega

theorem numV_no {w : List Int} (h : isNum w = false) : numV w = 0 := by simp [numV, h]
theorem numV_yes {w : List Int} (h : isNum w = true) : numV w = sat (valGo 0 w) := by simp [numV, h]
theorem isNum_of {w : List Int} (h0 : 0 < w.length) (h1 : ¬ (1 < w.length ∧ w.getD 0 0 = 48)) (h : ∀ x ∈ w, digit x = true) : isNum w = true := by
  unfold isNum
  have e1 : (w.length == 0) = false := by rw [beq_eq_false_iff_ne]; omega
  have e2 : (decide (1 < w.length) && w.getD 0 0 == 48) = false := by
    cases hh : (decide (1 < w.length) && w.getD 0 0 == 48)
    · rfl
    · simp only [Bool.and_eq_true, decide_eq_true_eq, beq_iff_eq] at hh; exact absurd hh h1
  rw [e1, e2, List.all_eq_true.2 h]
  rfl
theorem isNum_lead {w : List Int} (h1 : 1 < w.length) (h : w.getD 0 0 = 48) : isNum w = false := by
  unfold isNum
  have : (decide (1 < w.length) && w.getD 0 0 == 48) = true := by rw [h]; simp [h1]
  rw [this]; simp
theorem isNum_digit {w : List Int} {k : Nat} (hk : k < w.length) (h : digit (w.getD k 0) = false) : isNum w = false := by
  unfold isNum
  have : w.all digit = false := by
    cases e : w.all digit
    · rfl
    · have := List.all_eq_true.1 e _ (getD_mem w k hk); rw [h] at this; cases this
  rw [this]; simp

end Dim
