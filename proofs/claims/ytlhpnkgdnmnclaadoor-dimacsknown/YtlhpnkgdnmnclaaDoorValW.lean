/- The words of a model's values are its values: plain lists. -/
import Derived.Test.YtlhpnkgdnmnclaaDoorBack
namespace Dim
set_option linter.unusedVariables false

def blank10 (c : Int) : Bool := blank c || c == 10
/-- The words between blanks and ends of lines. -/
def wn : List Int → List Int → List (List Int)
  | cur, [] => if cur = [] then [] else [cur]
  | cur, c :: cs => if blank10 c then (if cur = [] then wn [] cs else cur :: wn [] cs) else wn (cur ++ [c]) cs

theorem wn_nil (cur : List Int) : wn cur [] = if cur = [] then [] else [cur] := by rw [wn]
theorem wn_app (s : Int) (y : List Int) (hs : blank10 s = true) (x : List Int) : ∀ cur, wn cur (x ++ s :: y) = wn cur x ++ wn [] y := by
  induction x with
  | nil =>
    intro cur
    rw [List.nil_append, wn_nil]
    conv => lhs; rw [wn]
    rw [if_pos hs]
    split <;> simp
  | cons c x ih =>
    intro cur
    rw [List.cons_append, wn, wn]
    split
    · split
      · exact ih []
      · rw [ih []]; rfl
    · exact ih _
theorem wn_word (w : List Int) (h : ∀ c ∈ w, blank10 c = false) : ∀ cur, wn cur w = if cur ++ w = [] then [] else [cur ++ w] := by
  induction w with
  | nil => intro cur; rw [wn_nil]; simp
  | cons c w ih =>
    intro cur
    rw [wn, if_neg (by rw [h c (by simp)]; simp), ih (fun d hd => h d (by simp [hd]))]
    simp
theorem wn_one (w : List Int) (h : ∀ c ∈ w, blank10 c = false) (hw : w ≠ []) : wn [] w = [w] := by
  rw [wn_word w h [], List.nil_append, if_neg hw]
theorem wn_lines (b : List Int) : ∀ cur, wn cur b = wordsGo cur (cutL b) ++ wn [] (cutR b) := by
  induction b with
  | nil => intro cur; rw [wn_nil, show cutL [] = [] from rfl, show cutR [] = [] from rfl, wn_nil, wordsGo]; simp
  | cons c b ih =>
    intro cur
    by_cases hc : c = 10
    · subst hc
      rw [show cutL (10 :: b) = [] by simp [cutL], show cutR (10 :: b) = b by simp [cutR], wn, if_pos (by decide), wordsGo]
      split <;> simp
    · have e1 : cutL (c :: b) = c :: cutL b := by simp [cutL, hc]
      have e2 : cutR (c :: b) = cutR b := by simp [cutR, hc]
      have e3 : blank10 c = blank c := by simp [blank10, hc]
      rw [e1, e2, wn, wordsGo, e3]
      split
      · split
        · exact ih []
        · rw [ih []]; rfl
      · exact ih _
theorem items_words (ls : List (List Int)) : ∀ n, (items n ls).map Prod.snd = (ls.map words).flatten := by
  induction ls with
  | nil => intro n; rfl
  | cons l ls ih =>
    intro n
    rw [items, List.map_append, ih (n + 1), List.map_cons, List.flatten_cons, List.map_map]
    congr 1
    exact List.map_id _
theorem cut_mem (b : List Int) : (∀ c ∈ cutL b, c ∈ b) ∧ (∀ c ∈ cutR b, c ∈ b) := by
  exact ⟨fun c hc => (List.takeWhile_sublist _).subset hc, fun c hc => (List.dropWhile_sublist _).subset (List.mem_of_mem_tail hc)⟩
theorem lines_wn (b : List Int) (h : ∀ c ∈ b, c ≠ 99) : ((lines b).map words).flatten = wn [] b := by
  induction hl : b.length using Nat.strongRecOn generalizing b with
  | ind L ih =>
    by_cases hb : b = []
    · subst hb; rw [lines_nil, wn_nil]; rfl
    · rw [lines_cons b hb, List.map_cons, List.flatten_cons, ih _ (by have := cut_lt b hb; omega) (cutR b) (fun c hc => h c ((cut_mem b).2 c hc)) rfl, wn_lines b []]
      congr 1
      unfold words
      rw [if_neg]
      unfold remark
      cases e : cutL b with
      | nil => simp
      | cons x r =>
        have := h x ((cut_mem b).1 x (by rw [e]; simp))
        simpa using this

def isV (w : List Int) : Bool := w != [118]
theorem litL_blank (i : Int) : ∀ c ∈ litL i, blank10 c = false := by
  intro c hc
  have := itoa_chars i c hc
  unfold blank10 blank
  simp; omega
theorem litL_v (i : Int) : isV (litL i) = true := by
  unfold isV
  rw [bne_iff_ne]
  intro e
  have := itoa_chars i 118 (by show (118 : Int) ∈ litL i; rw [e]; simp)
  omega
theorem putX_words (xs : List UInt8) (l : Nat) (i : Int) : (wn [] (I (putX xs l i))).filter isV = (wn [] (I xs)).filter isV ++ [litL i] := by
  have hl := wn_one (litL i) (litL_blank i) (itoa_ne i)
  unfold putX
  split
  · have e : I (xs ++ [10] ++ [118] ++ [32] ++ Go.Lib.itoa i) = I xs ++ 10 :: ([118] ++ 32 :: litL i) := by simp [I, litL]
    rw [e, wn_app 10 _ (by decide), wn_app 32 _ (by decide), hl, List.filter_append, List.filter_append, List.filter_cons, litL_v]
    rfl
  · have e : I (xs ++ [32] ++ Go.Lib.itoa i) = I xs ++ 32 :: litL i := by simp [I, litL]
    rw [e, wn_app 32 _ (by decide), hl, List.filter_append, List.filter_cons, litL_v]
    rfl
theorem pages_words (r : List Int) : ∀ s, (wn [] (I (pages s r).1)).filter isV = (wn [] (I s.1)).filter isV ++ r.map litL := by
  induction r with
  | nil => intro s; simp [pages]
  | cons i r ih =>
    intro s
    rw [pages, ih, putX_words, List.map_cons, List.append_assoc]
    rfl
def okc99 (c : Int) : Prop := c ≠ 99
theorem putX_chars (xs : List UInt8) (l : Nat) (i : Int) (h : ∀ c ∈ I xs, c ≠ 99) : ∀ c ∈ I (putX xs l i), c ≠ 99 := by
  have hi : ∀ c ∈ I (Go.Lib.itoa i), c ≠ 99 := fun c hc => by have := itoa_chars i c hc; omega
  unfold putX
  split
  · intro c hc
    simp only [I_app, List.mem_append] at hc
    rcases hc with (((hc | hc) | hc) | hc) | hc
    · exact h c hc
    · simp [I] at hc; omega
    · simp [I] at hc; omega
    · simp [I] at hc; omega
    · exact hi c hc
  · intro c hc
    simp only [I_app, List.mem_append] at hc
    rcases hc with (hc | hc) | hc
    · exact h c hc
    · simp [I] at hc; omega
    · exact hi c hc
theorem pages_chars (r : List Int) : ∀ s, (∀ c ∈ I s.1, c ≠ 99) → ∀ c ∈ I (pages s r).1, c ≠ 99 := by
  induction r with
  | nil => intro s h; exact h
  | cons i r ih => intro s h; exact ih _ (putX_chars s.1 s.2 i h)

/-- All words of a text, in a row. -/
def allW (b : List Int) : List (List Int) := (items 0 (lines b)).map Prod.snd
theorem allW_values (m : List Bool) : (allW (I (valuesB m))).filter isV = (valInts m ++ [0]).map litL := by
  unfold allW
  rw [items_words, lines_wn]
  · unfold valuesB
    rw [I_app, show I [10] = 10 :: [] from rfl, wn_app 10 _ (by decide), wn_nil, if_pos rfl, List.append_nil, pages_words]
    rfl
  · unfold valuesB
    intro c hc
    rw [I_app] at hc
    rcases List.mem_append.1 hc with hc | hc
    · exact pages_chars _ _ (by decide) c hc
    · simp [I] at hc; omega

/-- Whether a word has no minus ahead. -/
def sg (w : List Int) : Bool := w.getD 0 0 != 45
/-- What Model reads of a row of words. -/
def rd (vars : Nat) (ws : List (List Int)) : List Bool := ((ws.filter isV).take vars).map sg
theorem sg_val (m : List Bool) (k : Nat) (h : k < m.length) : sg (litL (valI m k)) = m.getD k false := by
  unfold sg litL valI
  cases hm : m.getD k false
  · rw [if_neg (by simp), show (-((k : Int) + 1)) = -((k + 1 : Nat) : Int) by omega, itoa_negN (k + 1) (by omega)]
    rfl
  · rw [if_pos rfl, show ((k : Int) + 1) = ((k + 1 : Nat) : Int) by omega, itoa_nat]
    obtain ⟨c, r, e, h1, h2⟩ := dec_first (k + 1)
    rw [e]
    simp; omega
theorem rd_values (m : List Bool) : rd m.length (allW (I (valuesB m))) = m := by
  unfold rd
  rw [allW_values, ← List.map_take]
  have hl : (valInts m).length = m.length := by simp [valInts]
  rw [List.take_append_of_le_length (by omega), List.take_of_length_le (by omega), List.map_map]
  apply List.ext_getElem
  · simp [hl]
  · intro k h1 h2
    have hk : k < m.length := h2
    simp only [List.getElem_map, Function.comp_apply]
    rw [show (valInts m)[k]'(by omega) = valI m k by simp [valInts], sg_val m k hk]
    simp [List.getD, hk]
end Dim
