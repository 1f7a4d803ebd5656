/- A line with no words ahead of a text moves an error's line by one, and nothing else. -/
import Derived.Test.YtlhpnkgdnmnclaaDoorPlain
namespace Dim
set_option linter.unusedVariables false

theorem cutL_line (x s : List Int) (h : ∀ c ∈ x, c ≠ 10) : cutL (x ++ 10 :: s) = x := by
  unfold cutL
  induction x with
  | nil => rfl
  | cons c x ih =>
    have hc : (c != 10) = true := by simpa using h c (by simp)
    rw [List.cons_append, List.takeWhile_cons, hc]
    simp only [if_true]
    rw [ih (fun d hd => h d (by simp [hd]))]
theorem cutR_line (x s : List Int) (h : ∀ c ∈ x, c ≠ 10) : cutR (x ++ 10 :: s) = s := by
  unfold cutR
  induction x with
  | nil => rfl
  | cons c x ih =>
    have hc : (c != 10) = true := by simpa using h c (by simp)
    rw [List.cons_append, List.dropWhile_cons, hc]
    simp only [if_true]
    exact ih (fun d hd => h d (by simp [hd]))

theorem headT_more (b : List Int) : ∀ n, headT (n + 1) b = ((headT n b).1, (headT n b).2.1, (headT n b).2.2 + 1) := by
  induction hl : b.length using Nat.strongRecOn generalizing b with
  | ind L ih =>
    intro n
    by_cases h : b = []
    · subst h; rw [headT_nil, headT_nil]
    · by_cases hw : words (cutL b) = []
      · rw [headT_skip _ b h hw, headT_skip _ b h hw]
        exact ih _ (by have := cut_lt b h; omega) (cutR b) rfl (n + 1)
      · rw [headT_stop _ b h hw, headT_stop _ b h hw]

def up (p : Nat × List Int) : Nat × List Int := (p.1 + 1, p.2)
theorem items_more (ls : List (List Int)) : ∀ n, items (n + 1) ls = (items n ls).map up := by
  induction ls with
  | nil => intro n; rfl
  | cons l ls ih =>
    intro n
    rw [items, items, List.map_append, ih (n + 1), List.map_map]
    rfl

theorem play_more (v c : Nat) (r : List (Nat × List Int)) : ∀ st, play v c st (r.map up) = match play v c st r with | .error (e, k) => .error (e, k + 1) | .ok st' => .ok st' := by
  induction r with
  | nil => intro st; rfl
  | cons p r ih =>
    intro st
    obtain ⟨k, w⟩ := p
    rw [List.map_cons, show up (k, w) = (k + 1, w) from rfl, play, play]
    cases take v c st w with
    | error e => rfl
    | ok st' => exact ih st'

theorem take_err (v c : Nat) (st : St) (w : List Int) (e : Nat) (h : take v c st w = .error e) : e ≠ 0 := by
  unfold take at h
  split at h
  · injection h with h; omega
  · split at h
    · injection h with h; omega
    · split at h
      · cases h
      · split at h
        · injection h with h; omega
        · cases h
theorem play_err (v c : Nat) (r : List (Nat × List Int)) : ∀ st e k, play v c st r = .error (e, k) → e ≠ 0 := by
  induction r with
  | nil => intro st e k h; cases h
  | cons p r ih =>
    intro st e k h
    obtain ⟨q, w⟩ := p
    rw [play] at h
    cases ht : take v c st w with
    | error x => rw [ht] at h; injection h with h; injection h with h1 h2; subst h1; exact take_err v c st w x ht
    | ok st' => rw [ht] at h; exact ih st' e k h

/-- The answer with its line moved on by one. -/
def later (a : Ans) : Ans := ⟨a.err, if a.err = 0 then 0 else a.at_ + 1, a.vars, a.cls⟩

theorem parse_line (x s : List Int) (hx : ∀ c ∈ x, c ≠ 10) (hw : words x = []) : parse (x ++ 10 :: s) = later (parse s) := by
  have h0 : headT 0 (x ++ 10 :: s) = ((headT 0 s).1, (headT 0 s).2.1, (headT 0 s).2.2 + 1) := by
    rw [headT_skip 0 _ (by simp) (by rw [cutL_line x s hx]; exact hw), cutR_line x s hx]
    exact headT_more s 0
  unfold parse
  rw [h0]
  generalize headT 0 s = t
  obtain ⟨a, b, n⟩ := t
  simp only
  cases readHead a with
  | none => rfl
  | some p =>
    obtain ⟨v, c⟩ := p
    simp only
    split
    · rfl
    · rw [items_more, play_more]
      cases hp : play v c ⟨[], [], 0⟩ (items n (lines b)) with
      | error q =>
        obtain ⟨e, k⟩ := q
        have := play_err _ _ _ _ _ _ hp
        simp [later, this]
      | ok st =>
        simp only
        split
        · simp [later]; omega
        · rfl

theorem words_none : words [] = [] := by decide
theorem words_blanks : words [32, 9, 13] = [] := by decide
theorem words_remark (r : List Int) : words (99 :: r) = [] := by simp [words, remark]
end Dim
