/- The line of an error is bounded by the text's length. -/
import Derived.Test.YtlhpnkgdnmnclaaDoorPlain
namespace Dim
set_option linter.unusedVariables false
theorem headT_le (b : List Int) : ∀ n, (headT n b).2.2 ≤ n + b.length + 1 ∧ (headT n b).2.1.length ≤ b.length := by
  induction hl : b.length using Nat.strongRecOn generalizing b with
  | ind L ih =>
    intro n
    by_cases h : b = []
    · subst h; rw [headT_nil]; simp
    · have h1 := cut_lt b h
      by_cases hw : words (cutL b) = []
      · rw [headT_skip _ b h hw]
        have := ih _ (by omega) (cutR b) rfl (n + 1)
        omega
      · rw [headT_stop _ b h hw]
        simp only
        omega
theorem lines_le (b : List Int) : (lines b).length ≤ b.length := by
  induction hl : b.length using Nat.strongRecOn generalizing b with
  | ind L ih =>
    by_cases h : b = []
    · subst h; rw [lines_nil]; simp
    · have h1 := cut_lt b h
      rw [lines_cons b h, List.length_cons]
      have := ih _ (by omega) (cutR b) rfl
      omega
theorem items_le (ls : List (List Int)) : ∀ n, ∀ p ∈ items n ls, p.1 ≤ n + ls.length := by
  induction ls with
  | nil => intro n p hp; cases hp
  | cons l ls ih =>
    intro n p hp
    rw [items] at hp
    rcases List.mem_append.1 hp with hp | hp
    · obtain ⟨w, _, rfl⟩ := List.mem_map.1 hp
      simp
    · have := ih (n + 1) p hp
      simp only [List.length_cons]; omega
theorem play_at (v c : Nat) (r : List (Nat × List Int)) : ∀ st e k, play v c st r = .error (e, k) → ∃ w, (k, w) ∈ r := by
  induction r with
  | nil => intro st e k h; cases h
  | cons p r ih =>
    intro st e k h
    obtain ⟨q, w⟩ := p
    rw [play] at h
    cases ht : take v c st w with
    | error x => rw [ht] at h; injection h with h; injection h with h1 h2; subst h2; exact ⟨w, by simp⟩
    | ok st' => rw [ht] at h; obtain ⟨w', hw'⟩ := ih st' e k h; exact ⟨w', by simp [hw']⟩
theorem parse_at (b : List Int) : (parse b).at_ ≤ 2 * b.length + 2 := by
  obtain ⟨h1, h2⟩ := headT_le b 0
  have h3 := lines_le (headT 0 b).2.1
  unfold parse
  split
  · simp only; omega
  · split
    · simp only; omega
    · split
      · rename_i e k hp
        obtain ⟨w, hw⟩ := play_at _ _ _ _ _ _ hp
        have := items_le _ _ _ hw
        simp only at this ⊢; omega
      · split
        · simp only; omega
        · simp only; omega
end Dim
