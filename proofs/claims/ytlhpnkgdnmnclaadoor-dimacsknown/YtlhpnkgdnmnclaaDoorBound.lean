/- What a text's formula is bounded by. -/
import Derived.Test.YtlhpnkgdnmnclaaDoorPlain
namespace Dim
set_option linter.unusedVariables false
def Fit (c : Nat) (st : St) : Prop := st.cls.flatten.length + st.opn.length = st.lits ∧ st.lits ≤ 16777216 ∧ st.cls.length ≤ c

theorem take_fit (v c : Nat) (st st' : St) (w : List Int) (h : take v c st w = .ok st') (hf : Fit c st) : Fit c st' := by
  obtain ⟨h1, h2, h3⟩ := hf
  unfold take at h
  split at h
  · cases h
  · split at h
    · cases h
    · rename_i hne
      split at h
      · injection h with h; subst h; refine ⟨?_, h2, ?_⟩
        · simp at h1 ⊢; omega
        · simp; omega
      · split at h
        · cases h
        · rename_i hor
          injection h with h; subst h
          refine ⟨?_, ?_, h3⟩
          · simp at h1 ⊢; omega
          · simp at hor ⊢; omega

theorem play_fit (v c : Nat) (r : List (Nat × List Int)) : ∀ st st', play v c st r = .ok st' → Fit c st → Fit c st' := by
  induction r with
  | nil => intro st st' h hf; injection h with h; subst h; exact hf
  | cons p r ih =>
    intro st st' h hf
    obtain ⟨q, w⟩ := p
    rw [play] at h
    cases ht : take v c st w with
    | error x => rw [ht] at h; cases h
    | ok s1 => rw [ht] at h; exact ih s1 st' h (take_fit v c st s1 w ht hf)

theorem parse_fit (b : List Int) : (parse b).cls.length ≤ 1048576 ∧ (parse b).cls.flatten.length ≤ 16777216 := by
  unfold parse
  split
  · simp
  · split
    · simp
    · rename_i h
      split
      · simp
      · rename_i st hp
        split
        · simp
        · obtain ⟨h1, h2, h3⟩ := play_fit _ _ _ _ _ hp ⟨by simp, by simp, by simp⟩
          exact ⟨by simp only; omega, by simp only; omega⟩
theorem mem_flat_le (cs : List (List Int)) (c : List Int) (h : c ∈ cs) : c.length ≤ cs.flatten.length := by
  induction cs with
  | nil => cases h
  | cons d cs ih =>
    rw [List.flatten_cons, List.length_append]
    rcases List.mem_cons.1 h with rfl | h
    · omega
    · have := ih h; omega
end Dim
