/- What is left of a clause, plainly. -/
import Derived.Test.YthpebfojkpnojaaJaj
/- What is left of a clause, plainly. -/
namespace Bas
theorem leftP_fst (T : List Int) : ∀ (d : List Int) (f : Int), (leftP T d f).1 = 0 ∨ (leftP T d f).1 = 1 ∨ (leftP T d f).1 = 2 := by
  intro d
  induction d with
  | nil => intro f; unfold leftP; by_cases h : f = 0 <;> simp [h]
  | cons l d ih =>
    intro f
    rw [leftP_step]
    split
    · exact ih f
    · split
      · exact .inr (.inr rfl)
      · exact ih l
theorem leftP_one (T : List Int) : ∀ (d : List Int) (f : Int), (leftP T d f).1 = 1 → (leftP T d f).2 ≠ 0 ∧ ((leftP T d f).2 = f ∨ (leftP T d f).2 ∈ d ∧ -(leftP T d f).2 ∉ T) := by
  intro d
  induction d with
  | nil => intro f; unfold leftP; by_cases h : f = 0 <;> simp [h]
  | cons l d ih =>
    intro f h
    rw [leftP_step] at h ⊢
    split at h
    · rename_i h1
      rw [if_pos h1]
      obtain ⟨a, b⟩ := ih f h
      exact ⟨a, b.imp id (fun b => ⟨List.mem_cons_of_mem _ b.1, b.2⟩)⟩
    · rename_i h1
      rw [if_neg h1]
      split at h
      · simp at h
      · rename_i h2
        rw [if_neg h2]
        obtain ⟨a, b⟩ := ih l h
        refine ⟨a, .inr ?_⟩
        rcases b with b | b
        · rw [b]; exact ⟨List.mem_cons_self .., fun e => h1 (.inr e)⟩
        · exact ⟨List.mem_cons_of_mem _ b.1, b.2⟩
theorem goP_none {F : Int → Option (List Int)} {T : List Int} {h : Int} (hs : List Int) (e : F h = none) : goP F T (h :: hs) = 60 := by rw [goP, e]
theorem goP_some {F : Int → Option (List Int)} {T d : List Int} {h : Int} (hs : List Int) (e : F h = some d) : goP F T (h :: hs) = if (leftP T d 0).1 = 0 then 0 else if (leftP T d 0).1 > 1 ∨ (leftP T d 0).2 ∈ T then 60 else goP F ((leftP T d 0).2 :: T) hs := by rw [goP, e]
end Bas

