/- What a text of steps says: bounds, and line by line; plain. -/
import Derived.Test.YtdodfmgbjfhnpaaDoorSpec
namespace Lra
set_option linter.unusedVariables false
theorem cutAll_len (c : Int) (xs : List Int) : (cutAll c xs).length ≤ xs.length + 1 := by
  induction xs with
  | nil => simp [cutAll]
  | cons x xs ih =>
    unfold cutAll
    split
    · simp; exact ih
    · split
      · simp
      · next h => rw [h] at ih; simp at ih ⊢; omega
theorem listW_len {chk : Int → Bool} : ∀ {ws : List (List Int)} {xs : List Int} {r : List (List Int)}, listW chk ws = some (xs, r) → xs.length + 1 + r.length = ws.length ∧ ∀ x ∈ xs, chk x = true := by
  intro ws
  induction ws with
  | nil => intro xs r h; cases h
  | cons w ws ih =>
    intro xs r h
    unfold listW at h
    split at h
    · cases h
    · next n hn =>
      split at h
      · cases h; exact ⟨by simp; omega, fun x hx => by cases hx⟩
      · split at h
        · next hc =>
          split at h
          · cases h
          · next ys r' hl =>
            cases h
            obtain ⟨h1, h2⟩ := ih hl
            refine ⟨by simp; omega, fun x hx => ?_⟩
            rcases List.mem_cons.1 hx with rfl | hx
            · exact hc
            · exact h2 x hx
        · cases h
theorem stepW_good {ws : List (List Int)} {x : Stp} (h : stepW ws = some x) : x.lits.length + x.hints.length + 1 ≤ ws.length ∧ may x = true := by
  cases ws with
  | nil => cases h
  | cons w ws =>
    rw [stepW] at h
    split at h
    · cases h
    · next id hn =>
      split at h
      · next hk =>
        split at h
        · next hd =>
          unfold delW at h
          split at h
          · cases h
          · next xs r hl =>
            split at h
            · cases h
              obtain ⟨h1, h2⟩ := listW_len hl
              have : ws.tail.length ≤ ws.length := by simp
              refine ⟨by simp; omega, ?_⟩
              unfold may
              rw [if_neg (by simp), if_pos rfl]
              simp [hk]; exact h2
            · cases h
        · unfold addW at h
          split at h
          · next ha =>
            split at h
            · cases h
            · next ls r hl =>
              split at h
              · cases h
              · next hs r' hl' =>
                split at h
                · cases h
                  obtain ⟨h1, h2⟩ := listW_len hl
                  obtain ⟨h3, h4⟩ := listW_len hl'
                  refine ⟨by simp; omega, ?_⟩
                  unfold may
                  rw [if_pos rfl]
                  simp [ha]; exact ⟨h2, h4⟩
                · cases h
          · cases h
      · cases h
theorem stepLine_good {l : List Int} {x : Stp} (h : stepLine l = some x) : x.lits.length + x.hints.length ≤ l.length ∧ may x = true := by
  unfold stepLine at h
  split at h
  · obtain ⟨h1, h2⟩ := stepW_good h
    have h3 := cutAll_len 32 l.dropLast
    rw [List.length_dropLast] at h3
    exact ⟨by omega, h2⟩
  · cases h
theorem parseGo_app (acc : List Stp) (ls ms : List (List Int)) : parseGo acc (ls ++ ms) = (match parseGo acc ls with | .error e => .error e | .ok ss => parseGo ss ms) := by
  induction ls generalizing acc with
  | nil => rfl
  | cons l ls ih =>
    rw [List.cons_append, parseGo, parseGo]
    cases stepLine l with
    | none => rfl
    | some x => exact ih _
theorem parseGo_ok {acc ss : List Stp} {ls : List (List Int)} (h : parseGo acc ls = .ok ss) : ss.length = acc.length + ls.length ∧ items ss ≤ items acc + (ls.map List.length).sum ∧ (acc.all may = true → ss.all may = true) := by
  induction ls generalizing acc with
  | nil => cases h; exact ⟨rfl, by simp, fun h => h⟩
  | cons l ls ih =>
    rw [parseGo] at h
    cases hs : stepLine l with
    | none => rw [hs] at h; cases h
    | some x =>
      rw [hs] at h
      obtain ⟨h1, h2, h3⟩ := ih h
      obtain ⟨g1, g2⟩ := stepLine_good hs
      have e : items (acc ++ [x]) = items acc + (x.lits.length + x.hints.length) := by simp [items]
      refine ⟨by simp at h1 ⊢; omega, by rw [e] at h2; simp; omega, fun ha => h3 (by rw [List.all_append, ha]; simp [g2])⟩
theorem linesL_flat (s : List Int) : (linesL s).flatten = s := by
  induction s with
  | nil => rfl
  | cons x xs ih =>
    unfold linesL
    split
    · simp [ih]
    · split
      · next h => rw [h] at ih; simp at ih; subst ih; rfl
      · next h => rw [h] at ih; simp at ih ⊢; exact ih
theorem flat_sum (ls : List (List Int)) : (ls.map List.length).sum = ls.flatten.length := by simp [List.length_flatten]
theorem sum_take (ls : List (List Int)) (k : Nat) : ((ls.take k).map List.length).sum ≤ ls.flatten.length := by
  rw [flat_sum]
  conv => rhs; rw [← List.take_append_drop k ls, List.flatten_append, List.length_append]
  omega
theorem may_fits {s : Stp} (h : may s = true) : (s.kind = 1 ∨ s.kind = 2) ∧ (0 ≤ s.id ∧ s.id ≤ 4611686018427387903) ∧ (∀ x ∈ s.lits, -1048576 ≤ x ∧ x ≤ 1048576) ∧ (∀ x ∈ s.hints, -4611686018427387903 ≤ x ∧ x ≤ 4611686018427387903) := by
  unfold may at h
  split at h
  · next hk =>
    simp only [Bool.and_eq_true, List.all_eq_true] at h
    obtain ⟨h1, h2, h3⟩ := h
    refine ⟨.inl hk, ?_, fun x hx => ?_, fun x hx => ?_⟩
    · unfold added at h1; simp at h1; omega
    · have := h2 x hx; unfold literal at this; simp at this; omega
    · have := h3 x hx; unfold hint at this; simp at this; omega
  · split at h
    · next hk =>
      simp only [Bool.and_eq_true, List.all_eq_true] at h
      obtain ⟨h1, h2, h3⟩ := h
      refine ⟨.inr hk, ?_, fun x hx => ?_, fun x hx => ?_⟩
      · unfold known at h1; simp at h1; omega
      · rw [List.isEmpty_iff.1 h2] at hx; cases hx
      · have := h3 x hx; unfold added at this; simp at this; omega
    · cases h
end Lra
