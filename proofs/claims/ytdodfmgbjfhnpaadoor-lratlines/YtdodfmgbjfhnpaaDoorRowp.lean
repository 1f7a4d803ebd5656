/- Texts one behind the other, and cut short: plain lists. -/
import Derived.Test.YtdodfmgbjfhnpaaDoorBack
namespace Lra
set_option linter.unusedVariables false
/-- Nothing, or whole lines. -/
def Whole (a : List Int) : Prop := a = [] ∨ a.getLast? = some 10
instance (a : List Int) : Decidable (Whole a) := by unfold Whole; infer_instance
theorem Whole.tail {u v : List Int} (h : Whole (u ++ 10 :: v)) : Whole v := by
  rcases h with h | h
  · simp at h
  · cases v with
    | nil => exact .inl rfl
    | cons x v =>
      right
      rw [List.getLast?_append] at h
      simp at h
      exact h
theorem linesL_app : ∀ (n : Nat) (a b : List Int), a.length ≤ n → Whole a → linesL (a ++ b) = linesL a ++ linesL b := by
  intro n
  induction n with
  | zero =>
    intro a b h _
    rw [List.eq_nil_of_length_eq_zero (Nat.le_zero.1 h)]; rfl
  | succ n ih =>
    intro a b h hw
    rcases split_at 10 a with hn | ⟨u, v, hu, rfl⟩
    · rcases hw with rfl | hw
      · rfl
      · exact absurd (List.mem_of_getLast? hw) hn
    · rw [List.append_assoc, List.cons_append, linesL_at u (v ++ b) hu, linesL_at u v hu, ih v b (by simp at h; omega) hw.tail]
      rfl
theorem parseGo_shift (acc : List Stp) (ls : List (List Int)) : parseGo acc ls = (match parseGo [] ls with | .ok m => .ok (acc ++ m) | .error k => .error (acc.length + k)) := by
  induction ls generalizing acc with
  | nil => simp [parseGo]
  | cons l ls ih =>
    rw [parseGo, parseGo]
    cases stepLine l with
    | none => simp
    | some x =>
      simp only
      rw [ih (acc ++ [x]), ih ([] ++ [x])]
      cases parseGo [] ls with
      | ok m => simp
      | error k => simp; omega
theorem whole_of_ok {a : List Int} {l : List Stp} (h : parse a = .ok l) : Whole a := by
  obtain ⟨h1, _⟩ := text_parse h
  rw [h1]
  cases l with
  | nil => exact .inl rfl
  | cons s l =>
    right
    have e : I (textB (s :: l)) = ((s :: l).map (fun s => I (lineB s))).flatten := by
      rw [← linesL_text, linesL_flat]
    rw [e]
    have hne : (s :: l) ≠ [] := by simp
    have e2 : (s :: l) = (s :: l).dropLast ++ [(s :: l).getLast hne] := (List.dropLast_concat_getLast hne).symm
    rw [e2, List.map_append, List.flatten_append]
    simp only [List.map_cons, List.map_nil, List.flatten_cons, List.flatten_nil, List.append_nil]
    rw [line_I, ← List.append_assoc, List.getLast?_append]
    simp
/-- A text behind whole lines. -/
theorem parse_app_ok {a b : List Int} {l : List Stp} (h : parse a = .ok l) : parse (a ++ b) = (match parse b with | .ok m => .ok (l ++ m) | .error k => .error (l.length + k)) := by
  unfold parse at h ⊢
  rw [linesL_app _ a b (Nat.le_refl _) (whole_of_ok h), parseGo_app, h]
  exact parseGo_shift l _
theorem parse_app_err {a b : List Int} {k : Nat} (h : parse a = .error k) (hw : Whole a) : parse (a ++ b) = .error k := by
  unfold parse at h ⊢
  rw [linesL_app _ a b (Nat.le_refl _) hw, parseGo_app, h]
theorem count_no10 {u : List Int} (h : (10 : Int) ∉ u) : u.count 10 = 0 := List.count_eq_zero.2 h
theorem cut_lines : ∀ (ss : List Stp) (acc : List Stp) (k : Nat), ss.all may = true → k ≤ (I (textB ss)).length →
    (Whole ((I (textB ss)).take k) → ∃ m, parseGo acc (linesL ((I (textB ss)).take k)) = .ok m) ∧ (¬ Whole ((I (textB ss)).take k) → parseGo acc (linesL ((I (textB ss)).take k)) = .error (acc.length + ((I (textB ss)).take k).count 10 + 1)) := by
  intro ss
  induction ss with
  | nil =>
    intro acc k _ hk
    have e : (I (textB [])).take k = [] := by simp [textB, I]
    rw [e]
    exact ⟨fun _ => ⟨acc, rfl⟩, fun h => absurd (.inl rfl) h⟩
  | cons s ss ih =>
    intro acc k hm hk
    simp only [List.all_cons, Bool.and_eq_true] at hm
    have e : I (textB (s :: ss)) = (join (wordsS s) ++ [10]) ++ I (textB ss) := by
      have : textB (s :: ss) = lineB s ++ textB ss := by simp [textB]
      rw [this, I_app, line_I]
    rw [e] at hk ⊢
    have hno := line_no10 s
    generalize join (wordsS s) = u at e hk hno
    rcases Nat.lt_or_ge k (u.length + 1) with hlt | hge
    · have et : ((u ++ [10]) ++ I (textB ss)).take k = u.take k := by
        rw [List.append_assoc, List.take_append_of_le_length (by omega)]
      rw [et]
      have hn : (10 : Int) ∉ u.take k := fun h => hno (List.mem_of_mem_take h)
      constructor
      · intro hw
        rcases hw with hw | hw
        · rw [hw]; exact ⟨acc, rfl⟩
        · exact absurd (List.mem_of_getLast? hw) hn
      · intro hw
        have hne : u.take k ≠ [] := fun h => hw (.inl h)
        rw [linesL_none _ hn hne, parseGo]
        have hs : stepLine (u.take k) = none := by
          unfold stepLine
          rw [if_neg (fun h => hw (.inr h))]
        rw [hs, count_no10 hn]
    · have hl : (u ++ [10]).length = u.length + 1 := by simp
      have et : ((u ++ [10]) ++ I (textB ss)).take k = u ++ 10 :: (I (textB ss)).take (k - (u.length + 1)) := by
        rw [List.take_append, List.take_of_length_le (by omega), hl, List.append_assoc]; rfl
      have hkl : k - (u.length + 1) ≤ (I (textB ss)).length := by
        rw [List.length_append, hl] at hk; omega
      rw [et]
      obtain ⟨h1, h2⟩ := ih (acc ++ [s]) (k - (u.length + 1)) hm.2 hkl
      have hstep : stepLine (u ++ [10]) = some s := by
        have := stepLine_line s hm.1
        have e3 : I (lineB s) = u ++ [10] := by
          have e4 := e
          have : textB (s :: ss) = lineB s ++ textB ss := by simp [textB]
          rw [this, I_app] at e4
          exact List.append_cancel_right e4
        rw [e3] at this
        exact this
      rw [linesL_at u _ hno, parseGo, hstep]
      simp only
      generalize (I (textB ss)).take (k - (u.length + 1)) = p at h1 h2
      have hwt : Whole (u ++ 10 :: p) ↔ Whole p := by
        constructor
        · exact Whole.tail
        · intro h
          right
          rcases h with rfl | h
          · simp
          · rw [List.getLast?_append]
            cases p with
            | nil => cases h
            | cons x p => rw [List.getLast?_cons_cons, h]; rfl
      rw [hwt]
      refine ⟨h1, fun h => ?_⟩
      rw [h2 h]
      congr 1
      rw [List.count_append, count_no10 hno, List.count_cons_self]
      simp
      omega
theorem parseGo_err_le {ls : List (List Int)} {acc : List Stp} {k : Nat} (h : parseGo acc ls = .error k) : k ≤ acc.length + ls.length := by
  induction ls generalizing acc with
  | nil => cases h
  | cons l ls ih =>
    rw [parseGo] at h
    cases hs : stepLine l with
    | none => rw [hs] at h; cases h; simp
    | some x =>
      rw [hs] at h
      have := ih h
      simp at this ⊢
      omega
theorem parse_err_le {a : List Int} {k : Nat} (h : parse a = .error k) : k ≤ a.length := by
  have h1 := parseGo_err_le h
  have h2 := lines_few a
  simp at h1
  omega
/-- A proof's text that is cut short. -/
theorem parse_cut {a : List Int} {l : List Stp} (h : parse a = .ok l) (k : Nat) (hk : k ≤ a.length) :
    (Whole (a.take k) → ∃ m, parse (a.take k) = .ok m) ∧ (¬ Whole (a.take k) → parse (a.take k) = .error ((a.take k).count 10 + 1)) := by
  obtain ⟨h1, h2⟩ := text_parse h
  subst h1
  obtain ⟨h3, h4⟩ := cut_lines l [] k h2 hk
  exact ⟨h3, fun hw => by have := h4 hw; unfold parse; simpa using this⟩
end Lra
