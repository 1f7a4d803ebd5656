/- Values that come first, plainly: rows of literals, marks, turns. -/
namespace Go.Proofs.Ytkodfojccodoaaa.Ph
set_option linter.unusedVariables false

/-- The last value that a row of literals gives v. -/
def lastV (v : Int) (L : List Int) : Option Bool := L.foldl (fun o x => if x = v ∨ x = -v then some (decide (0 < x)) else o) none
theorem lastV_nil (v : Int) : lastV v [] = none := rfl
theorem lastV_snoc (v : Int) (L : List Int) (x : Int) : lastV v (L ++ [x]) = if x = v ∨ x = -v then some (decide (0 < x)) else lastV v L := by
  unfold lastV; rw [List.foldl_append]; rfl
theorem take_snoc {l : List Int} {k : Nat} (hk : k < l.length) : l.take (k + 1) = l.take k ++ [l.getD k 0] := by
  rw [List.take_succ_eq_append_getElem hk, List.getD_eq_getElem?_getD, List.getElem?_eq_getElem hk]; rfl
theorem lastV_take {l : List Int} {k : Nat} (v : Int) (hk : k < l.length) : lastV v (l.take (k + 1)) = if l.getD k 0 = v ∨ l.getD k 0 = -v then some (decide (0 < l.getD k 0)) else lastV v (l.take k) := by
  rw [take_snoc hk, lastV_snoc]
/-- What a mark says, beside a row's number. -/
def mval (nm m : Int) : Option Bool := if m = nm ∨ m = -nm then some (decide (0 < m)) else none
/-- The variable of a literal. -/
def vr (x : Int) : Nat := x.natAbs
theorem vr_int (x : Int) : ((vr x : Nat) : Int) = max x (-x) := by unfold vr; omega
/-- Are all literals of its variables? -/
def may (n : Nat) (l : List Int) : Bool := l.all (fun x => decide (1 ≤ vr x) && decide (vr x ≤ n))
theorem may_mem {n : Nat} {l : List Int} (h : may n l = true) {k : Nat} (hk : k < l.length) : 1 ≤ vr (l.getD k 0) ∧ vr (l.getD k 0) ≤ n := by
  have := List.all_eq_true.1 h (l.getD k 0) (by rw [List.getD_eq_getElem?_getD, List.getElem?_eq_getElem hk]; exact List.getElem_mem hk)
  simpa using this
theorem may_no {n : Nat} {l : List Int} {k : Nat} (hk : k < l.length) (h : ¬ (1 ≤ vr (l.getD k 0) ∧ vr (l.getD k 0) ≤ n)) : may n l = false := by
  cases e : may n l
  · rfl
  · exact absurd (may_mem e hk) h
theorem may_all {n : Nat} {l : List Int} (h : ∀ k, k < l.length → 1 ≤ vr (l.getD k 0) ∧ vr (l.getD k 0) ≤ n) : may n l = true := by
  unfold may
  rw [List.all_eq_true]
  intro x hx
  obtain ⟨k, hk, rfl⟩ := List.mem_iff_getElem.1 hx
  have := h k hk
  rw [List.getD_eq_getElem?_getD, List.getElem?_eq_getElem hk] at this
  simpa using this
theorem may_nil (n : Nat) : may n [] = true := rfl
/-- Marks beside a number tell a row of literals. -/
structure Mk (n : Nat) (L : List Int) (nm : Int) (mk : List Int) : Prop where
  len : mk.length = n
  lo : 0 ≤ nm
  bd : ∀ u, u < n → -nm ≤ mk.getD u 0 ∧ mk.getD u 0 ≤ nm
  val : L ≠ [] → ∀ u, u < n → mval nm (mk.getD u 0) = lastV ((u : Int) + 1) L
theorem Mk.left {n : Nat} {L : List Int} {nm : Int} {mk : List Int} (h : Mk n L nm mk) : Mk n [] nm mk := ⟨h.len, h.lo, h.bd, fun e => absurd rfl e⟩
theorem Mk.new (n : Nat) : Mk n [] 0 (List.replicate n 0) := by
  refine ⟨by simp, Int.le_refl _, ?_, fun e => absurd rfl e⟩
  intro u hu
  rw [List.getD_eq_getElem?_getD, List.getElem?_replicate, if_pos hu]
  exact ⟨by simp, by simp⟩
/-- In the midst of a row that comes: k of its literals are marked. -/
structure Md (n : Nat) (l : List Int) (k : Nat) (nm : Int) (mk : List Int) : Prop where
  len : mk.length = n
  lo : 1 ≤ nm
  bd : ∀ u, u < n → -nm ≤ mk.getD u 0 ∧ mk.getD u 0 ≤ nm
  val : ∀ u, u < n → mval nm (mk.getD u 0) = lastV ((u : Int) + 1) (l.take k)
theorem Md.begin {n : Nat} {L : List Int} {nm : Int} {mk : List Int} (h : Mk n L nm mk) (l : List Int) : Md n l 0 (nm + 1) mk := by
  have := h.lo
  refine ⟨h.len, by omega, fun u hu => ?_, fun u hu => ?_⟩
  · have := h.bd u hu; omega
  · have := h.bd u hu
    rw [List.take_zero, lastV_nil, mval, if_neg (by omega)]
theorem setI (l : List Int) (u : Nat) (x : Int) (hu : u < l.length) (k : Nat) : (l.set u x).getD k 0 = if k = u then x else l.getD k 0 := by
  rw [List.getD_eq_getElem?_getD, List.getD_eq_getElem?_getD, List.getElem?_set]
  by_cases h : k = u
  · subst h; simp [hu]
  · simp [h, Ne.symm h]
/-- The mark that x gives. -/
def mark (nm x : Int) : Int := if x < 0 then -nm else nm
theorem Md.step {n : Nat} {l : List Int} {k : Nat} {nm : Int} {mk : List Int} (h : Md n l k nm mk) (hk : k < l.length) (hm : 1 ≤ vr (l.getD k 0) ∧ vr (l.getD k 0) ≤ n) :
    Md n l (k + 1) nm (mk.set (vr (l.getD k 0) - 1) (mark nm (l.getD k 0))) := by
  have hlo := h.lo
  have hlen := h.len
  have hk1 : vr (l.getD k 0) - 1 < mk.length := by omega
  have htk := fun v => lastV_take v hk
  generalize hx : l.getD k 0 = x at *
  refine ⟨by simp [hlen], hlo, fun u hu => ?_, fun u hu => ?_⟩
  · rw [setI _ _ _ hk1]
    split
    · unfold mark; split <;> omega
    · exact h.bd u hu
  · rw [setI _ _ _ hk1, htk]
    by_cases hu1 : u = vr x - 1
    · have e : x = (u : Int) + 1 ∨ x = -((u : Int) + 1) := by unfold vr at *; omega
      rw [if_pos hu1, if_pos e]
      unfold mark mval
      split
      · rw [if_pos (.inr rfl)]; congr 1; rw [decide_eq_false (by omega), decide_eq_false (by omega)]
      · rw [if_pos (.inl rfl)]; congr 1; rw [decide_eq_true (by omega), decide_eq_true (by unfold vr at *; omega)]
    · rw [if_neg hu1, if_neg (by unfold vr at *; omega)]
      exact h.val u hu
theorem Md.done {n : Nat} {l : List Int} {k : Nat} {nm : Int} {mk : List Int} (h : Md n l k nm mk) (hk : l.length ≤ k) : Mk n l nm mk := by
  refine ⟨h.len, by have := h.lo; omega, h.bd, fun _ u hu => ?_⟩
  have := h.val u hu
  rwa [List.take_of_length_le hk] at this
/-- Save. -/
def saves (l : List Int) (sv : List Bool) : List Bool := l.foldl (fun sv x => sv.set (vr x - 1) (decide (0 < x))) sv
theorem saves_len (l : List Int) (sv : List Bool) : (saves l sv).length = sv.length := by
  unfold saves
  induction l generalizing sv with
  | nil => rfl
  | cons x xs ih => simp only [List.foldl_cons]; rw [ih]; simp
theorem saves_take {l : List Int} {k : Nat} (sv : List Bool) (hk : k < l.length) : saves (l.take (k + 1)) sv = (saves (l.take k) sv).set (vr (l.getD k 0) - 1) (decide (0 < l.getD k 0)) := by
  rw [take_snoc hk]; unfold saves; rw [List.foldl_append]; rfl
theorem setB (l : List Bool) (u : Nat) (x : Bool) (hu : u < l.length) (k : Nat) : (l.set u x).getD k false = if k = u then x else l.getD k false := by
  rw [List.getD_eq_getElem?_getD, List.getD_eq_getElem?_getD, List.getElem?_set]
  by_cases h : k = u
  · subst h; simp [hu]
  · simp [h, Ne.symm h]
/-- A saved value is the last one of its variable, or what it was. -/
theorem saves_at {n : Nat} {l : List Int} {sv : List Bool} (hl : may n l = true) (hn : sv.length = n) (u : Nat) (hu : u < n) : (saves l sv).getD u false = (lastV ((u : Int) + 1) l).getD (sv.getD u false) := by
  have key : ∀ k, k ≤ l.length → (saves (l.take k) sv).getD u false = (lastV ((u : Int) + 1) (l.take k)).getD (sv.getD u false) := by
    intro k
    induction k with
    | zero => intro _; rfl
    | succ k ih =>
      intro hk
      have hm := may_mem hl (k := k) (by omega)
      rw [saves_take sv (by omega), lastV_take _ (by omega), setB _ _ _ (by rw [saves_len]; omega), ih (by omega)]
      generalize l.getD k 0 = x at *
      by_cases hu1 : u = vr x - 1
      · rw [if_pos hu1, if_pos (by unfold vr at *; omega)]; rfl
      · rw [if_neg hu1, if_neg (by unfold vr at *; omega)]
  have := key l.length (Nat.le_refl _)
  rwa [List.take_length] at this
/-- A store, plainly: the start value, what is saved, the target and the best row, the generator's state, which turn comes. -/
structure St where
  st : Bool
  sv : List Bool
  T : List Int
  B : List Int
  s : Int
  k : Nat
def dec (P : St) (v : Nat) : Bool := (lastV (v : Int) P.T).getD (P.sv.getD (v - 1) false)
def reach (P : St) (l : List Int) : St := { P with T := if P.T.length < l.length then l else P.T, B := if P.B.length < l.length then l else P.B }
def save (P : St) (l : List Int) : St := { P with sv := saves l P.sv }
end Go.Proofs.Ytkodfojccodoaaa.Ph
