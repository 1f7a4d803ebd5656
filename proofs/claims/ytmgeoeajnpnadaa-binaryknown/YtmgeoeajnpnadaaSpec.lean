/- What bytes say: numbers, rows, steps; there and back; plain. -/
import Derived.Test.YtmgeoeajnpnadaaRefW
namespace Bin
set_option linter.unusedVariables false

def Byt (xs : List Int) : Prop := ∀ x ∈ xs, 0 ≤ x ∧ x < 256
theorem Byt.tail {x : Int} {xs : List Int} (h : Byt (x :: xs)) : Byt xs := fun y hy => h y (List.mem_cons_of_mem _ hy)
theorem Byt.drop {xs : List Int} (h : Byt xs) (k : Nat) : Byt (xs.drop k) := fun y hy => h y (List.mem_of_mem_drop hy)
theorem Byt.take {xs : List Int} (h : Byt xs) (k : Nat) : Byt (xs.take k) := fun y hy => h y (List.mem_of_mem_take hy)
theorem Byt.right {xs ys : List Int} (h : Byt (xs ++ ys)) : Byt ys := fun y hy => h y (List.mem_append_right _ hy)
theorem Byt.left {xs ys : List Int} (h : Byt (xs ++ ys)) : Byt xs := fun y hy => h y (List.mem_append_left _ hy)
/-- The code at the head, at most f bytes of it, and what is behind it. -/
def get : Nat → List Int → Option (Nat × List Int)
  | 0, _ => none
  | _ + 1, [] => none
  | f + 1, x :: xs => if x < 128 then some (x.toNat, xs) else match get f xs with
    | none => none
    | some (c, r) => if c = 0 then none else some ((x - 128).toNat + 128 * c, r)
theorem get_put : ∀ (f c : Nat) (r : List Int), c < 128 ^ (f + 1) → get (f + 1) (bytes7 c ++ r) = some (c, r) := by
  intro f
  induction f with
  | zero =>
    intro c r h
    have hc : c < 128 := by simpa using h
    rw [bytes7_lt hc, List.singleton_append, get, if_pos (by omega)]
    simp
  | succ f ih =>
    intro c r h
    by_cases hc : c < 128
    · rw [bytes7_lt hc, List.singleton_append, get, if_pos (by omega)]
      simp
    · rw [bytes7_ge hc, List.cons_append, get, if_neg (by omega), ih (c / 128) r (by rw [Nat.pow_succ] at h; omega)]
      simp only
      rw [if_neg (by omega)]
      congr 2
      omega
theorem get_back : ∀ (f : Nat) (xs : List Int) (c : Nat) (r : List Int), Byt xs → get f xs = some (c, r) → xs = bytes7 c ++ r ∧ c < 128 ^ f := by
  intro f
  induction f with
  | zero => intro xs c r _ h; rw [get] at h; cases h
  | succ f ih =>
    intro xs c r hx h
    cases xs with
    | nil => rw [get] at h; cases h
    | cons x xs =>
      rw [get] at h
      have hx0 := hx x (by simp)
      have hp : 128 ^ (f + 1) = 128 ^ f * 128 := Nat.pow_succ ..
      have hp1 : 0 < 128 ^ f := Nat.pow_pos (by decide)
      split at h
      · next hlt =>
        cases h
        rw [bytes7_lt (by omega)]
        refine ⟨?_, by omega⟩
        rw [List.singleton_append]
        congr 1
        omega
      · next hge =>
        cases hg : get f xs with
        | none => rw [hg] at h; cases h
        | some p =>
          obtain ⟨c', r'⟩ := p
          rw [hg] at h
          simp only at h
          split at h
          · cases h
          · next hc0 =>
            cases h
            obtain ⟨h1, h2⟩ := ih xs c' r hx.tail hg
            rw [bytes7_ge (by omega), show ((x - 128).toNat + 128 * c') / 128 = c' by omega, show (((x - 128).toNat + 128 * c') % 128 + 128 : Nat) = x.toNat by omega, List.cons_append, ← h1]
            exact ⟨by congr 1; omega, by omega⟩
def numOf (c : Nat) : Int := if c % 2 = 1 then -((c / 2 : Nat) : Int) else ((c / 2 : Nat) : Int)
/-- The number at the head. -/
def numR (xs : List Int) : Option (Int × List Int) := match get 9 xs with
  | none => none
  | some (c, r) => if c = 1 then none else some (numOf c, r)
theorem numOf_code (n : Int) : numOf (code n) = n ∧ code n ≠ 1 := by
  unfold numOf code
  by_cases h : n < 0
  · rw [if_pos h, if_pos (by omega)]; constructor <;> omega
  · rw [if_neg h, if_neg (by omega)]; constructor <;> omega
theorem code_numOf {c : Nat} (h : c ≠ 1) : code (numOf c) = c := by
  unfold numOf code
  by_cases h2 : c % 2 = 1
  · rw [if_pos h2, if_pos (by omega)]; omega
  · rw [if_neg h2, if_neg (by omega)]; omega
theorem numR_put {n : Int} (r : List Int) (h0 : -4611686018427387903 ≤ n) (h1 : n ≤ 4611686018427387903) : numR (num n ++ r) = some (n, r) := by
  unfold numR num
  rw [get_put 8 (code n) r (by have := code_le h0 h1; omega)]
  simp only
  rw [if_neg (numOf_code n).2, (numOf_code n).1]
theorem numR_back {xs r : List Int} {n : Int} (hx : Byt xs) (h : numR xs = some (n, r)) : xs = num n ++ r ∧ -4611686018427387903 ≤ n ∧ n ≤ 4611686018427387903 := by
  unfold numR at h
  cases hg : get 9 xs with
  | none => rw [hg] at h; cases h
  | some p =>
    obtain ⟨c, r'⟩ := p
    rw [hg] at h
    simp only at h
    split at h
    · cases h
    · next hc =>
      cases h
      obtain ⟨h1, h2⟩ := get_back 9 xs c r hx hg
      unfold num
      rw [code_numOf hc]
      refine ⟨h1, ?_⟩
      unfold numOf
      split <;> omega
theorem bytes7_ne (c : Nat) : bytes7 c ≠ [] := by
  by_cases h : c < 128
  · rw [bytes7_lt h]; simp
  · rw [bytes7_ge h]; simp
theorem num_pos (n : Int) : 1 ≤ (num n).length := by
  unfold num
  have := bytes7_ne (code n)
  cases h : bytes7 (code n) with
  | nil => exact absurd h this
  | cons x xs => simp
theorem num_zero : num 0 = [0] := by
  unfold num
  rw [show code 0 = 0 from rfl, bytes7_lt (by decide)]; rfl
theorem num_byt (n : Int) : Byt (num n) := bytes7_byte _
theorem row_byt (l : List Int) : Byt (row l) := fun x hx => by
  unfold row at hx
  obtain ⟨n, _, hn⟩ := List.mem_flatMap.1 hx
  exact num_byt n x hn
/-- A row of numbers up to its 0, each as chk asks, and what is behind it. -/
def rowR (chk : Int → Bool) : Nat → List Int → Option (List Int × List Int)
  | 0, _ => none
  | f + 1, xs => match numR xs with
    | none => none
    | some (n, r) => if n = 0 then some ([], r) else if chk n = true then (match rowR chk f r with | none => none | some (l, r') => some (n :: l, r')) else none
theorem rowR_put {chk : Int → Bool} : ∀ (l r : List Int) (f : Nat), l.length < f → l.all chk = true → (∀ x ∈ l, x ≠ 0 ∧ -4611686018427387903 ≤ x ∧ x ≤ 4611686018427387903) → rowR chk f (row l ++ (0 :: r)) = some (l, r) := by
  intro l
  induction l with
  | nil =>
    intro r f hf _ _
    obtain ⟨g, rfl⟩ : ∃ g, f = g + 1 := ⟨f - 1, by simp at hf; omega⟩
    rw [row_nil, List.nil_append, rowR, show (0 :: r : List Int) = num 0 ++ r by rw [num_zero]; rfl, numR_put r (by decide) (by decide)]
    simp
  | cons n l ih =>
    intro r f hf ha hb
    obtain ⟨g, rfl⟩ : ∃ g, f = g + 1 := ⟨f - 1, by simp at hf; omega⟩
    have e : row (n :: l) = num n ++ row l := by simp [row]
    have hn := hb n (by simp)
    simp only [List.all_cons, Bool.and_eq_true] at ha
    rw [e, List.append_assoc, rowR, numR_put _ hn.2.1 hn.2.2]
    simp only
    rw [if_neg hn.1, if_pos ha.1, ih r g (by simp at hf; omega) ha.2 (fun x hx => hb x (by simp [hx]))]
theorem rowR_back {chk : Int → Bool} : ∀ (f : Nat) (xs l r : List Int), Byt xs → rowR chk f xs = some (l, r) → xs = row l ++ (0 :: r) ∧ l.all chk = true ∧ (∀ x ∈ l, x ≠ 0 ∧ -4611686018427387903 ≤ x ∧ x ≤ 4611686018427387903) := by
  intro f
  induction f with
  | zero => intro xs l r _ h; rw [rowR] at h; cases h
  | succ f ih =>
    intro xs l r hx h
    rw [rowR] at h
    cases hn : numR xs with
    | none => rw [hn] at h; cases h
    | some p =>
      obtain ⟨n, r1⟩ := p
      rw [hn] at h
      simp only at h
      obtain ⟨e1, e2, e3⟩ := numR_back hx hn
      split at h
      · next h0 =>
        cases h
        subst h0
        refine ⟨?_, rfl, by simp⟩
        rw [e1, num_zero, row_nil]; rfl
      · next h0 =>
        split at h
        · next hc =>
          cases hr : rowR chk f r1 with
          | none => rw [hr] at h; cases h
          | some p =>
            obtain ⟨l', r'⟩ := p
            rw [hr] at h
            cases h
            obtain ⟨g1, g2, g3⟩ := ih r1 l' r (by rw [e1] at hx; exact hx.right) hr
            have e : row (n :: l') = num n ++ row l' := by simp [row]
            refine ⟨by rw [e, List.append_assoc, ← g1]; exact e1, by simp [hc]; simpa using g2, ?_⟩
            intro x hx'
            rcases List.mem_cons.1 hx' with rfl | hx'
            · exact ⟨h0, e2, e3⟩
            · exact g3 x hx'
        · cases h
/-- More fuel changes nothing. -/
theorem rowR_fuel {chk : Int → Bool} : ∀ (f g : Nat) (xs : List Int), Byt xs → xs.length < f → xs.length < g → rowR chk f xs = rowR chk g xs := by
  intro f
  induction f with
  | zero => intro g xs _ h; omega
  | succ f ih =>
    intro g xs hx hf hg
    obtain ⟨g', rfl⟩ : ∃ g', g = g' + 1 := ⟨g - 1, by omega⟩
    rw [rowR, rowR]
    cases hn : numR xs with
    | none => rfl
    | some p =>
      obtain ⟨n, r1⟩ := p
      simp only
      obtain ⟨e1, _⟩ := numR_back hx hn
      have hp := num_pos n
      have hl : xs.length = (num n).length + r1.length := by rw [e1, List.length_append]
      rw [ih g' r1 (by rw [e1] at hx; exact hx.right) (by omega) (by omega)]
/-- A row that all of the bytes may be read for. -/
def rowF (chk : Int → Bool) (xs : List Int) : Option (List Int × List Int) := rowR chk (xs.length + 1) xs
theorem rowF_step {chk : Int → Bool} {xs : List Int} (hx : Byt xs) : rowF chk xs = match numR xs with
    | none => none
    | some (n, r) => if n = 0 then some ([], r) else if chk n = true then (match rowF chk r with | none => none | some (l, r') => some (n :: l, r')) else none := by
  unfold rowF
  rw [rowR]
  cases hn : numR xs with
  | none => rfl
  | some p =>
    obtain ⟨n, r1⟩ := p
    simp only
    obtain ⟨e1, _⟩ := numR_back hx hn
    have hp := num_pos n
    have hl : xs.length = (num n).length + r1.length := by rw [e1, List.length_append]
    rw [rowR_fuel xs.length (r1.length + 1) r1 (by rw [e1] at hx; exact hx.right) (by omega) (by omega)]
theorem row_ge (l : List Int) : l.length ≤ (row l).length := by
  induction l with
  | nil => simp
  | cons n l ih =>
    have e : row (n :: l) = num n ++ row l := by simp [row]
    have := num_pos n
    rw [e, List.length_append, List.length_cons]; omega
theorem rowF_put {chk : Int → Bool} (l r : List Int) (h : l.all chk = true) (hb : ∀ x ∈ l, x ≠ 0 ∧ -4611686018427387903 ≤ x ∧ x ≤ 4611686018427387903) : rowF chk (row l ++ (0 :: r)) = some (l, r) :=
  rowR_put l r _ (by have := row_ge l; rw [List.length_append]; omega) h hb
theorem rowF_back {chk : Int → Bool} {xs l r : List Int} (hx : Byt xs) (h : rowF chk xs = some (l, r)) : xs = row l ++ (0 :: r) ∧ l.all chk = true ∧ (∀ x ∈ l, x ≠ 0 ∧ -4611686018427387903 ≤ x ∧ x ≤ 4611686018427387903) := rowR_back _ xs l r hx h
/-- The step at the head, and what is behind it. -/
def addR (xs : List Int) : Option (Lra.Stp × List Int) := match numR xs with
  | none => none
  | some (id, r) => if Lra.added id = true then (match rowF Lra.literal r with
    | none => none
    | some (ls, r1) => match rowF Lra.hint r1 with
      | none => none
      | some (hs, r2) => some (⟨1, id, ls, hs⟩, r2)) else none
def delR (xs : List Int) : Option (Lra.Stp × List Int) := match numR xs with
  | none => none
  | some (id, r) => if Lra.known id = true then (match rowF Lra.added r with
    | none => none
    | some (hs, r1) => some (⟨2, id, [], hs⟩, r1)) else none
def stepR : List Int → Option (Lra.Stp × List Int)
  | [] => none
  | x :: xs => if x = 97 then addR xs else if x = 100 then delR xs else none
theorem lit_bound {x : Int} (h : Lra.literal x = true) : x ≠ 0 ∧ -4611686018427387903 ≤ x ∧ x ≤ 4611686018427387903 := by unfold Lra.literal at h; simp at h; omega
theorem hint_bound {x : Int} (h : Lra.hint x = true) : x ≠ 0 ∧ -4611686018427387903 ≤ x ∧ x ≤ 4611686018427387903 := by unfold Lra.hint at h; simp at h; omega
theorem added_bound {x : Int} (h : Lra.added x = true) : x ≠ 0 ∧ -4611686018427387903 ≤ x ∧ x ≤ 4611686018427387903 := by unfold Lra.added at h; simp at h; omega
theorem known_bound {x : Int} (h : Lra.known x = true) : -4611686018427387903 ≤ x ∧ x ≤ 4611686018427387903 := by unfold Lra.known at h; simp at h; omega
theorem stepR_put {s : Lra.Stp} (r : List Int) (h : Lra.may s = true) : stepR (stp s ++ r) = some (s, r) := by
  obtain ⟨kd, id, ls, hs⟩ := s
  unfold Lra.may at h
  simp only at h
  split at h
  · next hk =>
    subst hk
    simp only [Bool.and_eq_true] at h
    obtain ⟨h1, h2, h3⟩ := h
    have e : stp ⟨1, id, ls, hs⟩ ++ r = 97 :: (num id ++ (row ls ++ (0 :: (row hs ++ (0 :: r))))) := by unfold stp; simp
    rw [e, stepR, if_pos rfl, addR, numR_put _ (added_bound h1).2.1 (added_bound h1).2.2]
    simp only
    rw [if_pos h1, rowF_put ls _ h2 (fun x hx => lit_bound (List.all_eq_true.1 h2 x hx))]
    simp only
    rw [rowF_put hs _ h3 (fun x hx => hint_bound (List.all_eq_true.1 h3 x hx))]
  · split at h
    · next hk =>
      subst hk
      simp only [Bool.and_eq_true] at h
      obtain ⟨h1, h2, h3⟩ := h
      have h2' : ls = [] := List.isEmpty_iff.1 h2
      subst h2'
      have e : stp ⟨2, id, [], hs⟩ ++ r = 100 :: (num id ++ (row hs ++ (0 :: r))) := by unfold stp; simp [row_nil]
      rw [e, stepR, if_neg (by decide), if_pos rfl, delR, numR_put _ (known_bound h1).1 (known_bound h1).2]
      simp only
      rw [if_pos h1, rowF_put hs _ h3 (fun x hx => added_bound (List.all_eq_true.1 h3 x hx))]
    · cases h
theorem stepR_back {xs r : List Int} {s : Lra.Stp} (hx : Byt xs) (h : stepR xs = some (s, r)) : xs = stp s ++ r ∧ Lra.may s = true := by
  cases xs with
  | nil => rw [stepR] at h; cases h
  | cons x xs =>
    rw [stepR] at h
    split at h
    · next h97 =>
      subst h97
      unfold addR at h
      cases hn : numR xs with
      | none => rw [hn] at h; cases h
      | some p =>
        obtain ⟨id, r1⟩ := p
        rw [hn] at h
        simp only at h
        split at h
        · next hid =>
          obtain ⟨e1, _⟩ := numR_back hx.tail hn
          have b1 : Byt r1 := by have := hx.tail; rw [e1] at this; exact this.right
          cases hr : rowF Lra.literal r1 with
          | none => rw [hr] at h; cases h
          | some p =>
            obtain ⟨ls, r2⟩ := p
            rw [hr] at h
            simp only at h
            obtain ⟨e2, a2, _⟩ := rowF_back b1 hr
            have b2 : Byt r2 := by rw [e2] at b1; exact b1.right.tail
            cases hr2 : rowF Lra.hint r2 with
            | none => rw [hr2] at h; cases h
            | some p =>
              obtain ⟨hs, r3⟩ := p
              rw [hr2] at h
              cases h
              obtain ⟨e3, a3, _⟩ := rowF_back b2 hr2
              refine ⟨?_, by unfold Lra.may; simp only [if_true]; rw [hid, a2, a3]; rfl⟩
              unfold stp
              simp only [if_true, List.cons_append, List.append_assoc, List.nil_append]
              rw [e1, e2, e3]
        · cases h
    · split at h
      · next h100 =>
        subst h100
        unfold delR at h
        cases hn : numR xs with
        | none => rw [hn] at h; cases h
        | some p =>
          obtain ⟨id, r1⟩ := p
          rw [hn] at h
          simp only at h
          split at h
          · next hid =>
            obtain ⟨e1, _⟩ := numR_back hx.tail hn
            have b1 : Byt r1 := by have := hx.tail; rw [e1] at this; exact this.right
            cases hr : rowF Lra.added r1 with
            | none => rw [hr] at h; cases h
            | some p =>
              obtain ⟨hs, r2⟩ := p
              rw [hr] at h
              cases h
              obtain ⟨e2, a2, _⟩ := rowF_back b1 hr
              refine ⟨?_, by unfold Lra.may; simp only; rw [if_neg (by decide), if_pos trivial, hid, a2]; rfl⟩
              unfold stp
              simp only
              rw [if_neg (by decide), if_neg (by decide)]
              simp only [row_nil, List.cons_append, List.append_assoc, List.nil_append]
              rw [e1, e2]
          · cases h
      · cases h
theorem stp_pos (s : Lra.Stp) : 1 ≤ (stp s).length := by unfold stp; simp
theorem stp_byt (s : Lra.Stp) : Byt (stp s) := by
  intro x hx
  unfold stp at hx
  simp only [List.mem_cons, List.mem_append] at hx
  rcases hx with rfl | hx | hx | hx | hx | hx | hx
  · split <;> omega
  · exact num_byt _ x hx
  · exact row_byt _ x hx
  · split at hx
    · simp at hx; omega
    · cases hx
  · exact row_byt _ x hx
  · omega
  · cases hx
theorem text_nil : text [] = [] := rfl
theorem text_cons (s : Lra.Stp) (ss : List Lra.Stp) : text (s :: ss) = stp s ++ text ss := by simp [text]
theorem text_append (a b : List Lra.Stp) : text (a ++ b) = text a ++ text b := by simp [text]
theorem text_byt (ss : List Lra.Stp) : Byt (text ss) := fun x hx => by
  unfold text at hx
  obtain ⟨s, _, hs⟩ := List.mem_flatMap.1 hx
  exact stp_byt s x hs
theorem text_pre {ss ts : List Lra.Stp} {xs : List Int} : ∀ (u : List Int), ss.all Lra.may = true → ts.all Lra.may = true → text ss ++ u = text ts ++ xs → stepR xs = none → ∃ vs, ts = ss ++ vs ∧ u = text vs ++ xs ∨ ∃ v vs, ss = ts ++ v :: vs := by
  induction ss generalizing ts with
  | nil =>
    intro u _ ht h hx
    exact ⟨ts, .inl ⟨rfl, by simpa [text_nil] using h⟩⟩
  | cons s ss ih =>
    intro u hs ht h hx
    simp only [List.all_cons, Bool.and_eq_true] at hs
    cases ts with
    | nil => exact ⟨[], .inr ⟨s, ss, rfl⟩⟩
    | cons t ts =>
      simp only [List.all_cons, Bool.and_eq_true] at ht
      rw [text_cons, text_cons, List.append_assoc, List.append_assoc] at h
      have e1 := stepR_put (text ss ++ u) hs.1
      rw [h, stepR_put (text ts ++ xs) ht.1] at e1
      simp only [Option.some.injEq, Prod.mk.injEq] at e1
      obtain ⟨rfl, e2⟩ := e1
      obtain ⟨vs, h1 | ⟨v, vs', h2⟩⟩ := ih u hs.2 ht.2 e2.symm hx
      · exact ⟨vs, .inl ⟨by rw [h1.1]; rfl, h1.2⟩⟩
      · exact ⟨[], .inr ⟨v, vs', by rw [h2]; rfl⟩⟩
theorem stepR_nil : stepR [] = none := rfl
/-- What bytes say: steps that may be, and what cannot be read behind them. -/
structure Says (xs : List Int) (ss : List Lra.Stp) (rest : List Int) : Prop where
  eq : xs = text ss ++ rest
  may : ss.all Lra.may = true
  no : stepR rest = none
theorem Says.one {xs : List Int} {ss ts : List Lra.Stp} {a b : List Int} (h : Says xs ss a) (g : Says xs ts b) : ss = ts ∧ a = b := by
  obtain ⟨h1, h2, h3⟩ := h
  obtain ⟨g1, g2, g3⟩ := g
  rw [h1] at g1
  clear h1
  induction ss generalizing ts with
  | nil =>
    cases ts with
    | nil => exact ⟨rfl, by simpa [text_nil] using g1⟩
    | cons t ts =>
      simp only [List.all_cons, Bool.and_eq_true] at g2
      rw [text_nil, text_cons, List.nil_append, List.append_assoc] at g1
      rw [g1, stepR_put _ g2.1] at h3
      cases h3
  | cons s ss ih =>
    simp only [List.all_cons, Bool.and_eq_true] at h2
    rw [text_cons, List.append_assoc] at g1
    cases ts with
    | nil =>
      rw [text_nil, List.nil_append] at g1
      rw [← g1, stepR_put _ h2.1] at g3
      cases g3
    | cons t ts =>
      simp only [List.all_cons, Bool.and_eq_true] at g2
      rw [text_cons, List.append_assoc] at g1
      have e1 := stepR_put (text ss ++ a) h2.1
      rw [g1, stepR_put (text ts ++ b) g2.1] at e1
      simp only [Option.some.injEq, Prod.mk.injEq] at e1
      obtain ⟨rfl, e2⟩ := e1
      obtain ⟨e1, e2⟩ := ih h2.2 e2.symm g2.2
      exact ⟨by rw [e1], e2⟩
theorem says_text {ss : List Lra.Stp} (h : ss.all Lra.may = true) : Says (text ss) ss [] := ⟨by simp, h, stepR_nil⟩
theorem Says.append {xs ys : List Int} {ss ts : List Lra.Stp} {r : List Int} (h : Says xs ss []) (g : Says ys ts r) : Says (xs ++ ys) (ss ++ ts) r :=
  ⟨by rw [h.eq, g.eq, text_append]; simp, by rw [List.all_append, h.may, g.may]; rfl, g.no⟩
/-- What a part of a proof's bytes says is a part of it. -/
theorem Says.cut {xs : List Int} {ss ts : List Lra.Stp} {r : List Int} {k : Nat} (h : Says xs ss []) (g : Says (xs.take k) ts r) : ∃ vs, ss = ts ++ vs := by
  have e : text ts ++ (r ++ xs.drop k) = text ss ++ [] := by
    rw [← List.append_assoc, ← g.eq, List.take_append_drop]; exact h.eq
  obtain ⟨vs, h1 | ⟨v, vs, h2⟩⟩ := text_pre (r ++ xs.drop k) g.may h.may e stepR_nil
  · exact ⟨vs, h1.1⟩
  · rw [h2, text_append, text_cons] at e
    have := congrArg List.length e
    simp only [List.length_append, List.length_nil] at this
    have := stp_pos v
    omega
theorem Says.less {xs : List Int} {ss ts : List Lra.Stp} {r : List Int} {k : Nat} (h : Says xs ss []) (g : Says (xs.take k) ts r) (hr : r ≠ []) : (text ts).length < k ∧ ts.length < ss.length ∧ Says (xs.take (text ts).length) ts [] := by
  have hl := congrArg List.length g.eq
  rw [List.length_append, List.length_take] at hl
  have hr' : 1 ≤ r.length := by cases r with | nil => exact absurd rfl hr | cons x r => simp
  refine ⟨by omega, ?_, ?_⟩
  · obtain ⟨vs, e⟩ := h.cut g
    cases vs with
    | nil =>
      rw [List.append_nil] at e
      have := congrArg List.length h.eq
      rw [e] at this
      simp at this
      omega
    | cons v vs => rw [e]; simp
  · have e : xs.take (text ts).length = text ts := by
      have := congrArg (List.take (text ts).length) g.eq
      rw [List.take_take, Nat.min_eq_left (by omega), List.take_left] at this
      exact this
    rw [e]
    exact says_text g.may
/-- Bytes say steps in one way. -/
theorem text_inj {ss ts : List Lra.Stp} (h1 : ss.all Lra.may = true) (h2 : ts.all Lra.may = true) (h : text ss = text ts) : ss = ts :=
  (Says.one (says_text h1) (by rw [h]; exact says_text h2)).1
end Bin
