/- A base, plainly: what it holds, and when a clause follows by hints. -/
/- A base, plainly: what it holds, and when a clause follows by hints. -/
namespace Bas
/-- A clause that is live. -/
structure E where
  id : Int
  lits : List Int
  red : Bool
/-- The clause under an id. -/
def look (L : List E) (id : Int) : Option E := L.find? (fun e => e.id == id)
def lookL (L : List E) (id : Int) : Option (List Int) := (look L id).map (·.lits)
/-- Is a literal in it with its negation? -/
def both (c : List Int) : Bool := c.any (fun l => c.contains (-l))
theorem both_iff {c : List Int} : both c = true ↔ ∃ l ∈ c, -l ∈ c := by simp [both]
/-- What of a clause is not false, as a set. -/
def leftD (no : List Int) : List Int → List Int → List Int
  | [], acc => acc
  | x :: d, acc => if x ∈ no ∨ x ∈ acc then leftD no d acc else leftD no d (acc ++ [x])
/-- Hint by hint: no holds what is false. -/
def goD (F : Int → Option (List Int)) : List Int → List Int → Int
  | _, [] => 61
  | no, h :: hs => match F h with
    | none => 60
    | some d => match leftD no d [] with
      | [] => 0
      | [l] => if -l ∈ no then 60 else goD F (no ++ [-l]) hs
      | _ :: _ :: _ => 60
def followsD (F : Int → Option (List Int)) (c hs : List Int) : Int := if both c then 0 else goD F c hs
theorem leftD_mem (no : List Int) : ∀ (d acc : List Int) (x : Int), x ∈ leftD no d acc ↔ x ∈ acc ∨ (x ∈ d ∧ x ∉ no)
  | [], acc, x => by simp [leftD]
  | y :: d, acc, x => by
    rw [leftD]
    split
    · rename_i h
      rw [leftD_mem no d acc x]
      constructor
      · rintro (h1 | h1)
        · exact .inl h1
        · exact .inr ⟨List.mem_cons_of_mem _ h1.1, h1.2⟩
      · rintro (h1 | ⟨h1, h2⟩)
        · exact .inl h1
        · rcases List.mem_cons.1 h1 with rfl | h1
          · rcases h with h | h
            · exact absurd h h2
            · exact .inl h
          · exact .inr ⟨h1, h2⟩
    · rename_i h
      rw [leftD_mem no d (acc ++ [y]) x]
      constructor
      · rintro (h1 | h1)
        · rcases List.mem_append.1 h1 with h1 | h1
          · exact .inl h1
          · obtain rfl := List.mem_singleton.1 h1
            exact .inr ⟨List.mem_cons_self, fun h2 => h (.inl h2)⟩
        · exact .inr ⟨List.mem_cons_of_mem _ h1.1, h1.2⟩
      · rintro (h1 | ⟨h1, h2⟩)
        · exact .inl (List.mem_append.2 (.inl h1))
        · rcases List.mem_cons.1 h1 with rfl | h1
          · exact .inl (List.mem_append.2 (.inr (List.mem_singleton.2 rfl)))
          · exact .inr ⟨h1, h2⟩
/-- What follows is true wherever the clauses are. -/
theorem goD_sound {F : Int → Option (List Int)} {val : Int → Bool} (hv : ∀ l, val l = true → val (-l) = false) (hF : ∀ h d, F h = some d → ∃ x ∈ d, val x = true) : ∀ (hs no : List Int), goD F no hs = 0 → ∃ x ∈ no, val x = true
  | [], no, h => by simp [goD] at h
  | i :: hs, no, h => by
    rw [goD] at h
    cases hd : F i with
    | none => rw [hd] at h; simp at h
    | some d =>
      rw [hd] at h
      simp only at h
      obtain ⟨y, hy, hyt⟩ := hF i d hd
      have hm := leftD_mem no d []
      cases hl : leftD no d [] with
      | nil =>
        rw [hl] at hm
        have := hm y
        simp [hy] at this
        exact ⟨y, this, hyt⟩
      | cons l rest =>
        cases rest with
        | cons l2 rest => rw [hl] at h; simp at h
        | nil =>
          rw [hl] at h hm
          simp only at h
          split at h
          · simp at h
          · obtain ⟨x, hx, hxt⟩ := goD_sound hv hF hs _ h
            rcases List.mem_append.1 hx with hx | hx
            · exact ⟨x, hx, hxt⟩
            · obtain rfl := List.mem_singleton.1 hx
              have hlf : val l = false := by have := hv _ hxt; rwa [Int.neg_neg] at this
              have := hm y
              simp [hy] at this
              by_cases hyn : y ∈ no
              · exact ⟨y, hyn, hyt⟩
              · have e : y = l := this.2 hyn
                rw [e, hlf] at hyt
                cases hyt
theorem followsD_sound {F : Int → Option (List Int)} {val : Int → Bool} (hv : ∀ l, val l = true → val (-l) = false) (hb : ∀ l, l ≠ 0 → val l = true ∨ val (-l) = true) (hF : ∀ h d, F h = some d → ∃ x ∈ d, val x = true) {c hs : List Int} (hz : ∀ x ∈ c, x ≠ 0) (h : followsD F c hs = 0) : ∃ x ∈ c, val x = true := by
  unfold followsD at h
  split at h
  · rename_i hc
    obtain ⟨l, h1, h2⟩ := both_iff.1 hc
    rcases hb l (hz l h1) with h3 | h3
    · exact ⟨l, h1, h3⟩
    · exact ⟨-l, h2, h3⟩
  · exact goD_sound hv hF hs c h
/-- The program's way: what is true stands in T. -/
def denyP : List Int → List Int → Option (List Int)
  | T, [] => some T
  | T, l :: c => if l ∈ T then none else denyP (if -l ∈ T then T else -l :: T) c
/-- How many are not false (2, if there are more), and the first. -/
def leftP (T : List Int) : List Int → Int → Int × Int
  | [], f => if f = 0 then (0, 0) else (1, f)
  | l :: d, f => if l = f ∨ -l ∈ T then leftP T d f else if f ≠ 0 then (2, f) else leftP T d l
def goP (F : Int → Option (List Int)) : List Int → List Int → Int
  | _, [] => 61
  | T, h :: hs => match F h with
    | none => 60
    | some d => if (leftP T d 0).1 = 0 then 0 else if (leftP T d 0).1 > 1 ∨ (leftP T d 0).2 ∈ T then 60 else goP F ((leftP T d 0).2 :: T) hs
def followsP (F : Int → Option (List Int)) (c hs : List Int) : Int := match denyP [] c with
  | none => 0
  | some T => goP F T hs
theorem leftP_some (T no : List Int) (hT : ∀ x, x ∈ no ↔ -x ∈ T) : ∀ (d : List Int) (f : Int), f ≠ 0 → (∀ x ∈ d, x ≠ 0) → (leftD no d [f] = [f] → leftP T d f = (1, f)) ∧ ((∃ a b r, leftD no d [f] = a :: b :: r) → leftP T d f = (2, f))
  | [], f, hf, _ => by simp [leftD, leftP, hf]
  | l :: d, f, hf, hz => by
    rw [leftD, leftP]
    by_cases h : l ∈ no ∨ l ∈ [f]
    · rw [if_pos h, if_pos (by rcases h with h | h; exact .inr ((hT l).1 h); exact .inl (List.mem_singleton.1 h))]
      exact leftP_some T no hT d f hf (fun x hx => hz x (List.mem_cons_of_mem _ hx))
    · rw [if_neg h, if_neg (fun h2 => h (by rcases h2 with h2 | h2; exact .inr (List.mem_singleton.2 h2); exact .inl ((hT l).2 h2))), if_pos hf]
      refine ⟨fun h2 => ?_, fun _ => rfl⟩
      exfalso
      have h3 := leftD_mem no d ([f] ++ [l]) l
      rw [h2] at h3
      exact h (.inr (h3.2 (.inl (by simp))))
theorem leftD_keep (no : List Int) : ∀ (d acc : List Int), ∃ r, leftD no d acc = acc ++ r
  | [], acc => ⟨[], by simp [leftD]⟩
  | x :: d, acc => by
    rw [leftD]
    split
    · exact leftD_keep no d acc
    · obtain ⟨r, h⟩ := leftD_keep no d (acc ++ [x])
      exact ⟨x :: r, by rw [h]; simp⟩
theorem leftP_eq (T no : List Int) (hT : ∀ x, x ∈ no ↔ -x ∈ T) : ∀ (d : List Int), (∀ x ∈ d, x ≠ 0) → leftP T d 0 = (match leftD no d [] with | [] => (0, 0) | [l] => (1, l) | l :: _ :: _ => (2, l))
  | [], _ => by simp [leftD, leftP]
  | l :: d, hz => by
    have hl := hz l List.mem_cons_self
    have hz2 : ∀ x ∈ d, x ≠ 0 := fun x hx => hz x (List.mem_cons_of_mem _ hx)
    rw [leftD, leftP]
    by_cases h : l ∈ no
    · rw [if_pos (.inr ((hT l).1 h)), if_pos (.inl h)]
      exact leftP_eq T no hT d hz2
    · rw [if_neg (fun h2 => by rcases h2 with h2 | h2; exact hl h2; exact h ((hT l).2 h2)), if_neg (by simp), if_neg (by simp [h]), List.nil_append]
      obtain ⟨r, hr⟩ := leftD_keep no d [l]
      obtain ⟨h1, h2⟩ := leftP_some T no hT d l hl hz2
      cases r with
      | nil => rw [hr] at h1 ⊢; simpa using h1 rfl
      | cons b r => rw [hr] at h2 ⊢; simpa using h2 ⟨_, _, _, rfl⟩
theorem goP_eq (F : Int → Option (List Int)) (hz : ∀ h d, F h = some d → ∀ x ∈ d, x ≠ 0) : ∀ (hs T no : List Int), (∀ x, x ∈ no ↔ -x ∈ T) → goP F T hs = goD F no hs
  | [], T, no, _ => by simp [goP, goD]
  | h :: hs, T, no, hT => by
    rw [goP, goD]
    cases hd : F h with
    | none => rfl
    | some d =>
      simp only
      rw [leftP_eq T no hT d (hz h d hd)]
      cases hl : leftD no d [] with
      | nil => simp
      | cons l r =>
        cases r with
        | cons l2 r => simp
        | nil =>
          have e1 : (-l ∈ no) ↔ l ∈ T := by rw [hT (-l), Int.neg_neg]
          by_cases hm : l ∈ T
          · simp [hm, e1]
          · simp only [hm, e1, if_false]
            simp only [show ¬ ((1 : Int) = 0) by decide, show ¬ ((1 : Int) > 1 ∨ False) by decide, if_false]
            refine goP_eq F hz hs (l :: T) (no ++ [-l]) (fun x => ?_)
            rw [List.mem_append, List.mem_singleton, List.mem_cons, hT x]
            constructor
            · rintro (h1 | rfl)
              · exact .inr h1
              · exact .inl (by omega)
            · rintro (h1 | h1)
              · exact .inr (by omega)
              · exact .inl h1
theorem denyP_spec : ∀ (c T P : List Int), (∀ x ∈ c, x ≠ 0) → (∀ x, x ∈ P ↔ -x ∈ T) → both P = false → (denyP T c = none → both (P ++ c) = true) ∧ ∀ T', denyP T c = some T' → both (P ++ c) = false ∧ ∀ x, x ∈ P ++ c ↔ -x ∈ T'
  | [], T, P, _, hT, hP => by
    refine ⟨fun h => by simp [denyP] at h, fun T' h => ?_⟩
    simp only [denyP, Option.some.injEq] at h
    subst h
    rw [List.append_nil]
    exact ⟨hP, hT⟩
  | l :: c, T, P, hz, hT, hP => by
    have hl := hz l List.mem_cons_self
    have hz2 : ∀ x ∈ c, x ≠ 0 := fun x hx => hz x (List.mem_cons_of_mem _ hx)
    rw [denyP]
    by_cases h : l ∈ T
    · rw [if_pos h]
      refine ⟨fun _ => both_iff.2 ⟨l, by simp, ?_⟩, fun T' h2 => by cases h2⟩
      have := (hT (-l)).2 (by rw [Int.neg_neg]; exact h)
      simp [this]
    · rw [if_neg h]
      have hnP : -l ∉ P := fun h2 => h (by have := (hT (-l)).1 h2; rwa [Int.neg_neg] at this)
      have hT' : ∀ x, x ∈ P ++ [l] ↔ -x ∈ (if -l ∈ T then T else -l :: T) := fun x => by
        rw [List.mem_append, List.mem_singleton, hT x]
        split
        · rename_i h3
          constructor
          · rintro (h4 | rfl)
            · exact h4
            · exact h3
          · exact .inl
        · rw [List.mem_cons]
          constructor
          · rintro (h4 | rfl)
            · exact .inr h4
            · exact .inl rfl
          · rintro (h4 | h4)
            · exact .inr (by omega)
            · exact .inl h4
      have hP' : both (P ++ [l]) = false := by
        cases hb : both (P ++ [l]) with
        | false => rfl
        | true =>
          exfalso
          obtain ⟨x, h1, h2⟩ := both_iff.1 hb
          have hPn : ∀ y ∈ P, -y ∉ P := fun y hy hy2 => by
            have : both P = true := both_iff.2 ⟨y, hy, hy2⟩
            rw [hP] at this
            cases this
          rcases List.mem_append.1 h1 with h1 | h1 <;> rcases List.mem_append.1 h2 with h2 | h2
          · exact hPn x h1 h2
          · have := List.mem_singleton.1 h2
            exact hnP (by rw [← this, Int.neg_neg]; exact h1)
          · have := List.mem_singleton.1 h1
            exact hnP (by rw [← this]; exact h2)
          · have e1 := List.mem_singleton.1 h1
            have e2 := List.mem_singleton.1 h2
            omega
      have ih := denyP_spec c _ (P ++ [l]) hz2 hT' hP'
      rw [List.append_assoc, List.singleton_append] at ih
      exact ih
theorem followsP_eq (F : Int → Option (List Int)) (hz : ∀ h d, F h = some d → ∀ x ∈ d, x ≠ 0) (c hs : List Int) (hc : ∀ x ∈ c, x ≠ 0) : followsP F c hs = followsD F c hs := by
  have h := denyP_spec c [] [] hc (by simp) (by rfl)
  rw [List.nil_append] at h
  unfold followsP followsD
  cases hd : denyP [] c with
  | none => simp only; rw [if_pos (h.1 hd)]
  | some T =>
    obtain ⟨h1, h2⟩ := h.2 T hd
    simp only
    rw [h1, if_neg (by simp)]
    exact goP_eq F hz hs T c h2
/-- A clause is true. -/
def Tr (val : Int → Bool) (c : List Int) : Prop := ∃ x ∈ c, val x = true
/-- Values of literals that go together. -/
structure Val (val : Int → Bool) : Prop where
  one : ∀ l, val l = true → val (-l) = false
  any : ∀ l, l ≠ 0 → val l = true ∨ val (-l) = true
def AllT (val : Int → Bool) (L : List E) : Prop := ∀ e ∈ L, Tr val e.lits
def IrrT (val : Int → Bool) (L : List E) : Prop := ∀ e ∈ L, e.red = false → Tr val e.lits
/-- The clauses that are not redundant have the formula's models, and all are true there. -/
def Snd (f : List (List Int)) (L : List E) : Prop := ∀ val, Val val → ((∀ c ∈ f, Tr val c) ↔ IrrT val L) ∧ (IrrT val L → AllT val L)
def keepL (L : List E) (id : Int) : List E := L.map (fun e => if e.id = id then { e with red := false } else e)
def delL (L : List E) (id : Int) : List E := L.filter (fun e => e.id != id)
theorem mem_keep {L : List E} {id : Int} {e : E} (h : e ∈ keepL L id) : ∃ d ∈ L, e.lits = d.lits ∧ e.id = d.id ∧ (e.red = d.red ∨ (d.id = id ∧ e.red = false)) := by
  obtain ⟨d, hd, rfl⟩ := List.mem_map.1 h
  refine ⟨d, hd, ?_⟩
  split
  · rename_i h2; exact ⟨rfl, rfl, .inr ⟨h2, rfl⟩⟩
  · exact ⟨rfl, rfl, .inl rfl⟩
theorem keep_mem {L : List E} {id : Int} {d : E} (h : d ∈ L) : ∃ e ∈ keepL L id, e.lits = d.lits ∧ e.id = d.id ∧ (d.red = false → e.red = false) ∧ (d.id = id → e.red = false) := by
  refine ⟨_, List.mem_map.2 ⟨d, h, rfl⟩, ?_⟩
  split
  · exact ⟨rfl, rfl, fun _ => rfl, fun _ => rfl⟩
  · rename_i h2; exact ⟨rfl, rfl, fun h => h, fun h => absurd h h2⟩
theorem mem_del {L : List E} {id : Int} {e : E} : e ∈ delL L id ↔ e ∈ L ∧ e.id ≠ id := by simp [delL]
theorem look_mem {L : List E} {id : Int} {e : E} (h : look L id = some e) : e ∈ L ∧ e.id = id := by
  have h1 := List.find?_some h
  exact ⟨List.mem_of_find?_eq_some h, by simpa using h1⟩
theorem add_snd {f : List (List Int)} {L : List E} {c hs : List Int} {i : Int} {red : Bool} (h : Snd f L) (hz : ∀ x ∈ c, x ≠ 0) (hf : followsD (lookL L) c hs = 0) : Snd f (L ++ [⟨i, c, red⟩]) := by
  intro val hv
  obtain ⟨h1, h2⟩ := h val hv
  have key : AllT val L → Tr val c := fun ha => followsD_sound hv.one hv.any (fun q d hd => by
    unfold lookL at hd
    obtain ⟨e, he, rfl⟩ := Option.map_eq_some_iff.1 hd
    exact ha e (look_mem he).1) hz hf
  have hirr : IrrT val (L ++ [⟨i, c, red⟩]) ↔ IrrT val L := by
    constructor
    · exact fun h e he => h e (List.mem_append.2 (.inl he))
    · intro h e he hr
      rcases List.mem_append.1 he with he | he
      · exact h e he hr
      · obtain rfl := List.mem_singleton.1 he
        exact key (h2 h)
  refine ⟨h1.trans hirr.symm, fun h e he => ?_⟩
  have ha := h2 (hirr.1 h)
  rcases List.mem_append.1 he with he | he
  · exact ha e he
  · obtain rfl := List.mem_singleton.1 he
    exact key ha
theorem keep_snd {f : List (List Int)} {L : List E} {id : Int} (h : Snd f L) : Snd f (keepL L id) := by
  intro val hv
  obtain ⟨h1, h2⟩ := h val hv
  have hall : AllT val L → AllT val (keepL L id) := fun ha e he => by
    obtain ⟨d, hd, e1, _⟩ := mem_keep he
    rw [e1]; exact ha d hd
  have hirr : IrrT val (keepL L id) ↔ IrrT val L := by
    constructor
    · intro h d hd hr
      obtain ⟨e, he, e1, _, e2, _⟩ := keep_mem (id := id) hd
      rw [← e1]; exact h e he (e2 hr)
    · exact fun h e he _ => hall (h2 h) e he
  exact ⟨h1.trans hirr.symm, fun h => hall (h2 (hirr.1 h))⟩
theorem del_snd {f : List (List Int)} {L : List E} {id : Int} (h : Snd f L) (hr : ∀ val, Val val → IrrT val (delL L id) → ∀ e ∈ L, e.id = id → e.red = false → Tr val e.lits) : Snd f (delL L id) := by
  intro val hv
  obtain ⟨h1, h2⟩ := h val hv
  have hirr : IrrT val (delL L id) ↔ IrrT val L := by
    constructor
    · intro h e he hr2
      by_cases hi : e.id = id
      · exact hr val hv h e he hi hr2
      · exact h e (mem_del.2 ⟨he, hi⟩) hr2
    · exact fun h e he => h e (mem_del.1 he).1
  exact ⟨h1.trans hirr.symm, fun h e he => h2 (hirr.1 h) e (mem_del.1 he).1⟩
/-- A redundant clause goes. -/
theorem delete_snd {f : List (List Int)} {L : List E} {id : Int} (h : Snd f L) (hr : ∀ e ∈ L, e.id = id → e.red = true) : Snd f (delL L id) :=
  del_snd h (fun val _ _ e he hi h3 => by rw [hr e he hi] at h3; cases h3)
/-- A clause that has a literal with its negation goes. -/
theorem taut_snd {f : List (List Int)} {L : List E} {id : Int} (h : Snd f L) (hb : ∀ e ∈ L, e.id = id → both e.lits = true ∧ ∀ x ∈ e.lits, x ≠ 0) : Snd f (delL L id) :=
  del_snd h (fun val hv _ e he hi _ => by
    obtain ⟨h1, h2⟩ := hb e he hi
    obtain ⟨l, h3, h4⟩ := both_iff.1 h1
    rcases hv.any l (h2 l h3) with h5 | h5
    · exact ⟨l, h3, h5⟩
    · exact ⟨-l, h4, h5⟩)
/-- A clause goes within which another one lies, that is not redundant then. -/
theorem drop_snd {f : List (List Int)} {L : List E} {id by_ : Int} (h : Snd f L) (hne : by_ ≠ id) (hs : ∀ e ∈ L, e.id = id → e.red = false → ∃ d ∈ L, d.id = by_ ∧ ∀ x ∈ d.lits, x ∈ e.lits) : Snd f (delL (keepL L by_) id) :=
  del_snd (keep_snd h) (fun val hv hirr e he hi hr => by
    obtain ⟨d, hd, e1, e2, e3⟩ := mem_keep he
    have hdi : d.id = id := e2 ▸ hi
    have hdr : d.red = false := by
      rcases e3 with e3 | ⟨e3, _⟩
      · rw [← e3]; exact hr
      · exact absurd (e3.symm.trans hdi) hne
    obtain ⟨b, hb, hbi, hsub⟩ := hs d hd hdi hdr
    obtain ⟨b2, hb2, q1, q2, _, q4⟩ := keep_mem (id := by_) hb
    obtain ⟨x, hx, hxt⟩ := hirr b2 (mem_del.2 ⟨hb2, by rw [q2, hbi]; exact hne⟩) (q4 hbi)
    rw [e1]
    exact ⟨x, hsub x (by rw [← q1]; exact hx), hxt⟩)
/-- At first. -/
def start (f : List (List Int)) : Int → List E
  | i => (f.zipIdx).map (fun p => ⟨i + p.2, p.1, false⟩)
theorem start_snd (f : List (List Int)) (i : Int) : Snd f (start f i) := by
  intro val hv
  have hm : ∀ e, e ∈ start f i → e.lits ∈ f := fun e he => by
    obtain ⟨p, hp, rfl⟩ := List.mem_map.1 he
    exact (List.mem_zipIdx' hp).2 ▸ List.getElem_mem _
  have hmm : ∀ c ∈ f, ∃ e ∈ start f i, e.lits = c ∧ e.red = false := fun c hc => by
    obtain ⟨j, hj, rfl⟩ := List.mem_iff_getElem.1 hc
    exact ⟨⟨i + j, f[j], false⟩, List.mem_map.2 ⟨(f[j], j), List.mem_zipIdx_iff_getElem?.2 (by simp [hj]), rfl⟩, rfl, rfl⟩
  refine ⟨⟨fun h e he _ => h _ (hm e he), fun h c hc => ?_⟩, fun h e he => ?_⟩
  · obtain ⟨e, he, e1, e2⟩ := hmm c hc
    rw [← e1]; exact h e he e2
  · obtain ⟨d, hd, e1, e2⟩ := hmm _ (hm e he)
    rw [← e1]; exact h d hd e2
/-- An empty clause is there only if the formula has no model. -/
theorem empty_snd {f : List (List Int)} {L : List E} (h : Snd f L) (he : ∃ e ∈ L, e.lits = []) {val : Int → Bool} (hv : Val val) : ¬ ∀ c ∈ f, Tr val c := by
  intro hf
  obtain ⟨e, he, e1⟩ := he
  obtain ⟨x, hx, _⟩ := (h val hv).2 ((h val hv).1.1 hf) e he
  rw [e1] at hx
  cases hx
end Bas

