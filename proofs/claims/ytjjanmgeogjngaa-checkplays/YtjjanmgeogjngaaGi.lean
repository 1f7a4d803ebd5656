/- The document's checker, plainly, and that it answers as the program's: through hints. -/
import Derived.Test.YtjjanmgeogjngaaGh
import Derived.Test.YtjjanmgeogjngaaGg
import Derived.Test.YtjjanmgeogjngaaGa
import Derived.Test.YtjjanmgeogjngaaGb
/- The document's checker, plainly, and that it answers as the program's: through hints. -/
namespace Ckr
/-- The literals of a clause that are open; none: one is true. -/
def openL (Y : List Int) : List Int → List Int → Option (List Int)
  | op, [] => some op
  | op, l :: ls => if l ∈ Y then none else if -l ∉ Y ∧ l ∉ op then openL Y (op ++ [l]) ls else openL Y op ls
def opM : Option (List Int) → Option Int
  | none => none
  | some [] => some 0
  | some [x] => some x
  | some _ => none
/-- The document's way through hints: 0 open, 1 conflict, 2 wrong; and what is true then. -/
def thruD (F : Int → Option (List Int)) : List Int → List Int → Int × List Int
  | Y, [] => (0, Y)
  | Y, h :: hs => match F h with
    | none => (2, Y)
    | some c => match openL Y [] c with
      | none => (2, Y)
      | some [] => (1, Y)
      | some [x] => thruD F (Y ++ [x]) hs
      | some _ => (2, Y)
/-- The same literals, none with its negation. -/
structure Eqs (T Y : List Int) : Prop where
  mem : ∀ x, x ∈ T ↔ x ∈ Y
  neg : ∀ l ∈ T, -l ∉ T
theorem Eqs.pos {T Y : List Int} (h : Eqs T Y) {l : Int} (hl : l ∈ Y) : 0 < vl T l := by
  unfold vl; rw [if_pos ((h.mem l).2 hl)]; omega
theorem Eqs.low {T Y : List Int} (h : Eqs T Y) {l : Int} (hl : l ∉ Y) (hn : -l ∈ Y) : vl T l < 0 := by
  unfold vl; rw [if_neg (fun q => hl ((h.mem l).1 q)), if_pos ((h.mem _).2 hn)]; omega
theorem Eqs.nought {T Y : List Int} (h : Eqs T Y) {l : Int} (hl : l ∉ Y) (hn : -l ∉ Y) : vl T l = 0 := by
  unfold vl; rw [if_neg (fun q => hl ((h.mem l).1 q)), if_neg (fun q => hn ((h.mem _).1 q))]
theorem open_two (Y c : List Int) : ∀ op, 2 ≤ op.length → opM (openL Y op c) = none := by
  induction c with
  | nil => intro op h; rw [openL]; match op, h with | x :: y :: r, _ => rfl
  | cons l ls ih =>
    intro op h
    rw [openL]
    split
    · rfl
    · split
      · exact ih _ (by simp; omega)
      · exact ih _ h
theorem open_meet {T Y : List Int} (h : Eqs T Y) (c : List Int) : (∀ x ∈ c, x ≠ 0) → ∀ op f, (op = [] ∧ f = 0) ∨ (op = [f] ∧ f ≠ 0 ∧ f ∉ Y ∧ -f ∉ Y) → opM (openL Y op c) = meetL T f c := by
  induction c with
  | nil =>
    intro _ op f ho
    rw [openL, meetL]
    rcases ho with ⟨rfl, rfl⟩ | ⟨rfl, _⟩ <;> rfl
  | cons l ls ih =>
    intro hc op f ho
    have hl0 := hc l (by simp)
    have hc' : ∀ x ∈ ls, x ≠ 0 := fun x hx => hc x (by simp [hx])
    by_cases h1 : l ∈ Y
    · have hv := h.pos h1
      have hne : ¬ (vl T l < 0 ∨ l = f) := by
        rintro (q | q)
        · omega
        · rcases ho with ⟨_, rfl⟩ | ⟨_, _, hf, _⟩
          · exact hl0 q
          · exact hf (q ▸ h1)
      rw [openL, if_pos h1, meet_wrong hne (.inl hv)]
      rfl
    · rw [openL, if_neg h1]
      by_cases h2 : -l ∈ Y
      · rw [if_neg (fun q => q.1 h2), meet_skip (.inl (h.low h1 h2))]
        exact ih hc' op f ho
      · have hv := h.nought h1 h2
        rcases ho with ⟨rfl, rfl⟩ | ⟨rfl, hf0, hf1, hf2⟩
        · rw [if_pos ⟨h2, by simp⟩, meet_free (by rintro (q | q) <;> omega) (by rintro (q | q) <;> omega)]
          exact ih hc' [l] l (.inr ⟨rfl, hl0, h1, h2⟩)
        · by_cases h3 : l = f
          · rw [if_neg (fun q => q.2 (by simp [h3])), meet_skip (.inr h3)]
            exact ih hc' [f] f (.inr ⟨rfl, hf0, hf1, hf2⟩)
          · rw [if_pos ⟨h2, by simpa using h3⟩, meet_wrong (by rintro (q | q); · omega
                                                               · exact h3 q) (.inr hf0)]
            exact open_two Y ls _ (by simp)
theorem meet_in {T : List Int} (c : List Int) : (∀ x ∈ c, x ≠ 0) → ∀ f g, meetL T f c = some g → g = f ∨ (g ∈ c ∧ vl T g = 0) := by
  induction c with
  | nil => intro _ f g e; rw [meetL] at e; exact .inl (by injection e with e; exact e.symm)
  | cons l ls ih =>
    intro hc f g e
    have hc' : ∀ x ∈ ls, x ≠ 0 := fun x hx => hc x (by simp [hx])
    by_cases h1 : vl T l < 0 ∨ l = f
    · rw [meet_skip h1] at e
      exact (ih hc' f g e).imp id (fun q => ⟨by simp [q.1], q.2⟩)
    · by_cases h2 : 0 < vl T l ∨ f ≠ 0
      · rw [meet_wrong h1 h2] at e; cases e
      · rw [meet_free h1 h2] at e
        rcases ih hc' l g e with q | q
        · refine .inr ⟨by simp [q], ?_⟩
          rw [q]
          have := vl_le T l
          omega
        · exact .inr ⟨by simp [q.1], q.2⟩
theorem open_in (Y c : List Int) : ∀ op r, openL Y op c = some r → ∀ x ∈ r, x ∈ op ∨ x ∈ c := by
  induction c with
  | nil => intro op r e x hx; rw [openL] at e; injection e with e; exact .inl (e ▸ hx)
  | cons l ls ih =>
    intro op r e x hx
    rw [openL] at e
    split at e
    · cases e
    · split at e
      · rcases ih _ r e x hx with q | q
        · rcases List.mem_append.1 q with q | q
          · exact .inl q
          · exact .inr (by simp [List.mem_singleton.1 q])
        · exact .inr (by simp [q])
      · exact (ih _ r e x hx).imp id (fun q => by simp [q])
theorem vl_zero {T : List Int} {l : Int} (h : vl T l = 0) : l ∉ T ∧ -l ∉ T := by
  unfold vl at h
  by_cases h1 : l ∈ T
  · rw [if_pos h1] at h; omega
  · by_cases h2 : -l ∈ T
    · rw [if_neg h1, if_pos h2] at h; omega
    · exact ⟨h1, h2⟩
theorem Eqs.snoc {T Y : List Int} (h : Eqs T Y) {x : Int} (hx : x ≠ 0) (hv : vl T x = 0) : Eqs (T ++ [x]) (Y ++ [x]) := by
  obtain ⟨h1, h2⟩ := vl_zero hv
  refine ⟨fun y => by simp [h.mem y], fun l hl hn => ?_⟩
  simp only [List.mem_append, List.mem_singleton] at hl hn
  rcases hl with hl | hl <;> rcases hn with hn | hn
  · exact h.neg l hl hn
  · exact h2 (by rw [← hn, Int.neg_neg]; exact hl)
  · exact h2 (by rw [← hl]; exact hn)
  · omega
/-- The document's way through hints is the program's. -/
theorem thruD_eq (F : Int → Option (List Int)) (hF : ∀ i c, F i = some c → ∀ x ∈ c, x ≠ 0) (hs : List Int) : ∀ T Y, Eqs T Y → (thruD F Y hs).1 = (thru F T hs).1 ∧ Eqs (thru F T hs).2 (thruD F Y hs).2 := by
  induction hs with
  | nil => intro T Y h; exact ⟨rfl, h⟩
  | cons i hs ih =>
    intro T Y h
    cases e : F i with
    | none => rw [thru_none e, thruD, e]; exact ⟨rfl, h⟩
    | some c =>
      have hm := open_meet h c (hF i c e) [] 0 (.inl ⟨rfl, rfl⟩)
      rw [thruD, e]
      simp only
      cases e2 : openL Y [] c with
      | none =>
        rw [e2] at hm
        have hm' : meetL T 0 c = none := hm.symm
        rw [thru_stop e (by rw [hm']; decide), hm']
        exact ⟨rfl, h⟩
      | some op =>
        rw [e2] at hm
        match op, hm with
        | [], hm =>
          have hm' : meetL T 0 c = some 0 := hm.symm
          rw [thru_stop e (by rw [hm']; decide), hm']
          exact ⟨rfl, h⟩
        | [x], hm =>
          have hm' : meetL T 0 c = some x := hm.symm
          have hx0 : x ≠ 0 := by
            exact hF i c e x ((open_in Y c [] [x] e2 x (by simp)).resolve_left (by simp))
          have hv : vl T x = 0 := ((meet_in c (hF i c e) 0 x hm').resolve_left hx0).2
          rw [thru_go e (by rw [hm']; simp [meetHow, hx0]), hm', show meetT T (some x) = T ++ [x] by simp [meetT, hx0]]
          exact ih _ _ (h.snoc hx0 hv)
        | x :: y :: r, hm =>
          have hm' : meetL T 0 c = none := hm.symm
          rw [thru_stop e (by rw [hm']; decide), hm']
          exact ⟨rfl, h⟩
def Cons (T : List Int) : Prop := ∀ l ∈ T, -l ∉ T
theorem deny_no (but : Int) (xs : List Int) : (∀ x ∈ xs, x ≠ 0) → ∀ T, Cons T → (denyL but T xs).1 = false → (∀ y, y ∈ (denyL but T xs).2 ↔ y ∈ T ∨ (-y ∈ xs ∧ -y ≠ but)) ∧ (∀ x ∈ xs, x ≠ but → x ∉ T ∧ x ≠ -but ∧ (-x ∈ xs → -x = but)) ∧ Cons (denyL but T xs).2 := by
  induction xs with
  | nil => intro _ T hT _; exact ⟨fun y => by simp [denyL], fun x hx => by simp at hx, hT⟩
  | cons l ls ih =>
    intro hne T hT h
    have hl0 := hne l (by simp)
    have hne' : ∀ x ∈ ls, x ≠ 0 := fun x hx => hne x (by simp [hx])
    rw [denyL] at h ⊢
    by_cases h1 : l = but
    · rw [if_pos h1] at h ⊢
      obtain ⟨m1, m2, m3⟩ := ih hne' T hT h
      refine ⟨fun y => ?_, fun x hx hxb => ?_, m3⟩
      · rw [m1 y]
        constructor
        · rintro (q | ⟨q1, q2⟩)
          · exact .inl q
          · exact .inr ⟨by simp [q1], q2⟩
        · rintro (q | ⟨q1, q2⟩)
          · exact .inl q
          · rcases List.mem_cons.1 q1 with q | q
            · exact absurd (q.trans h1) q2
            · exact .inr ⟨q, q2⟩
      · have hx' : x ∈ ls := (List.mem_cons.1 hx).resolve_left (fun q => hxb (q.trans h1))
        obtain ⟨a1, a2, a3⟩ := m2 x hx' hxb
        exact ⟨a1, a2, fun q => (List.mem_cons.1 q).elim (fun e => e.trans h1) a3⟩
    · rw [if_neg h1] at h ⊢
      by_cases h2 : 0 < vl T l ∨ l = -but
      · rw [if_pos h2] at h; cases h
      · rw [if_neg h2] at h ⊢
        have hlT : l ∉ T := fun q => h2 (.inl (by unfold vl; rw [if_pos q]; omega))
        have hlb : l ≠ -but := fun q => h2 (.inr q)
        by_cases h3 : vl T l = 0
        · rw [if_pos h3] at h ⊢
          obtain ⟨_, hnT⟩ := vl_zero h3
          have hT' : Cons (T ++ [-l]) := by
            intro y hy hn
            simp only [List.mem_append, List.mem_singleton] at hy hn
            rcases hy with hy | hy <;> rcases hn with hn | hn
            · exact hT y hy hn
            · exact hlT (by rw [show l = y by omega]; exact hy)
            · exact hlT (by rw [show l = -y by omega]; exact hn)
            · omega
          obtain ⟨m1, m2, m3⟩ := ih hne' _ hT' h
          refine ⟨fun y => ?_, fun x hx hxb => ?_, m3⟩
          · rw [m1 y]
            simp only [List.mem_append, List.mem_cons, List.not_mem_nil, or_false]
            constructor
            · rintro ((q | q) | ⟨q1, q2⟩)
              · exact .inl q
              · exact .inr ⟨.inl (by omega), by omega⟩
              · exact .inr ⟨.inr q1, q2⟩
            · rintro (q | ⟨q1 | q1, q2⟩)
              · exact .inl (.inl q)
              · exact .inl (.inr (by omega))
              · exact .inr ⟨q1, q2⟩
          · rcases List.mem_cons.1 hx with q | q
            · subst q
              refine ⟨hlT, hlb, fun q => ?_⟩
              rcases List.mem_cons.1 q with q | q
              · omega
              · by_cases hb : -x = but
                · exact hb
                · exact absurd (by simp) (m2 (-x) q hb).1
            · obtain ⟨a1, a2, a3⟩ := m2 x q hxb
              simp only [List.mem_append, List.mem_singleton, not_or] at a1
              refine ⟨a1.1, a2, fun q2 => ?_⟩
              rcases List.mem_cons.1 q2 with q2 | q2
              · exact absurd (by omega) a1.2
              · exact a3 q2
        · rw [if_neg h3] at h ⊢
          have hnT : -l ∈ T := vl_neg' (by have := vl_le T l; have : ¬ 0 < vl T l := fun q => h2 (.inl q); omega)
          obtain ⟨m1, m2, m3⟩ := ih hne' T hT h
          refine ⟨fun y => ?_, fun x hx hxb => ?_, m3⟩
          · rw [m1 y]
            constructor
            · rintro (q | ⟨q1, q2⟩)
              · exact .inl q
              · exact .inr ⟨by simp [q1], q2⟩
            · rintro (q | ⟨q1, q2⟩)
              · exact .inl q
              · rcases List.mem_cons.1 q1 with q | q
                · exact .inl (by rw [show y = -l by omega]; exact hnT)
                · exact .inr ⟨q, q2⟩
          · rcases List.mem_cons.1 hx with q | q
            · subst q
              refine ⟨hlT, hlb, fun q => ?_⟩
              rcases List.mem_cons.1 q with q | q
              · omega
              · by_cases hb : -x = but
                · exact hb
                · exact absurd hnT (m2 (-x) q hb).1
            · obtain ⟨a1, a2, a3⟩ := m2 x q hxb
              refine ⟨a1, a2, fun q2 => ?_⟩
              rcases List.mem_cons.1 q2 with q2 | q2
              · exact absurd (by rw [show x = -l by omega]; exact hnT) a1
              · exact a3 q2
theorem deny_yes (but : Int) (xs : List Int) : ∀ T, (denyL but T xs).1 = true → ∃ x ∈ xs, x ≠ but ∧ (x ∈ T ∨ x = -but ∨ (-x ∈ xs ∧ -x ≠ but)) := by
  induction xs with
  | nil => intro T h; simp [denyL] at h
  | cons l ls ih =>
    intro T h
    rw [denyL] at h
    split at h
    · obtain ⟨x, q1, q2, q3⟩ := ih T h
      exact ⟨x, by simp [q1], q2, q3.imp id (Or.imp id (fun q => ⟨by simp [q.1], q.2⟩))⟩
    · rename_i h1
      split at h
      · rename_i h2
        refine ⟨l, by simp, h1, ?_⟩
        rcases h2 with h2 | h2
        · exact .inl (vl_pos h2)
        · exact .inr (.inl h2)
      · split at h
        · obtain ⟨x, q1, q2, q3⟩ := ih _ h
          refine ⟨x, by simp [q1], q2, ?_⟩
          rcases q3 with q3 | q3 | q3
          · rcases List.mem_append.1 q3 with q3 | q3
            · exact .inl q3
            · have := List.mem_singleton.1 q3
              exact .inr (.inr ⟨by rw [show -x = l by omega]; simp, by omega⟩)
          · exact .inr (.inl q3)
          · exact .inr (.inr ⟨by simp [q3.1], q3.2⟩)
        · obtain ⟨x, q1, q2, q3⟩ := ih T h
          exact ⟨x, by simp [q1], q2, q3.imp id (Or.imp id (fun q => ⟨by simp [q.1], q.2⟩))⟩
/-- The document's group. -/
def gOK (Y c : List Int) (p : Int) : Bool := c.any (fun l => decide (l ≠ -p ∧ (l ∈ Y ∨ -l ∈ c)))
def groupD (F : Int → Option (List Int)) (Y c : List Int) (p : Int) (hs : List Int) : Int := if gOK Y c p then 0 else toldE (thruD F (Y ++ (c.filter (fun l => decide (l ≠ -p))).map (fun l => -l)) hs).1
theorem groupD_eq (F : Int → Option (List Int)) (hF : ∀ i c, F i = some c → ∀ x ∈ c, x ≠ 0) {T Y c : List Int} (h : Eqs T Y) (p : Int) (hp : -p ∈ c) (hc : ∀ x ∈ c, x ≠ 0) (hs : List Int) : groupD F Y c p hs = groupE F T c p hs := by
  unfold groupD groupE
  cases e : (denyL (-p) T c).1 with
  | true =>
    obtain ⟨x, q1, q2, q3⟩ := deny_yes (-p) c T e
    have : gOK Y c p = true := List.any_eq_true.2 ⟨x, q1, decide_eq_true ⟨q2, by
      rcases q3 with q | q | q
      · exact .inl ((h.mem x).1 q)
      · exact .inr (by rw [show -x = -p by omega]; exact hp)
      · exact .inr q.1⟩⟩
    rw [if_pos this, if_pos rfl]
  | false =>
    obtain ⟨m1, m2, m3⟩ := deny_no (-p) c hc T h.neg e
    have : ¬ gOK Y c p = true := fun q => by
      obtain ⟨x, q1, q2⟩ := List.any_eq_true.1 q
      obtain ⟨q3, q4⟩ := of_decide_eq_true q2
      obtain ⟨a1, a2, a3⟩ := m2 x q1 q3
      rcases q4 with q4 | q4
      · exact a1 ((h.mem x).2 q4)
      · have := a3 q4
        omega
    rw [if_neg this, if_neg (by simp)]
    have hE : Eqs (denyL (-p) T c).2 (Y ++ (c.filter (fun l => decide (l ≠ -p))).map (fun l => -l)) := by
      refine ⟨fun y => ?_, m3⟩
      rw [m1 y, List.mem_append, h.mem y, List.mem_map]
      constructor
      · rintro (q | ⟨q1, q2⟩)
        · exact .inl q
        · exact .inr ⟨-y, List.mem_filter.2 ⟨q1, decide_eq_true q2⟩, by omega⟩
      · rintro (q | ⟨x, q1, q2⟩)
        · exact .inl q
        · obtain ⟨q3, q4⟩ := List.mem_filter.1 q1
          have q5 := of_decide_eq_true q4
          refine .inr ⟨by rw [show -y = x by omega]; exact q3, by omega⟩
    rw [(thruD_eq F hF hs _ _ hE).1]
theorem both_iff {xs : List Int} (h0 : ∀ x ∈ xs, x ≠ 0) : Cnf.both xs = (denyL 0 [] xs).1 := by
  cases e : (denyL 0 [] xs).1 with
  | true =>
    obtain ⟨x, q1, q2, q3⟩ := deny_yes 0 xs [] e
    have q4 : -x ∈ xs := by
      rcases q3 with q | q | q
      · cases q
      · exact absurd (by omega) q2
      · exact q.1
    unfold Cnf.both
    by_cases hx : 0 < x
    · exact List.any_eq_true.2 ⟨x, q1, by simp [hx, q4]⟩
    · exact List.any_eq_true.2 ⟨-x, q4, by simp [q1]; omega⟩
  | false =>
    obtain ⟨m1, m2, m3⟩ := deny_no 0 xs h0 [] (fun _ h => by cases h) e
    cases e2 : Cnf.both xs with
    | false => rfl
    | true =>
      obtain ⟨x, q1, q2⟩ := List.any_eq_true.1 e2
      simp only [Bool.and_eq_true, decide_eq_true_eq, List.contains_eq_mem] at q2
      have := (m2 x q1 (by omega)).2.2 q2.2
      omega
theorem eqs_deny {xs : List Int} (h0 : ∀ x ∈ xs, x ≠ 0) (h : (denyL 0 [] xs).1 = false) : Eqs (denyL 0 [] xs).2 (xs.map (fun l => -l)) := by
  obtain ⟨m1, m2, m3⟩ := deny_no 0 xs h0 [] (fun _ h => by cases h) h
  refine ⟨fun y => ?_, m3⟩
  rw [m1 y, List.mem_map]
  constructor
  · rintro (q | ⟨q1, q2⟩)
    · cases q
    · exact ⟨-y, q1, by omega⟩
  · rintro ⟨x, q1, q2⟩
    have := h0 x q1
    exact .inr ⟨by rw [show -y = x by omega]; exact q1, by omega⟩
/-- The document's groups: met, the ids met so far. -/
def coverD (C : List (Int × List Int)) (Y : List Int) (p : Int) : Nat → List Int → List Int → Int
  | 0, _, _ => 0
  | _ + 1, met, [] => if C.all (fun q => decide (-p ∈ q.2 → q.1 ∈ met)) then 0 else 61
  | k + 1, met, h :: hs =>
    if (look C (-h) = none ∨ -p ∉ (look C (-h)).getD []) ∨ (met ≠ [] ∧ -h ≤ met.getLastD 0) then 60
    else if groupD (look C) Y ((look C (-h)).getD []) p (ahead hs) = 0 then coverD C Y p k (met ++ [-h]) (behind hs)
    else groupD (look C) Y ((look C (-h)).getD []) p (ahead hs)
theorem dropL_mem {q : Int × List Int} (ids : List Int) : ∀ {C : List (Int × List Int)}, q ∈ dropL C ids → q ∈ C ∧ q.1 ∉ ids := by
  induction ids with
  | nil => intro C h; exact ⟨h, by simp⟩
  | cons i ids ih =>
    intro C h
    obtain ⟨h1, h2⟩ := ih (C := drop1 C i) h
    obtain ⟨h3, h4⟩ := List.mem_filter.1 h1
    exact ⟨h3, fun hm => (List.mem_cons.1 hm).elim (fun e => by simp [e] at h4) h2⟩
theorem times_zero {l : Int} {xs : List Int} : times l xs = 0 ↔ l ∉ xs := by
  constructor
  · intro h hm
    have := times_mem hm
    omega
  · intro h
    unfold times
    rw [List.length_eq_zero_iff, List.filter_eq_nil_iff]
    intro x hx e
    exact h (by rw [← beq_iff_eq.1 e]; exact hx)
theorem cover_end {C : List (Int × List Int)} {last : Int} (hG : Good C last) (l : Int) (met : List Int) (hn : met.Nodup) : C.all (fun q => decide (l ∈ q.2 → q.1 ∈ met)) = !decide (timesI l (look C) met < times l (all C)) := by
  have ht := times_ids l met hG.sorted hn
  by_cases hz : times l (all (dropL C met)) = 0
  · rw [show decide (timesI l (look C) met < times l (all C)) = false from decide_eq_false (by omega), Bool.not_false]
    refine List.all_eq_true.2 fun q hq => decide_eq_true fun hl => ?_
    by_cases hm : q.1 ∈ met
    · exact hm
    · exact absurd (mem_all (mem_dropL met hq hm) l hl) (times_zero.1 hz)
  · rw [show decide (timesI l (look C) met < times l (all C)) = true from decide_eq_true (by omega), Bool.not_true]
    have hm : l ∈ all (dropL C met) := Classical.byContradiction fun h => hz (times_zero.2 h)
    obtain ⟨q, hq, hl⟩ := List.mem_flatMap.1 hm
    obtain ⟨h1, h2⟩ := dropL_mem met hq
    cases e : C.all (fun q => decide (l ∈ q.2 → q.1 ∈ met)) with
    | false => rfl
    | true => exact absurd (of_decide_eq_true (List.all_eq_true.1 e q h1) hl) h2
theorem timesI_snoc (l : Int) (F : Int → Option (List Int)) (ids : List Int) (i : Int) : timesI l F (ids ++ [i]) = timesI l F ids + times l ((F i).getD []) := by simp [timesI]
/-- The document's groups are the program's. -/
theorem coverD_eq {C : List (Int × List Int)} {last : Int} (hG : Good C last) {T Y : List Int} (h : Eqs T Y) (p : Int) : ∀ k met hs, (∀ i ∈ met, 1 ≤ i) → met.Pairwise (· < ·) → (∀ i ∈ met, i ≤ met.getLastD 0) →
    coverD C Y p k met hs = coverF (look C) T (all C) p k (met.getLastD 0) (timesI (-p) (look C) met) hs := by
  have hF : ∀ i c, look C i = some c → ∀ x ∈ c, x ≠ 0 := fun i c e x hx => (hG.lits x (mem_all (look_mem e) x hx)).1
  intro k
  induction k with
  | zero => intro met hs _ _ _; rfl
  | succ k ih =>
    intro met hs h1 h2 h3
    cases hs with
    | nil =>
      rw [coverD, coverF, cover_end hG (-p) met (h2.imp (fun q => by omega))]
      by_cases c : timesI (-p) (look C) met < times (-p) (all C)
      · rw [if_pos (by omega : ((timesI (-p) (look C) met : Nat) : Int) < (times (-p) (all C) : Nat)), decide_eq_true c]; rfl
      · rw [if_neg (by omega : ¬ ((timesI (-p) (look C) met : Nat) : Int) < (times (-p) (all C) : Nat)), decide_eq_false c]; rfl
    | cons x hs =>
      rw [coverD, coverF]
      have hlast : 0 ≤ met.getLastD 0 := by
        cases met with
        | nil => simp
        | cons a r => have q1 := h3 a (by simp); have q2 := h1 a (by simp); omega
      have hiff : ((look C (-x) = none ∨ -p ∉ (look C (-x)).getD []) ∨ (met ≠ [] ∧ -x ≤ met.getLastD 0)) ↔ (-x ≤ met.getLastD 0 ∨ times (-p) ((look C (-x)).getD []) = 0) := by
        rw [times_zero]
        constructor
        · rintro ((q | q) | q)
          · exact .inr (by rw [q]; simp)
          · exact .inr q
          · exact .inl q.2
        · rintro (q | q)
          · cases met with
            | nil =>
              refine .inl (.inl ?_)
              cases e : look C (-x) with
              | none => rfl
              | some c => have := (hG.ids _ (look_mem e)).1; simp at q this; omega
            | cons a r => exact .inr ⟨by simp, q⟩
          · exact .inl (.inr q)
      by_cases c1 : (look C (-x) = none ∨ -p ∉ (look C (-x)).getD []) ∨ (met ≠ [] ∧ -x ≤ met.getLastD 0)
      · rw [if_pos c1, if_pos (hiff.1 c1)]
      · have c1' := fun q => c1 (hiff.2 q)
        rw [if_neg c1, if_neg c1']
        have hp : -p ∈ (look C (-x)).getD [] := Classical.byContradiction fun q => c1 (.inl (.inr q))
        have hc : ∀ y ∈ (look C (-x)).getD [], y ≠ 0 := by
          cases e : look C (-x) with
          | none => intro y hy; simp at hy
          | some c => exact hF _ c e
        rw [groupD_eq (look C) hF h p hp hc]
        by_cases c2 : groupE (look C) T ((look C (-x)).getD []) p (ahead hs) = 0
        · rw [if_pos c2, if_pos c2]
          have hgt : met.getLastD 0 < -x := by
            rcases Int.lt_or_le (met.getLastD 0) (-x) with q | q
            · exact q
            · exact absurd (.inl q) c1'
          have e1 : (met ++ [-x]).getLastD 0 = -x := by simp [List.getLastD_eq_getLast?]
          rw [ih (met ++ [-x]) (behind hs) (fun i hi => ?_) (List.pairwise_append.2 ⟨h2, by simp, fun a ha b hb => ?_⟩) (fun i hi => ?_), e1, timesI_snoc]
          · rfl
          · rcases List.mem_append.1 hi with q | q
            · exact h1 i q
            · have := List.mem_singleton.1 q; omega
          · have := h3 a ha; have := List.mem_singleton.1 hb; omega
          · rw [e1]
            rcases List.mem_append.1 hi with q | q
            · have := h3 i q; omega
            · have := List.mem_singleton.1 q; omega
        · rw [if_neg c2, if_neg c2]
/-- Why a clause does not follow, by the document. -/
def followsD (C : List (Int × List Int)) (lits hs : List Int) : Int :=
  if Cnf.both lits then 0
  else if (thruD (look C) (lits.map (fun l => -l)) (ahead hs)).1 = 2 then 60
  else if (thruD (look C) (lits.map (fun l => -l)) (ahead hs)).1 = 1 then 0
  else if lits = [] then 61
  else coverD C (thruD (look C) (lits.map (fun l => -l)) (ahead hs)).2 (lits.getD 0 0) ((behind hs).length + 1) [] (behind hs)
theorem thru_how (F : Int → Option (List Int)) (hs : List Int) : ∀ T, (thru F T hs).1 = 0 ∨ (thru F T hs).1 = 1 ∨ (thru F T hs).1 = 2 := by
  induction hs with
  | nil => intro T; exact .inl rfl
  | cons h hs ih =>
    intro T
    cases e : F h with
    | none => rw [thru_none e]; exact .inr (.inr rfl)
    | some c =>
      by_cases e2 : meetHow (meetL T 0 c) = 0
      · rw [thru_go e e2]; exact ih _
      · rw [thru_stop e e2]
        simp only
        cases e3 : meetL T 0 c with
        | none => exact .inr (.inr rfl)
        | some f =>
          by_cases e4 : f = 0
          · exact .inr (.inl (by simp [meetHow, e4]))
          · exact absurd (by rw [e3]; simp [meetHow, e4]) e2
theorem followsD_eq {C : List (Int × List Int)} {last : Int} (hG : Good C last) {lits : List Int} (h0 : ∀ x ∈ lits, x ≠ 0) (hs : List Int) : followsD C lits hs = followsF (look C) (all C) lits hs := by
  have hF : ∀ i c, look C i = some c → ∀ x ∈ c, x ≠ 0 := fun i c e x hx => (hG.lits x (mem_all (look_mem e) x hx)).1
  unfold followsD followsF
  rw [both_iff h0]
  cases e : (denyL 0 [] lits).1 with
  | true => rw [if_pos rfl, if_pos rfl]
  | false =>
    simp only [Bool.false_eq_true, if_false]
    obtain ⟨t1, t2⟩ := thruD_eq (look C) hF (ahead hs) _ _ (eqs_deny h0 e)
    rw [t1]
    rcases thru_how (look C) (ahead hs) (denyL 0 [] lits).2 with q | q | q
    · rw [q, if_neg (by decide), if_neg (by decide)]
      by_cases hl : lits = []
      · rw [if_pos hl, if_neg (by rw [hl]; simp)]; rfl
      · rw [if_neg hl, if_pos ⟨rfl, List.length_pos_iff.2 hl⟩]
        exact coverD_eq hG t2 _ _ [] _ (by simp) (by simp) (by simp)
    · rw [q, if_neg (by decide), if_pos rfl, if_neg (by omega)]; rfl
    · rw [q, if_pos rfl, if_neg (by omega)]; rfl
end Ckr

/- The document's checker in memory, and where a clause stands in it. -/
namespace Go.Proofs.Ytjjanmgeogjngaa
open Go.RowKit Go.Maps
set_option linter.unusedVariables false

/-- A clause that stands: its id, its literals, the value of its row. -/
abbrev Hd := (Int × List Int) × Value
def hvals (q : Hd) : List Value := [.int .i64 q.1.1, q.2]
structure Hm (n : Nat) (W : World) (v : Value) (hs : List Hd) : Prop where
  row : W.ownsRow n 84 2 v hs.length (hs.flatMap hvals)
  each : ∀ q ∈ hs, W.ownsRow n 40 1 q.2 q.1.2.length (q.1.2.map (Value.int .i32))
theorem Hm.nil (n : Nat) (W : World) : Hm n W (.slice none 0 0) [] := ⟨World.ownsRow_nil _ _ _ _, fun q hq => by cases hq⟩
theorem Hm.keep {n : Nat} {W W' : World} {v : Value} {hs : List Hd} (h : Hm n W v hs) (hk : ∀ (g : Nat) (cs : Array Value) (ty : TypeId), (ty = 84 ∨ ty = 40) → n ≤ g → W.heap[g]? = some (.cells cs ty (0, 0)) → W'.heap[g]? = W.heap[g]?) : Hm n W' v hs :=
  ⟨own_keep h.row (fun g cs e hg => hk g cs _ (.inl rfl) (own_blk h.row e).1 hg), fun q hq => own_keep (h.each q hq) (fun g cs e hg => hk g cs _ (.inr rfl) (own_blk (h.each q hq) e).1 hg)⟩
theorem Hm.below {n : Nat} {W W' : World} {v : Value} {hs : List Hd} (h : Hm n W v hs) (hb : Below W.heap.size W W') : Hm n W' v hs := h.keep (fun g cs ty _ _ hg => hb.block g (Array.getElem?_eq_some_iff.1 hg).1)
theorem hflat_at (qs : List Hd) : ∀ (j r : Nat) (hj : j < qs.length), r < 2 → (qs.flatMap hvals)[j * 2 + r]? = (hvals qs[j])[r]? := by
  induction qs with
  | nil => intro j r hj; simp at hj
  | cons q qs ih =>
    intro j r hj hr
    rw [List.flatMap_cons]
    cases j with
    | zero =>
      rw [List.getElem?_append_left (by simp [hvals]; omega)]
      simp
    | succ j =>
      rw [List.getElem?_append_right (by simp [hvals]; omega)]
      have := ih j r (by simpa using hj) hr
      rw [show (j + 1) * 2 + r - (hvals q).length = j * 2 + r by simp [hvals]; omega]
      simpa using this
theorem Hm.at {n : Nat} {W : World} {v : Value} {hs : List Hd} (h : Hm n W v hs) {j : Nat} (hj : j < hs.length) : ∃ g c a' c', v = .slice (some ⟨g, 0, none⟩) hs.length c ∧ W.cell? ⟨g, j * 2, none⟩ = some (.int .i64 hs[j].1.1) ∧ W.cell? ⟨g, j * 2 + 1, none⟩ = some (.slice a' hs[j].1.2.length c') ∧ hs[j].2 = .slice a' hs[j].1.2.length c' := by
  rcases h.row.2 with ⟨_, h0⟩ | ⟨g, cap, cur, e1, hb, hg, hnc, hcm, hcs, htk⟩
  · omega
  · obtain ⟨a', c', e⟩ := own_slc (h.each hs[j] (List.getElem_mem hj))
    have hc : ∀ r, r < 2 → W.cell? ⟨g, j * 2 + r, none⟩ = (hvals hs[j])[r]? := fun r hr => by
      have e2 : (cur.toList.take (hs.length * 2))[j * 2 + r]? = cur.toList[j * 2 + r]? := List.getElem?_take_of_lt (by omega)
      rw [htk, hflat_at hs j r hj hr] at e2
      rw [row_cell hg (j * 2 + r), ← Array.getElem?_toList, ← e2]
    exact ⟨g, cap, a', c', e1, hc 0 (by omega), (hc 1 (by omega)).trans (by simp [hvals, e]), e⟩
theorem info84 : (Try.prog.info? 84).map (fun i => (i.zero, i.size, i.bytes)) = some (some (.agg #[.int .i64 0, .slice none 0 0]), 2, 32) := by kernel_rfl
/-- A clause more. -/
theorem Hm.push {n : Nat} {W : World} {v : Value} {hs : List Hd} (h : Hm n W v hs) (q : Hd) (hq : W.ownsRow n 40 1 q.2 q.1.2.length (q.1.2.map (Value.int .i32))) (hl : hs.length ≤ 4194304) (hb : n ≤ W.heap.size) :
    ∃ o c B, (Builtin.append_ #[77, 77] 77 #[v, .slice (some ⟨W.heap.size, 0, none⟩) 1 1]).run Try.prog (W.alloc (.cells #[.int .i64 q.1.1, q.2] 84)) = .ok (.slice o (hs.length + 1) c) B ∧
      Hm n B (.slice o (hs.length + 1) c) (hs ++ [q]) ∧ (∀ k, k < W.heap.size → v.ownBlock ≠ some k → B.heap[k]? = W.heap[k]?) ∧ W.heap.size ≤ B.heap.size ∧ B.os = W.os ∧ B.tape = W.tape ∧ B.output = W.output ∧ Nw W v.ownBlock (Value.slice o (hs.length + 1) c).ownBlock := by
  obtain ⟨i0, hi, hz⟩ := Option.map_eq_some_iff.1 info84
  simp only [Prod.mk.injEq] at hz
  obtain ⟨hz0, hz1, hz2⟩ := hz
  obtain ⟨W1, hW1⟩ : ∃ W1, W.alloc (.cells #[.int .i64 q.1.1, q.2] 84) = W1 := ⟨_, rfl⟩
  have hM : W1.heap[W.heap.size]? = some (.cells #[.int .i64 q.1.1, q.2] 84 (0, 0)) := by rw [← hW1]; exact heap_alloc_new _ _
  have h01 : Below W.heap.size W W1 := by rw [← hW1]; exact below_box _ _
  have hs1 : W1.heap.size = W.heap.size + 1 := by rw [← hW1]; simp
  have hop := own_below h.row h01
  rw [hW1]
  obtain ⟨v2, B, hr, ho2, hg, _, hat⟩ := run_append_own_at (P := Try.prog) W1 n 77 77 84 i0 _ 2 32 Try.underlying77 hi hz0 hz1 hz2 rfl (by decide) v hs.length _ hop ⟨W.heap.size, 0, none⟩ 1 1 (hvals q) rfl (fun j u hu => by
    match j, hu with
    | 0, hu => rw [show (⟨W.heap.size, 0, none⟩ : Addr).add 0 = ⟨W.heap.size, 0, none⟩ from rfl, row_cell hM 0]; exact hu
    | 1, hu => rw [show (⟨W.heap.size, 0, none⟩ : Addr).add 1 = ⟨W.heap.size, 1, none⟩ from rfl, row_cell hM 1]; exact hu
    | j + 2, hu => simp [hvals] at hu) (by
      intro u hu
      simp [hvals] at hu
      rcases hu with rfl | rfl
      · rfl
      · exact own_one hq) (by simp [maxLen]; omega) (by omega) (by omega)
  obtain ⟨o', cp', rfl⟩ := own_slc ho2
  have keep : ∀ k, k < W.heap.size → v.ownBlock ≠ some k → B.heap[k]? = W.heap[k]? := fun k hk hne =>
    (hg.block _ (by omega) (fun e => hne e.symm)).trans (h01.block _ hk)
  have k40 : ∀ (u : Value) (m : Nat) (xs : List Value), W.ownsRow n 40 1 u m xs → B.ownsRow n 40 1 u m xs := fun u m xs hu => own_keep hu (fun g cs e hgc => keep g (Array.getElem?_eq_some_iff.1 hgc).1 (own_ne hgc h.row (by decide)))
  refine ⟨o', cp', B, hr, ⟨?_, ?_⟩, keep, by have := hg.size; omega, hg.os.trans h01.os, hg.tape.trans h01.tape, hg.output.trans h01.output, hat.elim .inl (fun e => .inr ⟨_, e, by omega⟩)⟩
  · rw [show (hs ++ [q]).length = hs.length + 1 by simp, List.flatMap_append]
    simpa using ho2
  · intro p hp
    rcases List.mem_append.1 hp with hp | hp
    · exact k40 _ _ _ (h.each p hp)
    · simp at hp; subst hp; exact k40 _ _ _ hq
/-- The document's checker. -/
structure Dk (n mb : Nat) (W : World) (S : Ckr.St) (hs : List Hd) (v : Value) : Prop where
  base : n ≤ mb
  is : hs.map (·.1) = S.C
  mem : Hm n W v hs
  blk : W.heap[mb]? = some (.cells #[v, .int .i64 S.last, .bool S.dn, .int .i64 (Ckr.all S.C).length] 79 (0, 0))
theorem Dk.below {n mb : Nat} {W W' : World} {S : Ckr.St} {hs : List Hd} {v : Value} (h : Dk n mb W S hs v) (hb : Below W.heap.size W W') : Dk n mb W' S hs v :=
  ⟨h.base, h.is, h.mem.below hb, (hb.block mb (Array.getElem?_eq_some_iff.1 h.blk).1).trans h.blk⟩
def FindAt (C : List (Int × List Int)) (id : Int) (k : Int) : Prop := (k = -1 ∧ Ckr.look C id = none) ∨ ∃ j, ∃ h : j < C.length, k = (j : Int) ∧ C[j].1 = id ∧ Ckr.look C id = some C[j].2
def FindTo (C : List (Int × List Int)) (id : Int) (w : World) (e : Ending) (w' : World) : Prop := ∃ k, e = .returned (.int .i64 k) ∧ FindAt C id k ∧ w' = w
theorem look_first {C : List (Int × List Int)} {id : Int} {j : Nat} (hj : j < C.length) (h : C[j].1 = id) (hb : ∀ i (hi : i < j), (C[i]'(by omega)).1 ≠ id) : Ckr.look C id = some C[j].2 := by
  unfold Ckr.look
  rw [show C.find? (fun p => p.1 == id) = some C[j] from List.find?_eq_some_iff_getElem.2 ⟨by simpa using h, j, hj, rfl, fun i hi => by simpa using hb i hi⟩]
  rfl

set_option maxRecDepth 100000 in
set_option maxHeartbeats 4000000 in
theorem find63 {n mb : Nat} {W : World} {S : Ckr.St} {hs : List Hd} {v : Value} (hD : Dk n mb W S hs v) (id : Int) (hl : S.C.length ≤ 4194304) :
    Calls Try.prog 63 #[.pointer (some ⟨mb, 0, none⟩), .int .i64 id] W fun e w' => FindTo S.C id W e w' := by
  have hlen : hs.length = S.C.length := by rw [← hD.is]; simp
  have x0 : W.cell? ⟨mb, 0, none⟩ = some v := row_cell hD.blk 0
  have HM := hid hD.mem
  have HI := hid hD.is
  obtain ⟨a, c, rfl⟩ := own_slc hD.mem.row
  obtain ⟨m, hm⟩ : ∃ m, hs.length = m := ⟨_, rfl⟩
  rw [hm] at x0
  have HL := hid hlen
  have Hm' := hid hm
  have sh : Hid (m = 0) ∨ ∃ g, a = some ⟨g, 0, none⟩ := by
    rcases Nat.eq_zero_or_pos m with h0 | h0
    · exact .inl (hid h0)
    · obtain ⟨g, c2, _, _, e, _⟩ := hD.mem.at (j := 0) (by omega)
      injection e with e
      exact .inr ⟨g, e⟩
  have hmb : m ≤ 4194304 := by omega
  clear hD hlen hm
  rcases sh with Z | ⟨g, rfl⟩
  all_goals
    go_enter Try.func63, Try.ntmps63
    go_wp2
    go_loopw [5] (fun i wr => ∃ k : Nat, i = .int .i64 k ∧ k ≤ m ∧ wr = W ∧ Hid (∀ j (h : j < S.C.length), j < k → S.C[j].1 ≠ id)) (fun i _ => m - (intOf i).toNat)
    case atStart => exact ⟨0, rfl, Nat.zero_le _, rfl, hid (fun j h hj => by omega)⟩
    case round =>
      obtain ⟨k, rfl, hk, rfl, HN⟩ := hrel
      by_cases hlt : k < m
      · have hlt' : (k : Int) < m := by omega
        first
        | (exfalso; have := Z.out; omega)
        | (have hkh : k < hs.length := by rw [Hm'.out]; exact hlt
           have hkc : k < S.C.length := by rw [← HL.out]; exact hkh
           obtain ⟨g2, c2, a', c', e1, y0, _, _⟩ := HM.out.at hkh
           injection e1 with e1 _ _
           injection e1 with e1
           injection e1 with e1
           subst e1
           have hid0 : hs[k].1.1 = S.C[k].1 := by
             have : (hs.map (·.1))[k]? = S.C[k]? := by rw [HI.out]
             rw [List.getElem?_map, List.getElem?_eq_getElem hkh, List.getElem?_eq_getElem hkc] at this
             simp at this
             rw [this]
           rw [hid0] at y0
           by_cases hq : S.C[k].1 = id
           · have HOut := hid (show FindAt S.C id k from .inr ⟨k, hkc, rfl, hq, look_first hkc hq (fun i hi => HN.out i (by omega) hi)⟩)
             rw [hq] at y0
             clear hid0 hq
             go_wp2
             go_ret
             exact ⟨_, rfl, HOut.out, rfl⟩
           · have HN2 := hid (show ∀ j (h : j < S.C.length), j < k + 1 → S.C[j].1 ≠ id from fun j h hj => by
               rcases Nat.lt_or_ge j k with q | q
               · exact HN.out j h q
               · obtain rfl : j = k := by omega
                 exact hq)
             generalize S.C[k].1 = z at y0 hq
             have hqb : (z == id) = false := by simpa using hq
             clear hid0
             go_wp2
             go_roundw
             case rel => exact ⟨k + 1, by go_num, by omega, by trivial, HN2⟩
             case measure => simp [intOf]; omega)
      · have hge : ¬ (k : Int) < m := by omega
        have HOut := hid (show FindAt S.C id (-1) from .inl ⟨rfl, Ckr.look_none.2 fun p hp => by
          obtain ⟨j, hj, rfl⟩ := List.mem_iff_getElem.1 hp
          exact HN.out j hj (by rw [← HL.out, Hm'.out] at hj; omega)⟩)
        go_wp2
        go_ret
        exact ⟨_, rfl, HOut.out, rfl⟩
end Go.Proofs.Ytjjanmgeogjngaa

/- The document's checker: a clause stands. -/
namespace Go.Proofs.Ytjjanmgeogjngaa
open Go.RowKit Go.Maps
set_option linter.unusedVariables false

/-- A checker that a call left behind: nothing turned but its block and its row. -/
def DkTo (n mb : Nat) (v : Value) (W : World) (S : Ckr.St) (e : Ending) (W' : World) (r : Value) : Prop :=
  e = .returned r ∧ ∃ hs' v', Dk n mb W' S hs' v' ∧ Tw mb v.ownBlock W W' ∧ Nw W v.ownBlock v'.ownBlock
theorem heap_set_ne {W : World} {b k g : Nat} (u : Value) (h : g ≠ b) : (W.setCell ⟨b, k, none⟩ u).heap[g]? = W.heap[g]? := heap_other _ _ h

set_option maxRecDepth 100000 in
set_option maxHeartbeats 4000000 in
theorem put42 {n mb : Nat} {W : World} {S : Ckr.St} {hs : List Hd} {v : Value} (hD : Dk n mb W S hs v) (id : Int) (a : Option Addr) (nl c : Nat) (xs : List Int) (hx : Lits W a xs) (hn : xs.length = nl) (hl : nl ≤ 16777216) (hcl : S.C.length ≤ 4194304) (hal : (Ckr.all S.C).length ≤ 1099511627776) :
    Calls Try.prog 42 #[.pointer (some ⟨mb, 0, none⟩), .int .i64 id, .slice a nl c] W fun e W' => DkTo n mb v W ⟨S.C ++ [(id, xs)], id, S.dn || xs.isEmpty⟩ e W' (.tuple #[]) := by
  have hmb : mb < W.heap.size := (Array.getElem?_eq_some_iff.1 hD.blk).1
  have hnW : n ≤ W.heap.size := by have := hD.base; omega
  obtain ⟨o, d, B1, R1, ho1, hB1⟩ := lits_arg c hx (by omega)
  rw [hn] at R1 ho1
  have hD1 := hD.below hB1
  have hlen : hs.length = S.C.length := by rw [← hD.is]; simp
  obtain ⟨o2, c2, B2, R2, hM2, hk2, hz2, q1, q2, q3, hNw⟩ := hD1.mem.push ((id, xs), .slice o nl d) (by rw [hn]; exact own_base ho1 hnW) (by omega) (Nat.le_trans hnW hB1.size)
  simp only at R2
  have hvb : v.ownBlock ≠ some mb := fun e => own_ne hD1.blk hD1.mem.row (by decide) e
  have hmb1 : mb < B1.heap.size := Nat.lt_of_lt_of_le hmb hB1.size
  have b2 : B2.heap[mb]? = some (.cells #[v, .int .i64 S.last, .bool S.dn, .int .i64 (Ckr.all S.C).length] 79 (0, 0)) := (hk2 mb hmb1 hvb).trans hD1.blk
  have x0 : B1.cell? ⟨mb, 0, none⟩ = some v := row_cell hD1.blk 0
  have hT : Tw mb v.ownBlock W B2 := ⟨q1.trans hB1.os, q2.trans hB1.tape, q3.trans hB1.output, Nat.le_trans hB1.size hz2, fun g hg hne hv => (hk2 g (Nat.lt_of_lt_of_le hg hB1.size) (fun e => hv e.symm)).trans (hB1.block g hg)⟩
  obtain ⟨v2, hv2⟩ : ∃ v2, Value.slice o2 (hs.length + 1) c2 = v2 := ⟨_, rfl⟩
  rw [hv2] at R2 hM2 hNw
  have hLA : wrap64 (((Ckr.all S.C).length : Int) + nl) = ((Ckr.all S.C).length : Int) + nl := by unfold wrap64; omega
  have he : xs.isEmpty = ((nl : Int) == 0) := by rw [← hn]; cases xs <;> simp <;> omega
  have b3 := heap_set_row (k := 0) b2 v2
  generalize hW3 : B2.setCell ⟨mb, 0, none⟩ v2 = W3 at b3
  have b4 := heap_set_row (k := 1) b3 (.int .i64 id)
  generalize hW4 : W3.setCell ⟨mb, 1, none⟩ (.int .i64 id) = W4 at b4
  have b5 := heap_set_row (k := 3) b4 (.int .i64 (((Ckr.all S.C).length : Int) + nl))
  generalize hW5 : W4.setCell ⟨mb, 3, none⟩ (.int .i64 (((Ckr.all S.C).length : Int) + nl)) = W5 at b5
  have b6 := heap_set_row (k := 2) b5 (.bool (S.dn || xs.isEmpty))
  generalize hW6 : W5.setCell ⟨mb, 2, none⟩ (.bool (S.dn || xs.isEmpty)) = W6 at b6
  simp only [List.setIfInBounds_toArray, List.set_cons_zero, List.set_cons_succ] at b3 b4 b5 b6
  have OUT : Hid (DkTo n mb v W ⟨S.C ++ [(id, xs)], id, S.dn || xs.isEmpty⟩ (.returned (.tuple #[])) W6 (.tuple #[])) := by
    have hne : ∀ g, g ≠ mb → W6.heap[g]? = B2.heap[g]? := fun g hg => by
      rw [← hW6, heap_set_ne _ hg, ← hW5, heap_set_ne _ hg, ← hW4, heap_set_ne _ hg, ← hW3, heap_set_ne _ hg]
    have hsz : W6.heap.size = B2.heap.size := by rw [← hW6, ← hW5, ← hW4, ← hW3]; simp
    refine ⟨rfl, hs ++ [((id, xs), .slice o nl d)], v2, ⟨hD.base, by simp [hD.is], hM2.keep (fun g cs ty ht hg hc => hne g ?_), ?_⟩, ⟨?_, ?_, ?_, by have := hT.size; omega, fun g hg h1 h2 => (hne g h1).trans (hT.block g hg h1 h2)⟩, ?_⟩
    · rintro rfl
      rw [b2] at hc
      injection hc with e1
      injection e1 with _ e2
      rcases ht with h | h <;> (rw [h] at e2; cases e2)
    · rw [b6, Ckr.all_snoc, List.length_append, hn, Int.natCast_add]
    · rw [← hW6, ← hW5, ← hW4, ← hW3]; exact hT.os
    · rw [← hW6, ← hW5, ← hW4, ← hW3]; exact hT.tape
    · rw [← hW6, ← hW5, ← hW4, ← hW3]; exact hT.output
    · exact hNw.imp _root_.id (fun ⟨g, e, h⟩ => ⟨g, e, Nat.le_trans hB1.size h⟩)
  have RN1 := hid R1
  have RN2 := hid R2
  have y0 := row_frozen b2 0
  have y1 := row_frozen b3 1
  have y3 := row_frozen b4 3
  have y2 := row_frozen b5 2
  have z3 : W4.cell? ⟨mb, 3, none⟩ = some (.int .i64 (Ckr.all S.C).length) := row_cell b4 3
  have z2 : W5.cell? ⟨mb, 2, none⟩ = some (.bool S.dn) := row_cell b5 2
  have u0 : B2.cell? ⟨mb, 0, none⟩ = some v := row_cell b2 0
  have u1 : W3.cell? ⟨mb, 1, none⟩ = some (.int .i64 S.last) := row_cell b3 1
  rw [he] at hW6 OUT ⊢
  obtain ⟨aL, cL, rfl⟩ := own_slc hD.mem.row
  subst hv2
  clear hD hD1 hx hM2 hk2 hT b2 b3 b4 b5 b6 ho1 hB1 R1 R2 hNw hvb q1 q2 q3 hz2 hal he hmb1 hlen
  generalize ((Ckr.all S.C).length : Int) = LA at *
  generalize hs.length = m at *
  cases hdn : S.dn
  all_goals
    rw [hdn] at z2 hW6 OUT
    go_enter Try.func42, Try.ntmps42
    go_wp2_with (first
      | (at_builtin; refine wpList_append_run rfl (.tmp 7) (.tmp 8) 39 39 rfl rfl rfl RN1.out ?_; clear RN1)
      | (at_builtin; refine wpList_append_run rfl (.tmp 14) (.tmp 18) 77 77 rfl rfl rfl RN2.out ?_; clear RN2))
    go_end0
    subst hW6
    exact OUT.out
end Go.Proofs.Ytjjanmgeogjngaa

/- The document's checker of a formula. -/
namespace Ckr
theorem num_len (cs : List (List Int)) : ∀ i, (num i cs).length = cs.length := by
  induction cs with
  | nil => intro i; rfl
  | cons c cs ih => intro i; simp [num, ih]
end Ckr
namespace Go.Proofs.Ytjjanmgeogjngaa
open Go.RowKit Go.Maps
set_option linter.unusedVariables false

theorem Dk.mono {n n' mb : Nat} {W : World} {S : Ckr.St} {hs : List Hd} {v : Value} (h : Dk n mb W S hs v) (hn : n' ≤ n) : Dk n' mb W S hs v :=
  ⟨Nat.le_trans hn h.base, h.is, ⟨own_base h.mem.row hn, fun q hq => own_base (h.mem.each q hq) hn⟩, h.blk⟩
theorem Dk.tw {n mb : Nat} {W W' : World} {S : Ckr.St} {hs : List Hd} {v : Value} (h : Dk n mb W S hs v) (ht : Tw mb v.ownBlock W W') : Below n W W' :=
  ⟨ht.os, ht.tape, ht.output, ht.size, fun g hg => ht.block g (by have := (Array.getElem?_eq_some_iff.1 h.blk).1; have := h.base; omega) (by have := h.base; omega) (fun e => by have := (own_blk h.mem.row e.symm).1; omega)⟩
theorem Dk.new (n mb : Nat) (W : World) (h : n ≤ mb) (hb : W.heap[mb]? = some (.cells #[.slice none 0 0, .int .i64 0, .bool false, .int .i64 0] 79 (0, 0))) : Dk n mb W (Ckr.new []) [] (.slice none 0 0) :=
  ⟨h, rfl, Hm.nil _ _, hb⟩
def DNewOut (w : World) (cs : List (List Int)) (e : Ending) (w' : World) : Prop :=
  ∃ mb hs v, e = .returned (.tuple #[.pointer (some ⟨mb, 0, none⟩), .int .i64 0]) ∧ Dk w.heap.size mb w' (Ckr.new cs) hs v ∧ Below w.heap.size w w'
set_option maxRecDepth 100000 in
set_option maxHeartbeats 4000000 in
theorem new14_err (vars : Int) (a : Option Addr) (n cap : Nat) (cs : List (List Int)) (w : World) (hn : cs.length = n) (hc : Cls w a cs) (hr : ¬ Cnf.right vars cs = 0) :
    Calls Try.prog 14 #[.agg #[.int .i64 vars, .slice a n cap]] w fun e w' => e = .returned (.tuple #[.pointer none, .int .i64 (Cnf.right vars cs)]) ∧ Below w.heap.size w w' := by
  have hB := below_box w (.cells #[.int .i64 vars, .slice a n cap] 24)
  have hx := heap_alloc_new w (.cells #[.int .i64 vars, .slice a n cap] 24)
  generalize hW1 : w.alloc (.cells #[.int .i64 vars, .slice a n cap] 24) = W1 at hB hx
  have C41 := hid (right41 vars a n cap cs W1 hn (hc.below hB))
  have x0 : W1.cell? ⟨w.heap.size, 0, none⟩ = some (.int .i64 vars) := row_cell hx 0
  have x1 : W1.cell? ⟨w.heap.size, 1, none⟩ = some (.slice a n cap) := row_cell hx 1
  have HB := hid hB
  generalize Cnf.right vars cs = q at C41 hr ⊢
  have hq : (q == 0) = false := by simpa using hr
  have hq2 : (q != 0) = true := by simpa using hr
  clear hx hB hc hn hr
  go_enter Try.func14, Try.ntmps14
  go_wp2_with (go_at_call 41; refine C41.out.mono ?_; clear C41; rintro e W2 ⟨rfl, hB2⟩; have HB2 := hid hB2; clear hB2)
  go_ret2
  exact ⟨rfl, HB.out.trans (HB2.out.mono HB.out.size)⟩
set_option maxRecDepth 100000 in
set_option maxHeartbeats 4000000 in
theorem new14 (vars : Int) (a : Option Addr) (n cap : Nat) (cs : List (List Int)) (w : World) (hn : cs.length = n) (hc : Cls w a cs) (hr : Cnf.right vars cs = 0) :
    Calls Try.prog 14 #[.agg #[.int .i64 vars, .slice a n cap]] w fun e w' => DNewOut w cs e w' := by
  have hB := below_box w (.cells #[.int .i64 vars, .slice a n cap] 24)
  have hx := heap_alloc_new w (.cells #[.int .i64 vars, .slice a n cap] 24)
  generalize hW1 : w.alloc (.cells #[.int .i64 vars, .slice a n cap] 24) = W1 at hB hx
  have C41 := hid (right41 vars a n cap cs W1 hn (hc.below hB))
  rw [hr] at C41
  have x0 : W1.cell? ⟨w.heap.size, 0, none⟩ = some (.int .i64 vars) := row_cell hx 0
  have x1 : W1.cell? ⟨w.heap.size, 1, none⟩ = some (.slice a n cap) := row_cell hx 1
  obtain ⟨v0, v1, hcl, hfl, hlit⟩ := right_zero hr
  have HB := hid hB
  have HX := hid (Array.getElem?_eq_some_iff.1 hx).1
  have HC := hid hc
  have HN := hid hn
  have HCL := hid hcl
  have HFL := hid hfl
  clear hx hB hc hn hr hcl hfl hlit v0 v1
  go_enter Try.func14, Try.ntmps14
  go_wp2_with (go_at_call 41; refine C41.out.mono ?_; clear C41; rintro e W2 ⟨rfl, hB2⟩
               have hB4 := below_box W2 (.cells #[.slice none 0 0, .int .i64 0, .bool false, .int .i64 0] 79)
               have hc4 := heap_alloc_new W2 (.cells #[.slice none 0 0, .int .i64 0, .bool false, .int .i64 0] 79)
               generalize hW4 : W2.alloc (.cells #[.slice none 0 0, .int .i64 0, .bool false, .int .i64 0] 79) = W4 at hB4 hc4
               have y1 : W2.cell? ⟨w.heap.size, 1, none⟩ = some (.slice a n cap) := (hB2.cell (p := ⟨w.heap.size, 1, none⟩) HX.out).trans x1
               have HX2 := hid (Nat.lt_of_lt_of_le HX.out hB2.size)
               have HB2 := hid (HB.out.trans (hB2.mono HB.out.size))
               have HB4 := hid hB4
               have HD := hid (Dk.new W2.heap.size W2.heap.size W4 (Nat.le_refl _) hc4)
               clear hB2 hB4 hc4)
  have hnb : n ≤ 1048576 := by rw [← HN.out]; exact HCL.out
  generalize hmb : W2.heap.size = mb at HD ⊢
  clear hW4 x0 x1 hW1
  go_loopw [6] (fun i wr => ∃ (k : Nat) (hs : List Hd) (v : Value), i = .int .i64 k ∧ k ≤ n ∧ Hid (Dk mb mb wr (Ckr.new (cs.take k)) hs v) ∧ Hid (Below W2.heap.size W2 wr)) (fun i _ => n - (intOf i).toNat)
  case atStart => exact ⟨0, [], .slice none 0 0, rfl, Nat.zero_le _, HD, HB4⟩
  case round =>
    clear HD HB4
    obtain ⟨k, hs, v, rfl, hk, HD, HBe⟩ := hrel
    have z1 : wr.cell? ⟨w.heap.size, 1, none⟩ = some (.slice a n cap) := (HBe.out.cell (p := ⟨w.heap.size, 1, none⟩) HX2.out).trans y1
    by_cases hlt : k < n
    · have hlt' : (k : Int) < n := by omega
      have hkl : k < cs.length := by rw [HN.out]; exact hlt
      have hBw : Below w.heap.size w wr := HB2.out.trans (HBe.out.mono HB2.out.size)
      obtain ⟨b, off, a', cap', rfl, hbl, hcell, hL, _⟩ := HC.out.at hkl
      have hcw : wr.cell? ⟨b, off + k, none⟩ = some (.slice a' (cs.getD k []).length cap') := (hBw.cell (p := ⟨b, off + k, none⟩) hbl).trans hcell
      have hflen := Cnf.flat_len cs k hkl
      have hfle : ((cs.take (k + 1)).flatten).length ≤ cs.flatten.length := by
        conv => rhs; rw [← List.take_append_drop (k + 1) cs, List.flatten_append, List.length_append]
        omega
      have hfl := HFL.out
      have hal : (Ckr.all (Ckr.new (cs.take k)).C).length ≤ 1099511627776 := by
        show (Ckr.all (Ckr.num 1 (cs.take k))).length ≤ _
        rw [Ckr.num_all]; omega
      have hnC : (Ckr.new (cs.take k)).C.length ≤ 4194304 := by
        show (Ckr.num 1 (cs.take k)).length ≤ _
        rw [Ckr.num_len, List.length_take]
        omega
      have C42 := hid (put42 HD.out ((k : Int) + 1) a' _ cap' (cs.getD k []) (hL.below hBw) rfl (by omega) hnC hal)
      have HS2 := hid (show (⟨(Ckr.new (cs.take k)).C ++ [((k : Int) + 1, cs.getD k [])], (k : Int) + 1, (Ckr.new (cs.take k)).dn || (cs.getD k []).isEmpty⟩ : Ckr.St) = Ckr.new (cs.take (k + 1)) by
        unfold Ckr.new
        rw [Cnf.take_cls cs k hkl, Ckr.num_snoc, List.length_append, List.length_take, Nat.min_eq_left (by omega)]
        simp [Int.add_comm])
      rw [HS2.out] at C42
      generalize (cs.getD k []).length = nk at hcw C42
      clear hflen hfle hL hcell hbl hkl hal hnC hfl hBw
      go_wp2_with (go_at_call 42; refine C42.out.mono ?_; clear C42; rintro e W5 ⟨rfl, hs5, v5, hD5, hT5, hN5⟩
                   have HD5 := hid hD5
                   have HB5 : Hid (Below W2.heap.size W2 W5) := HBe.out.trans (by rw [hmb]; exact HD.out.tw hT5)
                   clear hD5 hT5 hN5)
      go_roundw
      case rel => exact ⟨k + 1, hs5, v5, by go_num, by omega, HD5, HB5⟩
      case measure => simp [intOf]; omega
    · have hge : ¬ (k : Int) < n := by omega
      obtain rfl : k = n := by omega
      have HE : Hid (DNewOut w cs (.returned (.tuple #[.pointer (some ⟨mb, 0, none⟩), .int .i64 0])) wr) := by
        refine ⟨mb, hs, v, rfl, ?_, HB2.out.trans (HBe.out.mono HB2.out.size)⟩
        have h := HD.out
        rw [List.take_of_length_le (by rw [HN.out]; omega)] at h
        exact h.mono (by rw [← hmb]; exact HB2.out.size)
      go_wp2
      go_ret2
      exact HE.out
end Go.Proofs.Ytjjanmgeogjngaa

/- Rows of literals and of ids of one's own, and one more. -/
namespace Go.Proofs.Ytjjanmgeogjngaa
open Go.RowKit Go.Maps
set_option linter.unusedVariables false

/-- Nothing turned but one block, which may be none; what is new lies behind. -/
structure Yw (y : Option Nat) (W W' : World) : Prop where
  os : W'.os = W.os
  tape : W'.tape = W.tape
  output : W'.output = W.output
  size : W.heap.size ≤ W'.heap.size
  block : ∀ g, g < W.heap.size → some g ≠ y → W'.heap[g]? = W.heap[g]?
theorem Yw.refl (y : Option Nat) (W : World) : Yw y W W := ⟨rfl, rfl, rfl, Nat.le_refl _, fun _ _ _ => rfl⟩
theorem Yw.trans {y y1 : Option Nat} {W W1 W2 : World} (h : Yw y W W1) (h1 : Yw y1 W1 W2) (hn : Nw W y y1) : Yw y W W2 :=
  ⟨h1.os.trans h.os, h1.tape.trans h.tape, h1.output.trans h.output, Nat.le_trans h.size h1.size, fun g hg hy => (h1.block g (Nat.lt_of_lt_of_le hg h.size) (hn.ne hg hy)).trans (h.block g hg hy)⟩
theorem Yw.of_below {y : Option Nat} {W W' : World} (h : Below W.heap.size W W') : Yw y W W' := ⟨h.os, h.tape, h.output, h.size, fun g hg _ => h.block g hg⟩
theorem Yw.below {y : Option Nat} {n : Nat} {W W' : World} (h : Yw y W W') (hn : n ≤ W.heap.size) (hy : ∀ g, y = some g → n ≤ g) : Below n W W' :=
  ⟨h.os, h.tape, h.output, h.size, fun g hg => h.block g (by omega) (fun e => by have := hy g e.symm; omega)⟩
/-- A literal more. -/
theorem lit_push {n : Nat} {W : World} {v : Value} {xs : List Int} (h : W.ownsRow n 40 1 v xs.length (xs.map (Value.int .i32))) (l : Int) (hl : xs.length ≤ 1073741824) (hb : n ≤ W.heap.size) :
    ∃ o c B, (Builtin.append_ #[39, 39] 39 #[v, .slice (some ⟨W.heap.size, 0, none⟩) 1 1]).run Try.prog (W.alloc (.cells #[.int .i32 l] 40)) = .ok (.slice o (xs.length + 1) c) B ∧
      B.ownsRow n 40 1 (.slice o (xs.length + 1) c) (xs.length + 1) ((xs ++ [l]).map (Value.int .i32)) ∧ Yw v.ownBlock W B ∧ Nw W v.ownBlock (Value.slice o (xs.length + 1) c).ownBlock := by
  obtain ⟨i0, hi, hz⟩ := Option.map_eq_some_iff.1 info44
  simp only [Prod.mk.injEq] at hz
  have h01 := below_box W (.cells #[.int .i32 l] 40)
  have hM := heap_alloc_new W (.cells #[.int .i32 l] 40)
  have hs1 : (W.alloc (.cells #[.int .i32 l] 40)).heap.size = W.heap.size + 1 := by simp
  generalize W.alloc (.cells #[.int .i32 l] 40) = W1 at h01 hM hs1
  obtain ⟨v2, B, hr, ho2, hg, _, hat⟩ := run_append_own_at (P := Try.prog) W1 n 39 39 40 i0 _ 1 4 Try.underlying39 hi hz.1 hz.2.1 hz.2.2 rfl (by decide) v xs.length _ (own_below h h01) ⟨W.heap.size, 0, none⟩ 1 1 [.int .i32 l] rfl (fun j w hw => by
    match j, hw with
    | 0, hw => rw [show (⟨W.heap.size, 0, none⟩ : Addr).add 0 = ⟨W.heap.size, 0, none⟩ from rfl, row_cell hM 0]; exact hw
    | j + 1, hw => simp at hw) (by intro w hw; simp at hw; subst hw; rfl) (by simp [maxLen]; omega) (by omega) (by omega)
  obtain ⟨o, c, rfl⟩ := own_slc ho2
  refine ⟨o, c, B, hr, by simpa using ho2, ⟨hg.os.trans h01.os, hg.tape.trans h01.tape, hg.output.trans h01.output, by have := hg.size; omega, fun g hgl hne => (hg.block g (by omega) hne).trans (h01.block g hgl)⟩, hat.elim .inl (fun e => .inr ⟨_, e, by omega⟩)⟩
/-- An id more. -/
theorem id_push {n : Nat} {W : World} {v : Value} {xs : List Int} (h : W.ownsRow n 2 1 v xs.length (xs.map (Value.int .i64))) (l : Int) (hl : xs.length ≤ 1073741824) (hb : n ≤ W.heap.size) :
    ∃ o c B, (Builtin.append_ #[42, 42] 42 #[v, .slice (some ⟨W.heap.size, 0, none⟩) 1 1]).run Try.prog (W.alloc (.cells #[.int .i64 l] 2)) = .ok (.slice o (xs.length + 1) c) B ∧
      B.ownsRow n 2 1 (.slice o (xs.length + 1) c) (xs.length + 1) ((xs ++ [l]).map (Value.int .i64)) ∧ Yw v.ownBlock W B ∧ Nw W v.ownBlock (Value.slice o (xs.length + 1) c).ownBlock := by
  obtain ⟨i0, hi, hz⟩ := Option.map_eq_some_iff.1 info2
  simp only [Prod.mk.injEq] at hz
  have h01 := below_box W (.cells #[.int .i64 l] 2)
  have hM := heap_alloc_new W (.cells #[.int .i64 l] 2)
  have hs1 : (W.alloc (.cells #[.int .i64 l] 2)).heap.size = W.heap.size + 1 := by simp
  generalize W.alloc (.cells #[.int .i64 l] 2) = W1 at h01 hM hs1
  obtain ⟨v2, B, hr, ho2, hg, _, hat⟩ := run_append_own_at (P := Try.prog) W1 n 42 42 2 i0 _ 1 8 Try.underlying42 hi hz.1 hz.2.1 hz.2.2 rfl (by decide) v xs.length _ (own_below h h01) ⟨W.heap.size, 0, none⟩ 1 1 [.int .i64 l] rfl (fun j w hw => by
    match j, hw with
    | 0, hw => rw [show (⟨W.heap.size, 0, none⟩ : Addr).add 0 = ⟨W.heap.size, 0, none⟩ from rfl, row_cell hM 0]; exact hw
    | j + 1, hw => simp at hw) (by intro w hw; simp at hw; subst hw; rfl) (by simp [maxLen]; omega) (by omega) (by omega)
  obtain ⟨o, c, rfl⟩ := own_slc ho2
  refine ⟨o, c, B, hr, by simpa using ho2, ⟨hg.os.trans h01.os, hg.tape.trans h01.tape, hg.output.trans h01.output, by have := hg.size; omega, fun g hgl hne => (hg.block g (by omega) hne).trans (h01.block g hgl)⟩, hat.elim .inl (fun e => .inr ⟨_, e, by omega⟩)⟩
theorem Hm.yw {n : Nat} {W W' : World} {v : Value} {hs : List Hd} {y : Option Nat} (h : Hm n W v hs) (hk : Yw y W W') (hy : ∀ g, y = some g → v.ownBlock ≠ some g ∧ ∀ q ∈ hs, q.2.ownBlock ≠ some g) : Hm n W' v hs :=
  ⟨own_keep h.row (fun g cs e hg => hk.block g (Array.getElem?_eq_some_iff.1 hg).1 (fun e2 => (hy g e2.symm).1 e)), fun q hq => own_keep (h.each q hq) (fun g cs e hg => hk.block g (Array.getElem?_eq_some_iff.1 hg).1 (fun e2 => (hy g e2.symm).2 q hq e))⟩
end Go.Proofs.Ytjjanmgeogjngaa

/- The document's way through hints: the call. -/
namespace Go.Proofs.Ytjjanmgeogjngaa
open Go.RowKit Go.Maps
set_option linter.unusedVariables false

def ThruTo (W0 : World) (D : Int × List Int) (e : Ending) (W' : World) : Prop :=
  ∃ o c, e = .returned (.tuple #[.slice o D.2.length c, .bool (D.1 == 1), .bool (D.1 == 2)]) ∧ W'.ownsRow W0.heap.size 40 1 (.slice o D.2.length c) D.2.length (D.2.map (Value.int .i32)) ∧ Below W0.heap.size W0 W'
theorem thruD_none {F : Int → Option (List Int)} {Y hs : List Int} {h : Int} (e : F h = none) : Ckr.thruD F Y (h :: hs) = (2, Y) := by rw [Ckr.thruD, e]
theorem thruD_wrong {F : Int → Option (List Int)} {Y hs c : List Int} {h : Int} (e : F h = some c) (e2 : Ckr.openL Y [] c = none) : Ckr.thruD F Y (h :: hs) = (2, Y) := by rw [Ckr.thruD, e]; simp only [e2]
theorem thruD_conf {F : Int → Option (List Int)} {Y hs c : List Int} {h : Int} (e : F h = some c) (e2 : Ckr.openL Y [] c = some []) : Ckr.thruD F Y (h :: hs) = (1, Y) := by rw [Ckr.thruD, e]; simp only [e2]
theorem thruD_one {F : Int → Option (List Int)} {Y hs c : List Int} {h x : Int} (e : F h = some c) (e2 : Ckr.openL Y [] c = some [x]) : Ckr.thruD F Y (h :: hs) = Ckr.thruD F (Y ++ [x]) hs := by rw [Ckr.thruD, e]; simp only [e2]
theorem thruD_many {F : Int → Option (List Int)} {Y hs c op : List Int} {h : Int} (e : F h = some c) (e2 : Ckr.openL Y [] c = some op) (h2 : 1 < op.length) : Ckr.thruD F Y (h :: hs) = (2, Y) := by
  rw [Ckr.thruD, e]
  simp only [e2]
  match op, h2 with
  | x :: y :: r, _ => rfl
def Lit1 (xs : List Int) : Prop := ∀ x ∈ xs, -1048576 ≤ x ∧ x ≤ 1048576
theorem Lit1.lits {W : World} {n : Nat} {a : Option Addr} {c : Nat} {xs : List Int} (h : Lit1 xs) (ho : W.ownsRow n 40 1 (.slice a xs.length c) xs.length (xs.map (Value.int .i32))) : Lits W a xs := own_row ho (fun x hx => by have := h x hx; omega)
theorem Lit1.snoc {xs : List Int} (h : Lit1 xs) {x : Int} (hx : -1048576 ≤ x ∧ x ≤ 1048576) : Lit1 (xs ++ [x]) := fun y hy => by
  rcases List.mem_append.1 hy with q | q
  · exact h y q
  · rw [List.mem_singleton.1 q]; exact hx

set_option maxRecDepth 100000 in
set_option maxHeartbeats 8000000 in
theorem through66 {n mb : Nat} {W0 W : World} {S : Ckr.St} {hs : List Hd} {v : Value} (hD : Dk n mb W0 S hs v) (hG : Ckr.Good S.C S.last) (hcl : S.C.length ≤ 4194304) (hW : Below W0.heap.size W0 W) (Y : List Int) (ay : Option Addr) (cy : Nat) (ho : W.ownsRow W0.heap.size 40 1 (.slice ay Y.length cy) Y.length (Y.map (Value.int .i32))) (hY : Lit1 Y) (hYl : Y.length ≤ 16777216)
    (ah : Option Addr) (nh ch : Nat) (hts : List Int) (hh : Hnts W0 ah hts) (hn : hts.length = nh) (hnb : nh ≤ 1048576) :
    Calls Try.prog 66 #[.pointer (some ⟨mb, 0, none⟩), .slice ay Y.length cy, .slice ah nh ch] W fun e W' => ThruTo W0 (Ckr.thruD (Ckr.look S.C) Y hts) e W' := by
  have HD := hid hD
  have HG := hid hG
  have HCl := hid hcl
  have HW := hid hW
  have HO := hid ho
  have HY := hid hY
  have HH := hid hh
  have HN := hid hn
  obtain ⟨D, hDD⟩ : ∃ D, Ckr.thruD (Ckr.look S.C) Y hts = D := ⟨_, rfl⟩
  have HDD := hid hDD
  rw [hDD]
  obtain ⟨ny, hny⟩ : ∃ ny, Y.length = ny := ⟨_, rfl⟩
  have HNY := hid hny
  rw [hny]
  rw [hny] at HO
  have HYL := hid hYl
  clear hD hG hcl hW ho hY hh hn hDD hny hYl
  go_enter Try.func66, Try.ntmps66
  go_wp2
  go_loopw [1, 9, 10, 11, 12, 13] (fun yv iv _ _ _ _ wr => ∃ (k : Nat) (Y1 : List Int) (o : Option Addr) (c m : Nat), yv = .slice o m c ∧ iv = .int .i64 k ∧ k ≤ nh ∧ Hid (Y1.length = m) ∧ Hid (Ckr.thruD (Ckr.look S.C) Y1 (hts.drop k) = D) ∧ Hid (wr.ownsRow W0.heap.size 40 1 (.slice o m c) m (Y1.map (Value.int .i32))) ∧ Hid (Below W0.heap.size W0 wr) ∧ Hid (Lit1 Y1 ∧ m ≤ 16777216 + k)) (fun _ iv _ _ _ _ _ => nh - (intOf iv).toNat)
  case atStart => exact ⟨0, Y, ay, cy, ny, rfl, rfl, Nat.zero_le _, HNY, hid (by rw [List.drop_zero]; exact HDD.out), HO, HW, hid ⟨HY.out, by rw [← HNY.out]; exact HYL.out⟩⟩
  case round =>
    clear HO HW HY HYL HDD HNY
    obtain ⟨k, Y1, o, c, m, rfl, rfl, hk, HM, HT, HO, HB, HL⟩ := hrel
    by_cases hlt : k < nh
    · have hlt' : (k : Int) < nh := by omega
      have hkl : k < hts.length := by rw [HN.out]; exact hlt
      obtain ⟨b, off, rfl, hbl, hcell, hi1, hi2⟩ := Row.at (HH.out) hkl
      have hcw := (HB.out.cell (p := ⟨b, off + k, none⟩) hbl).trans hcell
      have HDr := hid (show hts.drop k = hts.getD k 0 :: hts.drop (k + 1) by rw [List.drop_eq_getElem_cons hkl]; simp [List.getD, hkl])
      have C63 := hid (find63 (HD.out.below HB.out) (hts.getD k 0) HCl.out)
      generalize hts.getD k 0 = h at *
      clear hcell hbl hi1 hi2
      go_wp2_with fail
      go_at_call 63
      refine C63.out.mono ?_
      clear C63
      rintro e W1 ⟨q, rfl, hfind, hWW⟩
      rw [hWW]
      clear hWW
      rcases hfind with ⟨rfl, hnone⟩ | ⟨j, hj, rfl, hid1, hsome⟩
      · have HE : Hid (ThruTo W0 D (.returned (.tuple #[.slice o m c, .bool false, .bool true])) wr) := by
          have e1 := HT.out
          rw [HDr.out, thruD_none hnone] at e1
          rw [← e1]
          refine ⟨o, c, ?_, ?_, HB.out⟩
          · simp only [HM.out]; rfl
          · simp only [HM.out]; exact HO.out
        clear hnone
        go_wp2
        go_ret3
        exact HE.out
      · have hlen : hs.length = S.C.length := by rw [← HD.out.is]; simp
        have hjh : j < hs.length := by omega
        have hjc : hs[j].1 = S.C[j] := by
          have e1 : (hs.map (·.1))[j]? = S.C[j]? := by rw [HD.out.is]
          rw [List.getElem?_map, List.getElem?_eq_getElem hjh, List.getElem?_eq_getElem hj] at e1
          simpa using e1
        have hDr := HD.out.below HB.out
        obtain ⟨gv, cv, al, cl, hve, y00, y1, hq2⟩ := hDr.mem.at hjh
        have hown := hDr.mem.each hs[j] (List.getElem_mem hjh)
        rw [hjc] at y1 hq2 hown
        rw [hq2] at hown
        have x0 : wr.cell? ⟨mb, 0, none⟩ = some v := row_cell hDr.blk 0
        rw [hve] at x0
        have hCl : Lit1 S.C[j].2 := fun x hx => (HG.out.lits x (Ckr.mem_all (List.getElem_mem hj) x hx)).2
        have HLl := hid (hCl.lits hown)
        have HCL := hid hCl
        have HSome := hid hsome
        have HLen := hid (show S.C[j].2.length ≤ 16777216 by have := Ckr.len_all (List.getElem_mem hj : S.C[j] ∈ S.C); have := HG.out.few; omega)
        have hjm : (j : Int) < hs.length := by omega
        generalize S.C[j].2 = cc at y1 HLl HCL HSome HLen
        generalize hs.length = mh at x0 hjm
        obtain ⟨nc, hnc⟩ : ∃ nc, cc.length = nc := ⟨_, rfl⟩
        rw [hnc] at y1
        have HNC := hid hnc
        have hncb : nc ≤ 16777216 := by rw [← hnc]; exact HLen.out
        obtain ⟨E, hE⟩ : ∃ E, Ckr.openL Y1 [] cc = E := ⟨_, rfl⟩
        have HE := hid hE
        clear y00 hDr hown hq2 hve hCl hsome hid1 hjc hlen hnc hE
        clear hjh hj
        obtain ⟨wo, hwo⟩ : ∃ wo, wo = wr := ⟨wr, rfl⟩
        subst hwo
        go_wp2
        go_loopw [11, 13] (fun ov kv w2 => ∃ (p : Nat) (op : List Int) (o2 : Option Addr) (c2 m2 : Nat), ov = .slice o2 m2 c2 ∧ kv = .int .i64 p ∧ p ≤ nc ∧ Hid (op.length = m2) ∧ Hid (Ckr.openL Y1 op (cc.drop p) = E) ∧ Hid (w2.ownsRow wo.heap.size 40 1 (.slice o2 m2 c2) m2 (op.map (Value.int .i32))) ∧ Hid (Below wo.heap.size wo w2) ∧ Hid (Lit1 op ∧ m2 ≤ p)) (fun _ kv _ => nc - (intOf kv).toNat)
        case atStart => exact ⟨0, [], none, 0, 0, rfl, rfl, Nat.zero_le _, hid rfl, hid (by rw [List.drop_zero]; exact HE.out), hid (World.ownsRow_nil _ _ _ _), hid (Below.refl _ _), hid ⟨(fun x hx => by cases hx), Nat.le_refl _⟩⟩
        case round =>
          obtain ⟨p, op, o2, c2, m2, rfl, rfl, hp, HM2, HE2, HO2, HB2, HL2⟩ := hrel
          have HOw := hid (own_below HO.out HB2.out)
          have HBw := hid (HB.out.trans (HB2.out.mono HB.out.size))
          by_cases hpl : p < nc
          · have hpl' : (p : Int) < nc := by omega
            have hpc : p < cc.length := by rw [HNC.out]; exact hpl
            obtain ⟨bl, ol, rfl, hbl, hcl, _, _⟩ := Row.at HLl.out hpc
            have hcx := (HB2.out.cell (p := ⟨bl, ol + p, none⟩) hbl).trans hcl
            have hxr : -1048576 ≤ cc.getD p 0 ∧ cc.getD p 0 ≤ 1048576 := HCL.out _ (Lra.getD_mem cc p hpc)
            have HDc := hid (show cc.drop p = cc.getD p 0 :: cc.drop (p + 1) by rw [List.drop_eq_getElem_cons hpc]; simp [List.getD, hpc])
            generalize cc.getD p 0 = x at *
            have xw : IntKind.i32.wrap (-x) = -x := by rw [IntKind.wrap_i32]; omega
            have hYw : Lits _ o Y1 := HL.out.1.lits (c := c) (by rw [HM.out]; exact HOw.out)
            have hOw : Lits _ o2 op := HL2.out.1.lits (c := c2) (by rw [HM2.out]; exact HO2.out)
            have hmb : m ≤ 1099511627776 := by have := HL.out.2; omega
            have hmb2 : m2 ≤ 1099511627776 := by have := HL2.out.2; omega
            have C52a := hid (has52 o m c Y1 x _ HM.out hmb hYw)
            have C52b := hid (has52 o m c Y1 (-x) _ HM.out hmb hYw)
            have C52c := hid (has52 o2 m2 c2 op x _ HM2.out hmb2 hOw)
            have HXr := hid hxr
            clear hYw hOw hcl hbl hxr hmb hmb2
            by_cases h1 : x ∈ Y1
            · rw [(Cnf.has_iff Y1 x).2 h1] at C52a
              have HEnd : Hid (∀ w3, w3 = wr → ThruTo W0 D (.returned (.tuple #[.slice o m c, .bool false, .bool true])) w3) := by
                rintro w3 rfl
                have e1 := HE2.out
                rw [HDc.out, Ckr.openL, if_pos h1] at e1
                have e2 := HT.out
                rw [HDr.out, thruD_wrong HSome.out (HE.out.trans e1.symm)] at e2
                rw [← e2]
                refine ⟨o, c, ?_, ?_, HBw.out⟩
                · simp only [HM.out]; rfl
                · simp only [HM.out]; exact HOw.out
              clear C52b C52c
              go_wp2_with (go_at_call 52; refine C52a.out.mono ?_; clear C52a; rintro e w3 ⟨rfl, hw3⟩; rw [hw3]; clear hw3)
              go_ret3
              exact HEnd.out wr rfl
            · rw [(Cnf.has_false Y1 x).2 h1] at C52a
              by_cases h2 : -x ∈ Y1
              · rw [(Cnf.has_iff Y1 (-x)).2 h2] at C52b
                have HE3 := hid (show Ckr.openL Y1 op (cc.drop (p + 1)) = E by
                  have e1 := HE2.out
                  rwa [HDc.out, Ckr.openL, if_neg h1, if_neg (fun q => q.1 h2)] at e1)
                clear C52c
                go_wp2_with (first
                  | (go_at_call 52; refine C52a.out.mono ?_; clear C52a; rintro e w3 ⟨rfl, hw3⟩; rw [hw3]; clear hw3)
                  | (go_at_call 52; refine C52b.out.mono ?_; clear C52b; rintro e w4 ⟨rfl, hw4⟩; rw [hw4]; clear hw4))
                go_roundw
                case rel => exact ⟨p + 1, op, o2, c2, m2, rfl, by go_num, by omega, HM2, HE3, HO2, HB2, hid ⟨HL2.out.1, by have := HL2.out.2; omega⟩⟩
                case measure => simp [intOf]; omega
              · rw [(Cnf.has_false Y1 (-x)).2 h2] at C52b
                by_cases h3 : x ∈ op
                · rw [(Cnf.has_iff op x).2 h3] at C52c
                  have HE3 := hid (show Ckr.openL Y1 op (cc.drop (p + 1)) = E by
                    have e1 := HE2.out
                    rwa [HDc.out, Ckr.openL, if_neg h1, if_neg (fun q => q.2 h3)] at e1)
                  go_wp2_with (first
                    | (go_at_call 52; refine C52a.out.mono ?_; clear C52a; rintro e w3 ⟨rfl, hw3⟩; rw [hw3]; clear hw3)
                    | (go_at_call 52; refine C52b.out.mono ?_; clear C52b; rintro e w4 ⟨rfl, hw4⟩; rw [hw4]; clear hw4)
                    | (go_at_call 52; refine C52c.out.mono ?_; clear C52c; rintro e w5 ⟨rfl, hw5⟩; rw [hw5]; clear hw5))
                  go_roundw
                  case rel => exact ⟨p + 1, op, o2, c2, m2, rfl, by go_num, by omega, HM2, HE3, HO2, HB2, hid ⟨HL2.out.1, by have := HL2.out.2; omega⟩⟩
                  case measure => simp [intOf]; omega
                · rw [(Cnf.has_false op x).2 h3] at C52c
                  have HE3 := hid (show Ckr.openL Y1 (op ++ [x]) (cc.drop (p + 1)) = E by
                    have e1 := HE2.out
                    rwa [HDc.out, Ckr.openL, if_neg h1, if_pos ⟨h2, h3⟩] at e1)
                  have hpush := lit_push (n := wo.heap.size) (v := .slice o2 m2 c2) (xs := op) (by rw [HM2.out]; exact HO2.out) x (by rw [HM2.out]; have := HL2.out.2; omega) HB2.out.size
                  rw [HM2.out] at hpush
                  obtain ⟨o3, c3, B3, hrun, ho3, hY3, hN3⟩ := hpush
                  have RUN := hid hrun
                  have HO3 := hid ho3
                  have HB3 := hid (HB2.out.trans (hY3.below HB2.out.size (fun g e => (own_blk HO2.out e).1)))
                  have HM3 := hid (show (op ++ [x]).length = m2 + 1 by rw [List.length_append, HM2.out]; rfl)
                  clear hrun ho3 hY3 hN3
                  go_wp2_with (first
                    | (go_at_call 52; refine C52a.out.mono ?_; clear C52a; rintro e w3 ⟨rfl, hw3⟩; rw [hw3]; clear hw3)
                    | (go_at_call 52; refine C52b.out.mono ?_; clear C52b; rintro e w4 ⟨rfl, hw4⟩; rw [hw4]; clear hw4)
                    | (go_at_call 52; refine C52c.out.mono ?_; clear C52c; rintro e w5 ⟨rfl, hw5⟩; rw [hw5]; clear hw5)
                    | (at_builtin; refine wpList_append_run rfl (.tmp 67) (.tmp 72) 39 39 rfl rfl rfl RUN.out ?_; clear RUN))
                  go_roundw
                  case rel => exact ⟨p + 1, op ++ [x], o3, c3, m2 + 1, rfl, by go_num, by omega, HM3, HE3, HO3, HB3, hid ⟨HL2.out.1.snoc HXr.out, by have := HL2.out.2; omega⟩⟩
                  case measure => simp [intOf]; omega
          · have hpg : ¬ (p : Int) < nc := by omega
            have HEo := hid (show Ckr.openL Y1 [] cc = some op by
              have e1 := HE2.out
              rw [List.drop_of_length_le (by rw [HNC.out]; omega), Ckr.openL] at e1
              rw [HE.out, ← e1])
            have HFin : Hid (∀ (f1 f2 : Bool) (r : Int), (r == 1) = f1 → (r == 2) = f2 → D = (r, Y1) → ThruTo W0 D (.returned (.tuple #[.slice o m c, .bool f1, .bool f2])) wr) := by
              rintro f1 f2 r rfl rfl e2
              rw [e2]
              refine ⟨o, c, ?_, ?_, HBw.out⟩
              · simp only [HM.out]
              · simp only [HM.out]; exact HOw.out
            have HTT := hid (show Ckr.thruD (Ckr.look S.C) Y1 (h :: hts.drop (k + 1)) = D by have := HT.out; rwa [HDr.out] at this)
            by_cases z0 : m2 = 0
            · subst z0
              have HR := hid (HFin.out true false 1 rfl rfl (by rw [← HTT.out]; exact thruD_conf HSome.out (by rw [HEo.out, List.eq_nil_of_length_eq_zero HM2.out])))
              go_wp2
              go_ret3
              exact HR.out
            · by_cases z1 : 1 < m2
              · have z0' : ((m2 : Int) == 0) = false := by simp; omega
                have z1' : (1 : Int) < m2 := by omega
                have HR := hid (HFin.out false true 2 rfl rfl (by rw [← HTT.out]; exact thruD_many HSome.out HEo.out (by rw [HM2.out]; exact z1)))
                go_wp2
                go_ret3
                exact HR.out
              · obtain rfl : m2 = 1 := by omega
                obtain ⟨x, rfl⟩ := List.length_eq_one_iff.1 HM2.out
                obtain ⟨g, c', cur, e1, _, _, _, _, _, _⟩ := own_some HO2.out (by omega)
                injection e1 with e1 _ _
                subst e1
                have hrow : Lits _ (some ⟨g, 0, none⟩) [x] := HL2.out.1.lits (c := c2) HO2.out
                have z0 := (Row.at hrow (j := 0) (by simp))
                obtain ⟨bb, oo, e2, _, hcx, _, _⟩ := z0
                injection e2 with e2
                injection e2 with e2 e3 _
                subst e2 e3
                have hcx0 := hcx
                simp only [Nat.add_zero, List.getD_cons_zero] at hcx0
                have HXr := hid (HL2.out.1 x (by simp))
                have hpush := lit_push (n := W0.heap.size) (v := .slice o m c) (xs := Y1) (by rw [HM.out]; exact HOw.out) x (by rw [HM.out]; have := HL.out.2; omega) HBw.out.size
                rw [HM.out] at hpush
                obtain ⟨o5, c5, B5, hrun, ho5, hY5, hN5⟩ := hpush
                have RUN := hid hrun
                have HO5 := hid ho5
                have HB5 := hid (HBw.out.trans (hY5.below HBw.out.size (fun g e => (own_blk HOw.out e).1)))
                have HM5 := hid (show (Y1 ++ [x]).length = m + 1 by rw [List.length_append, HM.out]; rfl)
                have HT5 := hid (show Ckr.thruD (Ckr.look S.C) (Y1 ++ [x]) (hts.drop (k + 1)) = D by rw [← HTT.out]; exact (thruD_one HSome.out HEo.out).symm)
                have HL5 : Hid (Lit1 (Y1 ++ [x]) ∧ m + 1 ≤ 16777216 + (k + 1)) := ⟨HL.out.1.snoc HXr.out, by have := HL.out.2; omega⟩
                clear hrun ho5 hY5 hN5 hrow hcx HFin
                go_wp2_with (at_builtin; refine wpList_append_run rfl (.tmp 82) (.tmp 86) 39 39 rfl rfl rfl RUN.out ?_; clear RUN)
                go_roundw
                case rel => exact ⟨k + 1, Y1 ++ [x], o5, c5, m + 1, rfl, by go_num, by omega, HM5, HT5, HO5, HB5, HL5⟩
                case measure => simp [intOf]; omega
    · have hge : ¬ (k : Int) < nh := by omega
      have HE : Hid (ThruTo W0 D (.returned (.tuple #[.slice o m c, .bool false, .bool false])) wr) := by
        have e1 := HT.out
        rw [List.drop_of_length_le (by rw [HN.out]; omega), Ckr.thruD] at e1
        rw [← e1]
        refine ⟨o, c, ?_, ?_, HB.out⟩
        · simp only [HM.out]; rfl
        · simp only [HM.out]; exact HO.out
      go_wp2
      go_ret3
      exact HE.out
end Go.Proofs.Ytjjanmgeogjngaa

/- The document's group of a clause: the call. -/
namespace Ckr
/-- What is true then, of the literals gone through. -/
def nowL (Y c : List Int) (p : Int) (k : Nat) : List Int := Y ++ ((c.take k).filter (fun l => decide (l ≠ -p))).map (fun l => -l)
theorem nowL_skip {Y c : List Int} {p : Int} {k : Nat} (hk : k < c.length) (h : c.getD k 0 = -p) : nowL Y c p (k + 1) = nowL Y c p k := by
  unfold nowL
  rw [Lra.take_snoc c k hk, List.filter_append, h]
  simp [List.filter]
theorem nowL_more {Y c : List Int} {p : Int} {k : Nat} (hk : k < c.length) (h : c.getD k 0 ≠ -p) : nowL Y c p (k + 1) = nowL Y c p k ++ [-(c.getD k 0)] := by
  unfold nowL
  rw [Lra.take_snoc c k hk, List.filter_append, List.map_append, List.append_assoc]
  congr 2
  generalize c.getD k 0 = y at h
  simp [h]
theorem nowL_all (Y c : List Int) (p : Int) {k : Nat} (hk : c.length ≤ k) : nowL Y c p k = Y ++ (c.filter (fun l => decide (l ≠ -p))).map (fun l => -l) := by
  unfold nowL
  rw [List.take_of_length_le hk]
theorem gOK_at {Y c : List Int} {p : Int} {k : Nat} (hk : k < c.length) (h : c.getD k 0 ≠ -p) (h2 : c.getD k 0 ∈ Y ∨ -(c.getD k 0) ∈ c) : gOK Y c p = true :=
  List.any_eq_true.2 ⟨c.getD k 0, Lra.getD_mem c k hk, decide_eq_true ⟨h, h2⟩⟩
theorem gOK_none {Y c : List Int} {p : Int} (h : ∀ j, j < c.length → c.getD j 0 = -p ∨ (c.getD j 0 ∉ Y ∧ -(c.getD j 0) ∉ c)) : gOK Y c p = false := by
  cases e : gOK Y c p with
  | false => rfl
  | true =>
    obtain ⟨x, hx, q⟩ := List.any_eq_true.1 e
    obtain ⟨q1, q2⟩ := of_decide_eq_true q
    obtain ⟨j, hj, rfl⟩ := List.mem_iff_getElem.1 hx
    have := h j hj
    simp [List.getD, hj] at this
    rcases this with t | ⟨t1, t2⟩
    · exact absurd t q1
    · exact absurd q2 (fun q => q.elim t1 t2)
end Ckr
namespace Go.Proofs.Ytjjanmgeogjngaa
open Go.RowKit Go.Maps
set_option linter.unusedVariables false

def IntTo (W : World) (r : Int) (e : Ending) (W' : World) : Prop := e = .returned (.int .i64 r) ∧ Below W.heap.size W W'
theorem thruD_how (F : Int → Option (List Int)) (hs : List Int) : ∀ Y, (Ckr.thruD F Y hs).1 = 0 ∨ (Ckr.thruD F Y hs).1 = 1 ∨ (Ckr.thruD F Y hs).1 = 2 := by
  induction hs with
  | nil => intro Y; exact .inl rfl
  | cons h hs ih =>
    intro Y
    cases e : F h with
    | none => rw [thruD_none e]; exact .inr (.inr rfl)
    | some c =>
      cases e2 : Ckr.openL Y [] c with
      | none => rw [thruD_wrong e e2]; exact .inr (.inr rfl)
      | some op =>
        match op, e2 with
        | [], e2 => rw [thruD_conf e e2]; exact .inr (.inl rfl)
        | [x], e2 => rw [thruD_one e e2]; exact ih _
        | x :: y :: r, e2 => rw [thruD_many e e2 (by simp)]; exact .inr (.inr rfl)

set_option maxRecDepth 100000 in
set_option maxHeartbeats 8000000 in
theorem group82 {n mb : Nat} {W : World} {S : Ckr.St} {hs : List Hd} {v : Value} (hD : Dk n mb W S hs v) (hG : Ckr.Good S.C S.last) (hcl : S.C.length ≤ 4194304) (al : Option Addr) (nl cl : Nat) (cc : List Int) (hc : Lits W al cc) (hcn : cc.length = nl) (hcL : Lit1 cc) (hcb : nl ≤ 8388608) (p : Int) (hp : -1048576 ≤ p ∧ p ≤ 1048576)
    (ay : Option Addr) (ny cy : Nat) (Y : List Int) (hy : Lits W ay Y) (hyn : Y.length = ny) (hyL : Lit1 Y) (hyb : ny ≤ 8388608) (ah : Option Addr) (nh ch : Nat) (hts : List Int) (hh : Hnts W ah hts) (hn : hts.length = nh) (hnb : nh ≤ 1048576) :
    Calls Try.prog 82 #[.pointer (some ⟨mb, 0, none⟩), .slice al nl cl, .int .i32 p, .slice ay ny cy, .slice ah nh ch] W fun e W' => IntTo W (Ckr.groupD (Ckr.look S.C) Y cc p hts) e W' := by
  obtain ⟨o1, d1, B1, R1, ho1, hB1⟩ := lits_arg cy hy (by omega)
  rw [hyn] at R1 ho1
  have RN1 := hid R1
  have HO1 := hid ho1
  have HB1 := hid hB1
  have HD := hid hD
  have HG := hid hG
  have HCl := hid hcl
  have HC := hid hc
  have HCN := hid hcn
  have HCL := hid hcL
  have HYy := hid hy
  have HYN := hid hyn
  have HYL := hid hyL
  have HH := hid hh
  have HN := hid hn
  have pw : IntKind.i32.wrap (-p) = -p := by rw [IntKind.wrap_i32]; omega
  obtain ⟨r, hr⟩ : ∃ r, Ckr.groupD (Ckr.look S.C) Y cc p hts = r := ⟨_, rfl⟩
  have HR := hid hr
  rw [hr]
  clear R1 ho1 hB1 hD hG hcl hc hcn hcL hy hyn hyL hh hn hr
  go_enter Try.func82, Try.ntmps82
  go_wp2_with (at_builtin; refine wpList_append_run rfl (.tmp 16) (.tmp 17) 39 39 rfl rfl rfl RN1.out ?_; clear RN1)
  go_loopw [11, 12] (fun ov iv wr => ∃ (k : Nat) (o : Option Addr) (c m : Nat), ov = .slice o m c ∧ iv = .int .i64 k ∧ k ≤ nl ∧ Hid ((Ckr.nowL Y cc p k).length = m) ∧ Hid (wr.ownsRow W.heap.size 40 1 (.slice o m c) m ((Ckr.nowL Y cc p k).map (Value.int .i32))) ∧ Hid (Below W.heap.size W wr) ∧ Hid (Lit1 (Ckr.nowL Y cc p k) ∧ m ≤ ny + k) ∧ Hid (∀ j, j < k → cc.getD j 0 = -p ∨ (cc.getD j 0 ∉ Y ∧ -(cc.getD j 0) ∉ cc))) (fun _ iv _ => nl - (intOf iv).toNat)
  case atStart =>
    have e0 : Ckr.nowL Y cc p 0 = Y := by simp [Ckr.nowL]
    exact ⟨0, o1, d1, ny, rfl, rfl, Nat.zero_le _, hid (by rw [e0]; exact HYN.out), hid (by rw [e0]; exact HO1.out), HB1, hid (by rw [e0]; exact ⟨HYL.out, Nat.le_refl _⟩), hid (fun j hj => by omega)⟩
  case round =>
    obtain ⟨k, o, c, m, rfl, rfl, hk, HM, HO, HB, HL, HJ⟩ := hrel
    by_cases hlt : k < nl
    · have hlt' : (k : Int) < nl := by omega
      have hkc : k < cc.length := by rw [HCN.out]; exact hlt
      have hnb2 : ny + k ≤ 16777216 := by omega
      obtain ⟨bl, ol, rfl, hbl, hcell, _, _⟩ := Row.at HC.out hkc
      have hcx := (HB.out.cell (p := ⟨bl, ol + k, none⟩) hbl).trans hcell
      have hxr : -1048576 ≤ cc.getD k 0 ∧ cc.getD k 0 ≤ 1048576 := HCL.out _ (Lra.getD_mem cc k hkc)
      have HSk := hid (Ckr.nowL_skip (Y := Y) (c := cc) (p := p) hkc)
      have HMo := hid (Ckr.nowL_more (Y := Y) (c := cc) (p := p) hkc)
      have HOK := hid (Ckr.gOK_at (Y := Y) (c := cc) (p := p) hkc)
      have HJn := hid (show ∀ (q : cc.getD k 0 = -p ∨ (cc.getD k 0 ∉ Y ∧ -(cc.getD k 0) ∉ cc)), ∀ j, j < k + 1 → cc.getD j 0 = -p ∨ (cc.getD j 0 ∉ Y ∧ -(cc.getD j 0) ∉ cc) from fun q j hj => by
        rcases Nat.lt_or_ge j k with h | h
        · exact HJ.out j h
        · obtain rfl : j = k := by omega
          exact q)
      generalize cc.getD k 0 = x at *
      have xw : IntKind.i32.wrap (-x) = -x := by rw [IntKind.wrap_i32]; omega
      have C52a := hid (has52 ay ny cy Y x wr HYN.out (by omega) (HYy.out.below HB.out))
      have C52b := hid (has52 (some ⟨bl, ol, none⟩) nl cl cc (-x) wr HCN.out (by omega) (HC.out.below HB.out))
      have HXr := hid hxr
      clear hcell hbl hxr
      by_cases h1 : x = -p
      · subst h1
        rw [Int.neg_neg] at xw
        have HJ2 := hid (HJn.out (.inl rfl))
        have e := HSk.out rfl
        clear C52a C52b
        go_wp2
        go_roundw
        case rel => exact ⟨k + 1, o, c, m, rfl, by go_num, by omega, hid (by rw [e]; exact HM.out), hid (by rw [e]; exact HO.out), HB, hid (by rw [e]; exact ⟨HL.out.1, by have := HL.out.2; omega⟩), HJ2⟩
        case measure => simp [intOf]; omega
      · have hne : (x == -p) = false := by simpa using h1
        by_cases h2 : x ∈ Y
        · rw [(Cnf.has_iff Y x).2 h2] at C52a
          have HZ : Hid (IntTo W r (.returned (.int .i64 0)) wr) := by
            have e := HR.out
            unfold Ckr.groupD at e
            rw [if_pos (HOK.out h1 (.inl h2))] at e
            rw [← e]
            exact ⟨rfl, HB.out⟩
          clear C52b
          go_wp2_with (go_at_call 52; refine C52a.out.mono ?_; clear C52a; rintro e w3 ⟨rfl, hw3⟩; rw [hw3]; clear hw3)
          go_ret
          exact HZ.out
        · rw [(Cnf.has_false Y x).2 h2] at C52a
          by_cases h3 : -x ∈ cc
          · rw [(Cnf.has_iff cc (-x)).2 h3] at C52b
            have HZ : Hid (IntTo W r (.returned (.int .i64 0)) wr) := by
              have e := HR.out
              unfold Ckr.groupD at e
              rw [if_pos (HOK.out h1 (.inr h3))] at e
              rw [← e]
              exact ⟨rfl, HB.out⟩
            go_wp2_with (first
              | (go_at_call 52; refine C52a.out.mono ?_; clear C52a; rintro e w3 ⟨rfl, hw3⟩; rw [hw3]; clear hw3)
              | (go_at_call 52; refine C52b.out.mono ?_; clear C52b; rintro e w4 ⟨rfl, hw4⟩; rw [hw4]; clear hw4))
            go_ret
            exact HZ.out
          · rw [(Cnf.has_false cc (-x)).2 h3] at C52b
            have hpush := lit_push (n := W.heap.size) (v := .slice o m c) (xs := Ckr.nowL Y cc p k) (by rw [HM.out]; exact HO.out) (-x) (by rw [HM.out]; have := HL.out.2; omega) HB.out.size
            rw [HM.out] at hpush
            obtain ⟨o5, c5, B5, hrun, ho5, hY5, hN5⟩ := hpush
            have RUN := hid hrun
            have eM := HMo.out h1
            have HO5 := hid (show B5.ownsRow W.heap.size 40 1 (.slice o5 (m + 1) c5) (m + 1) ((Ckr.nowL Y cc p (k + 1)).map (Value.int .i32)) by rw [eM]; exact ho5)
            have HB5 := hid (HB.out.trans (hY5.below HB.out.size (fun g e => (own_blk HO.out e).1)))
            have HM5 := hid (show (Ckr.nowL Y cc p (k + 1)).length = m + 1 by rw [eM, List.length_append, HM.out]; rfl)
            have HL5 : Hid (Lit1 (Ckr.nowL Y cc p (k + 1)) ∧ m + 1 ≤ ny + (k + 1)) := ⟨by rw [eM]; exact HL.out.1.snoc (by have := HXr.out; omega), by have := HL.out.2; omega⟩
            have HJ2 := hid (HJn.out (.inr ⟨h2, h3⟩))
            clear hrun ho5 hY5 hN5 eM
            go_wp2_with (first
              | (go_at_call 52; refine C52a.out.mono ?_; clear C52a; rintro e w3 ⟨rfl, hw3⟩; rw [hw3]; clear hw3)
              | (go_at_call 52; refine C52b.out.mono ?_; clear C52b; rintro e w4 ⟨rfl, hw4⟩; rw [hw4]; clear hw4)
              | (at_builtin; refine wpList_append_run rfl (.tmp 47) (.tmp 53) 39 39 rfl rfl rfl RUN.out ?_; clear RUN))
            go_roundw
            case rel => exact ⟨k + 1, o5, c5, m + 1, rfl, by go_num, by omega, HM5, HO5, HB5, HL5, HJ2⟩
            case measure => simp [intOf]; omega
    · have hge : ¬ (k : Int) < nl := by omega
      have HG0 := hid (Ckr.gOK_none (Y := Y) (c := cc) (p := p) (fun j hj => HJ.out j (by rw [HCN.out] at hj; omega)))
      have hE := Ckr.nowL_all Y cc p (k := k) (by rw [HCN.out]; omega)
      have C66 := hid (through66 (W0 := W) (W := wr) HD.out HG.out HCl.out HB.out (Ckr.nowL Y cc p k) o c (by rw [HM.out]; exact HO.out) HL.out.1 (by rw [HM.out]; have := HL.out.2; omega) ah nh ch hts HH.out HN.out hnb)
      have HR2 := hid (show Ckr.toldE (Ckr.thruD (Ckr.look S.C) (Ckr.nowL Y cc p k) hts).1 = r by
        have e := HR.out
        unfold Ckr.groupD at e
        rw [HG0.out, ← hE] at e
        exact e)
      have hhow := thruD_how (Ckr.look S.C) hts (Ckr.nowL Y cc p k)
      rw [HM.out] at C66
      generalize Ckr.thruD (Ckr.look S.C) (Ckr.nowL Y cc p k) hts = D at C66 HR2 hhow
      obtain ⟨d1', d2'⟩ := D
      simp only at hhow HR2
      unfold ThruTo at C66
      simp only at C66
      rcases hhow with rfl | rfl | rfl
      all_goals
        have HR3 := HR2.out
        simp only [Ckr.toldE] at HR3
        go_wp2_with (go_at_call 66; refine C66.out.mono ?_; clear C66; rintro e W5 ⟨o5, c5, rfl, _, hB5⟩; have HB5 := hid hB5; clear hB5)
        go_ret
        rw [← HR3]
        exact ⟨rfl, HB5.out⟩
end Go.Proofs.Ytjjanmgeogjngaa

/- Plain facts for what follows, by the document. -/
namespace Go.Proofs.Ytjjanmgeogjngaa
open Go.RowKit Go.Maps
set_option linter.unusedVariables false

theorem thruD_lit1 (F : Int → Option (List Int)) (hF : ∀ i c, F i = some c → Lit1 c) (hs : List Int) : ∀ Y, Lit1 Y → Lit1 (Ckr.thruD F Y hs).2 ∧ (Ckr.thruD F Y hs).2.length ≤ Y.length + hs.length := by
  induction hs with
  | nil => intro Y h; exact ⟨h, by simp [Ckr.thruD]⟩
  | cons i hs ih =>
    intro Y h
    cases e : F i with
    | none => rw [thruD_none e]; exact ⟨h, by simp⟩
    | some c =>
      cases e2 : Ckr.openL Y [] c with
      | none => rw [thruD_wrong e e2]; exact ⟨h, by simp⟩
      | some op =>
        match op, e2 with
        | [], e2 => rw [thruD_conf e e2]; exact ⟨h, by simp⟩
        | [x], e2 =>
          rw [thruD_one e e2]
          have hx := hF i c e x ((Ckr.open_in Y c [] [x] e2 x (by simp)).resolve_left (by simp))
          obtain ⟨q1, q2⟩ := ih (Y ++ [x]) (h.snoc hx)
          exact ⟨q1, by simp at q2 ⊢; omega⟩
        | x :: y :: r, e2 => rw [thruD_many e e2 (by simp)]; exact ⟨h, by simp⟩
/-- The document's head cuts where the program's does. -/
theorem head_ahead {hs : List Int} {k : Nat} (h0 : ∀ x ∈ hs, x ≠ 0) (hk : k ≤ hs.length) (h1 : ∀ j, j < k → 0 < hs.getD j 0) (h2 : k = hs.length ∨ ¬ 0 < hs.getD k 0) : Ckr.ahead hs = hs.take k ∧ Ckr.behind hs = hs.drop k :=
  Ckr.ahead_behind hs k hk (fun j hj => by have := h1 j hj; omega) (by
    rcases Nat.lt_or_ge k hs.length with q | q
    · rcases h2 with e | e
      · exact .inl e
      · have := h0 _ (Lra.getD_mem hs k q)
        exact .inr (by omega)
    · exact .inl (by omega))
/-- The negations of literals. -/
theorem Lit1.neg {xs : List Int} (h : Lit1 xs) : Lit1 (xs.map (fun l => -l)) := fun y hy => by
  obtain ⟨x, hx, rfl⟩ := List.mem_map.1 hy
  have := h x hx
  omega
/-- The document's groups of a clause. -/
def groupsD (C : List (Int × List Int)) (Y lits hts : List Int) : Int := if lits = [] then 61 else Ckr.coverD C Y (lits.getD 0 0) (hts.length + 1) [] hts
end Go.Proofs.Ytjjanmgeogjngaa

