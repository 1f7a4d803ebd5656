/- Good witnesses, plainly: what is taken off a formula with good witnesses comes back. -/
import Derived.Test.YtjakfgpgcnbclaaWrk
namespace Tru
/-- Every model has a number. -/
theorem model_ex : ∀ (m : List Bool), ∃ k, k < 2 ^ m.length ∧ model m.length k = m := by
  intro m
  refine ⟨(m.reverse.foldl (fun k b => 2 * k + b.toNat) 0), ?_⟩
  induction m with
  | nil => exact ⟨by simp, by simp [model]⟩
  | cons b m ih =>
    obtain ⟨h1, h2⟩ := ih
    simp only [List.reverse_cons, List.foldl_append, List.foldl_cons, List.foldl_nil, List.length_cons]
    generalize m.reverse.foldl (fun k b => 2 * k + b.toNat) 0 = k at h1 h2
    refine ⟨by have := Nat.pow_succ 2 m.length; cases b <;> simp <;> omega, ?_⟩
    conv => rhs; rw [← h2]
    unfold model
    rw [List.range_succ_eq_map, List.map_cons, List.map_map]
    congr 1
    · cases b <;> simp
    · apply List.map_congr_left
      intro i _
      simp only [Function.comp_apply, Nat.testBit_succ]
      congr 1
      cases b <;> simp <;> omega
end Tru
namespace Ext
def goodAt (v : Nat) (rest : List (List Int)) (p : Wt) (k : Nat) : Bool :=
  !(Cnf.holds rest (Tru.model v k)) || (Cnf.val p.2 (Tru.model v k) || (Cnf.holds rest (turn (Tru.model v k) p.1) && Cnf.val p.2 (turn (Tru.model v k) p.1)))
def good (v : Nat) (rest : List (List Int)) (p : Wt) (K : Nat) : Bool := (List.range K).all (goodAt v rest p)
theorem good_succ (v : Nat) (rest : List (List Int)) (p : Wt) (K : Nat) : good v rest p (K + 1) = (good v rest p K && goodAt v rest p K) := by simp [good, List.range_succ]
theorem good_false (v : Nat) (rest : List (List Int)) (p : Wt) (K k : Nat) (hk : k < K) (h : goodAt v rest p k = false) : good v rest p K = false := by
  cases hs : good v rest p K
  · rfl
  · have := List.all_eq_true.1 hs k (by simpa using hk)
    rw [h] at this; cases this
theorem good_use {v : Nat} {rest : List (List Int)} {p : Wt} (h : good v rest p (2 ^ v) = true) {m : List Bool} (hm : m.length = v) (hr : Cnf.holds rest m = true) : Cnf.holds rest (one m p) = true ∧ Cnf.val p.2 (one m p) = true := by
  obtain ⟨k, hk, e⟩ := Tru.model_ex m
  rw [hm] at hk e
  have := List.all_eq_true.1 h k (by simpa using hk)
  simp only [goodAt, e, hr, Bool.not_true, Bool.false_or] at this
  cases hv : Cnf.val p.2 m
  · rw [hv, Bool.false_or, Bool.and_eq_true] at this
    rw [one_false hv]
    exact this
  · rw [one_true hv]
    exact ⟨hr, hv⟩
/-- What the clauses left and the stack say of those that were there at first. -/
structure Off (v : Nat) (cs left : List (List Int)) (s : List Wt) : Prop where
  back : ∀ m : List Bool, m.length = v → Cnf.holds left m = true → Cnf.holds cs (ext m s) = true
  sub : ∀ c ∈ left, c ∈ cs
  mem : ∀ p ∈ s, p.2 ∈ cs
theorem Off.start (v : Nat) (cs : List (List Int)) : Off v cs cs [] := ⟨fun m _ h => h, fun c h => h, fun p h => by cases h⟩
theorem ext_snoc (m : List Bool) (s : List Wt) (p : Wt) : ext m (s ++ [p]) = ext (one m p) s := by simp [ext]
theorem holds_erase (left : List (List Int)) (t : Nat) (ht : t < left.length) (m : List Bool) (h1 : Cnf.holds (left.take t ++ left.drop (t + 1)) m = true) (h2 : Cnf.val (left.getD t []) m = true) : Cnf.holds left m = true := by
  have e : left = left.take t ++ (left.getD t [] :: left.drop (t + 1)) := by
    conv => lhs; rw [← List.take_append_drop t left, List.drop_eq_getElem_cons ht]
    simp [List.getD, ht]
  rw [e]
  simp only [Cnf.holds, List.all_append, List.all_cons, Bool.and_eq_true] at h1 ⊢
  exact ⟨h1.1, h2, h1.2⟩
theorem Off.step {v : Nat} {cs left : List (List Int)} {s : List Wt} (h : Off v cs left s) (t : Nat) (ht : t < left.length) (ls : List Int) (hg : good v (left.take t ++ left.drop (t + 1)) (ls, left.getD t []) (2 ^ v) = true) :
    Off v cs (left.take t ++ left.drop (t + 1)) (s ++ [(ls, left.getD t [])]) := by
  refine ⟨fun m hm hr => ?_, fun c hc => ?_, fun p hp => ?_⟩
  · rw [ext_snoc]
    obtain ⟨g1, g2⟩ := good_use hg hm hr
    exact h.back _ ((one_len _ _).trans hm) (holds_erase left t ht _ g1 g2)
  · rcases List.mem_append.1 hc with hc | hc
    · exact h.sub c (List.mem_of_mem_take hc)
    · exact h.sub c (List.mem_of_mem_drop hc)
  · rcases List.mem_append.1 hp with hp | hp
    · exact h.mem p hp
    · simp at hp
      subst hp
      exact h.sub _ (Cnf.getD_cls left t ht)
theorem ext_same (m : List Bool) : ∀ (s : List Wt), (∀ p ∈ s, Cnf.val p.2 m = true) → ext m s = m
  | [], _ => rfl
  | p :: s, h => by
    have ih := ext_same m s (fun q hq => h q (List.mem_cons_of_mem _ hq))
    show one (ext m s) p = m
    rw [ih, one_true (h p List.mem_cons_self)]
theorem Off.same {v : Nat} {cs left : List (List Int)} {s : List Wt} (h : Off v cs left s) {m : List Bool} (hm : Cnf.holds cs m = true) : ext m s = m :=
  ext_same m s (fun p hp => List.all_eq_true.1 hm _ (h.mem p hp))
end Ext
