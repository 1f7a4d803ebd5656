/- The iterator over a table's models, as a loop meets it. -/
import Derived.Test.YtccncojidkdddaaIter
import Derived.Test.YtccncojidkdddaaTwo
import Derived.Test.YtccncojidkdddaaModels
namespace Go.Proofs.Ytccncojidkdddaa
open Go.RowKit Go.Lib Go.Sort Go.Shelf
set_option linter.unusedVariables false
set_option linter.unusedSimpArgs false

theorem TabO.open_row {T g cap : Nat} {ms : List (Nat × Nat)} {bb : Int} {o : Option Addr} {W : World} (h : TabO T g cap ms bb o W) : ∀ a, o = some a → ∃ cur fr, W.heap[a.block]? = some (.cells cur 56 fr) := by
  obtain ⟨no, cap2, os, hT, hg, hH, hos, hno, hown, hop⟩ := h
  intro a ha
  subst ha
  rcases hown.2 with ⟨e, _⟩ | ⟨b, c, cur, e1, h1, h2, h3⟩
  · cases e
  · injection e1 with e1 e2 e3
    injection e1 with e1
    subst e1
    exact ⟨_, _, h2⟩
theorem TabO.row {T g cap : Nat} {ms : List (Nat × Nat)} {bb : Int} {o : Option Addr} {W : World} (h : TabO T g cap ms bb o W) : ∃ cur fr, W.heap[T]? = some (.cells cur 67 fr) := by
  obtain ⟨no, cap2, os, hT, _⟩ := h
  exact ⟨_, _, hT⟩

/-- What the iterator owns: its table, and its two variables. -/
def Own35 (T g cap bv ba u : Nat) (ms : List (Nat × Nat)) (W : World) : Prop :=
  ∃ (bb : Int) (o : Option Addr), TabO T g cap ms bb o W ∧ Boxed W bv 3 (.int .i64 u) ∧ Boxed W ba 49 (.func (.func 22) #[.pointer (some ⟨T, 0, none⟩)] #[])
theorem cells_of_cell {W : World} {p : Addr} {v : Value} (h : W.cell? p = some v) : ∃ o : Obj, W.heap[p.block]? = some o ∧ o.isCells = true := by
  unfold World.cell? at h
  cases e : W.heap[p.block]? with
  | none => rw [e] at h; simp at h
  | some o =>
    cases o <;> first
      | exact ⟨_, rfl, rfl⟩
      | (rw [e] at h; simp at h)

theorem Own35.up {C T g cap bv ba u : Nat} {ms : List (Nat × Nat)} (hg : C ≤ g) (hbv : C ≤ bv) (hba : C ≤ ba) (A B : World) (h : Own35 T g cap bv ba u ms A) (hu : Up C A B) : Own35 T g cap bv ba u ms B := by
  obtain ⟨bb, o, ht, h1, h2⟩ := h
  obtain ⟨no, cap2, os, hT, hgT, hH, hos, hno, hown, hop⟩ := ht
  refine ⟨bb, o, ⟨no, cap2, os, hu.same _ _ (by omega) hT rfl, hgT, fun t ht => ?_, hos, hno, ⟨hown.1, ?_⟩, hop⟩, hu.same _ _ hbv h1 rfl, hu.same _ _ hba h2 rfl⟩
  · have := hH t ht
    obtain ⟨x, hx, hxc⟩ := cells_of_cell this.1
    have hk : B.heap[g]? = A.heap[g]? := by rw [hx]; exact hu.same _ _ hg hx hxc
    exact ⟨by rw [← this.1]; simp [World.cell?, hk], by rw [← this.2]; exact frozen_block hk⟩
  · rcases hown.2 with h0 | ⟨b, c, cur, e1, h1, h2, h3⟩
    · exact .inl h0
    · exact .inr ⟨b, c, cur, e1, h1, hu.same _ _ (by omega) h2 rfl, h3⟩

theorem turn_ask {C T : Nat} {o o' : Option Addr} {W W' : World} (hT : C ≤ T) (hb : Below T W W') (hu : Turn T o o' W W') (hrow : ∃ cur fr, W.heap[T]? = some (.cells cur 67 fr)) (ho : ∀ a, o = some a → ∃ cur fr, W.heap[a.block]? = some (.cells cur 56 fr)) : Ask C W W' where
  below := hb.mono hT
  other := fun k x hk hx => by
    rw [hu.same k (Array.getElem?_eq_some_iff.1 hk).1 ?_ ?_]
    · exact hk
    · rintro rfl
      obtain ⟨cur, fr, hr⟩ := hrow
      rw [hr] at hk
      cases hk
      cases hx
    · rintro a ha rfl
      obtain ⟨cur, fr, hr⟩ := ho a ha
      rw [hr] at hk
      cases hk
      cases hx

theorem iter_made (C u : Nat) (cs : List (List Int)) (T g cap bv ba : Nat) (ms : List (Nat × Nat)) (hu : u ≤ 16) (hC : C ≤ g) (hv : ∀ c ∈ cs, ∀ l ∈ c, 1 ≤ Cnf.vr l ∧ Cnf.vr l ≤ u) (hm : ∀ p, p ∈ ms ↔ p ∈ Tru.masks cs) (hl : ms.length ≤ 1048576) :
    IterU Try.prog 35 #[.pointer (some ⟨bv, 0, none⟩), .pointer (some ⟨ba, 0, none⟩)] C (2 ^ u) (Tru.sat cs u) (Own35 T g cap bv ba u ms) := by
  refine models35 C T u bv ba (Tru.sat cs u) _ hu (fun W h => by obtain ⟨_, _, _, h, _⟩ := h; exact h) (fun W h => by obtain ⟨_, _, _, _, h⟩ := h; exact h) fun k W hk hS => ?_
  obtain ⟨bb, o, ht, h1, h2⟩ := hS
  have hk2 : k < 65536 := Nat.lt_of_lt_of_le hk (pow16 u hu).2
  refine (holds22f T g cap k ms bb o W hk2 hl (fun p hp => Tru.masks_small cs u hu hv p ((hm p).1 hp)) ht).mono ?_
  rintro e w' ⟨he, o', ht', hb, hturn⟩
  obtain ⟨l1, l2, l3⟩ := ht.lt
  have keep : ∀ (b : Nat) (t : TypeId) (v : Value), Boxed W b t v → t ≠ 67 → t ≠ 56 → Boxed w' b t v := fun b t v hbx h67 h56 => by
    refine (hturn.same b hbx.lt ?_ ?_).trans hbx
    · intro hbT
      obtain ⟨cur, fr, hr⟩ := ht.row
      rw [← hbT] at hr
      have := (show W.heap[b]? = _ from hbx).symm.trans hr
      cases this
      exact h67 rfl
    · intro a ha hbT
      obtain ⟨cur, fr, hr⟩ := ht.open_row a ha
      rw [← hbT] at hr
      have := (show W.heap[b]? = _ from hbx).symm.trans hr
      cases this
      exact h56 rfl
  refine ⟨by rw [he, Tru.masks_holds cs ms u k hu hv hm]; rfl, ⟨_, o', ht', keep _ _ _ h1 (by decide) (by decide), keep _ _ _ h2 (by decide) (by decide)⟩, turn_ask (by omega) hb hturn ht.row ht.open_row⟩
end Go.Proofs.Ytccncojidkdddaa
