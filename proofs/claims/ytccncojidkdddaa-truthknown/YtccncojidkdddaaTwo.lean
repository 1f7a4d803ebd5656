/- Two tables side by side: each is asked, the other stands. -/
import Derived.Test.YtccncojidkdddaaFoot
import Derived.Test.YtccncojidkdddaaAlike
namespace Go.Proofs.Ytccncojidkdddaa
open Go.RowKit Go.Lib Go.Sort Go.Shelf
set_option linter.unusedVariables false
set_option linter.unusedSimpArgs false

theorem TabO.stay {T g cap : Nat} {ms : List (Nat × Nat)} {bb : Int} {o : Option Addr} {W W' : World} (h : TabO T g cap ms bb o W) (hs : ∀ k, (k = T ∨ k = g ∨ ∃ a, o = some a ∧ k = a.block) → k < W.heap.size → W'.heap[k]? = W.heap[k]?) : TabO T g cap ms bb o W' := by
  obtain ⟨no, cap2, os, hT, hg, hH, hos, hno, hown, hop⟩ := h
  have hTs := (Array.getElem?_eq_some_iff.1 hT).1
  refine ⟨no, cap2, os, (hs T (.inl rfl) hTs).trans hT, hg, fun t ht => ?_, hos, hno, ⟨hown.1, ?_⟩, hop⟩
  · have := hH t ht
    have hk := hs g (.inr (.inl rfl)) (by omega)
    exact ⟨by rw [← this.1]; simp [World.cell?, hk], by rw [← this.2]; exact frozen_block hk⟩
  · rcases hown.2 with h0 | ⟨b, c, cur, e1, h1, h2, h3⟩
    · exact .inl h0
    · injection e1 with e1 e2 e3
      subst e1 e3
      exact .inr ⟨b, _, cur, rfl, h1, (hs b (.inr (.inr ⟨_, rfl, rfl⟩)) (Array.getElem?_eq_some_iff.1 h2).1).trans h2, h3⟩
theorem TabO.lt {T g cap : Nat} {ms : List (Nat × Nat)} {bb : Int} {o : Option Addr} {W : World} (h : TabO T g cap ms bb o W) : T < W.heap.size ∧ g < T ∧ ∀ a, o = some a → T < a.block ∧ a.block < W.heap.size := by
  obtain ⟨no, cap2, os, hT, hg, hH, hos, hno, hown, hop⟩ := h
  refine ⟨(Array.getElem?_eq_some_iff.1 hT).1, hg, fun a ha => ?_⟩
  subst ha
  rcases hown.2 with ⟨e, _⟩ | ⟨b, c, cur, e1, h1, h2, h3⟩
  · cases e
  · injection e1 with e1 e2 e3
    injection e1 with e1
    subst e1
    exact ⟨h1, (Array.getElem?_eq_some_iff.1 h2).1⟩

/-- Two tables, the second made behind the first. -/
structure Two (T1 g1 c1 : Nat) (ms1 : List (Nat × Nat)) (T2 g2 c2 : Nat) (ms2 : List (Nat × Nat)) (b1 : Int) (o1 : Option Addr) (b2 : Int) (o2 : Option Addr) (W : World) : Prop where
  one : TabO T1 g1 c1 ms1 b1 o1 W
  two : TabO T2 g2 c2 ms2 b2 o2 W
  far : T1 < g2
  o1T : ∀ a, o1 = some a → a.block ≠ T2 ∧ a.block ≠ g2
  o12 : ∀ a a', o1 = some a → o2 = some a' → a.block ≠ a'.block
theorem Two.ask1 {T1 g1 c1 : Nat} {ms1 : List (Nat × Nat)} {T2 g2 c2 : Nat} {ms2 : List (Nat × Nat)} {b1 : Int} {o1 : Option Addr} {b2 : Int} {o2 : Option Addr} {W W' : World} {b1' : Int} {o1' : Option Addr} (h : Two T1 g1 c1 ms1 T2 g2 c2 ms2 b1 o1 b2 o2 W) (ht : TabO T1 g1 c1 ms1 b1' o1' W') (hu : Turn T1 o1 o1' W W') : Two T1 g1 c1 ms1 T2 g2 c2 ms2 b1' o1' b2 o2 W' := by
  obtain ⟨l1, l2, l3⟩ := h.one.lt
  obtain ⟨k1, k2, k3⟩ := h.two.lt
  have hf := h.far
  refine ⟨ht, h.two.stay (fun k hk hlt => hu.same k hlt ?_ ?_), hf, fun a ha => ?_, fun a a' ha ha' => ?_⟩
  · rcases hk with rfl | rfl | ⟨a, ha, rfl⟩
    · omega
    · omega
    · have := k3 a ha; omega
  · intro a ha
    rcases hk with rfl | rfl | ⟨a2, ha2, rfl⟩
    · exact fun e => (h.o1T a ha).1 e.symm
    · exact fun e => (h.o1T a ha).2 e.symm
    · exact fun e => h.o12 a a2 ha ha2 e.symm
  · rcases hu.lies a ha with ⟨a0, e1, e2⟩ | h3
    · rw [← e2]; exact h.o1T a0 e1
    · omega
  · have q := k3 a' ha'
    rcases hu.lies a ha with ⟨a0, e1, e2⟩ | h3
    · rw [← e2]; exact h.o12 a0 a' e1 ha'
    · omega
theorem Two.ask2 {T1 g1 c1 : Nat} {ms1 : List (Nat × Nat)} {T2 g2 c2 : Nat} {ms2 : List (Nat × Nat)} {b1 : Int} {o1 : Option Addr} {b2 : Int} {o2 : Option Addr} {W W' : World} {b2' : Int} {o2' : Option Addr} (h : Two T1 g1 c1 ms1 T2 g2 c2 ms2 b1 o1 b2 o2 W) (ht : TabO T2 g2 c2 ms2 b2' o2' W') (hu : Turn T2 o2 o2' W W') : Two T1 g1 c1 ms1 T2 g2 c2 ms2 b1 o1 b2' o2' W' := by
  obtain ⟨l1, l2, l3⟩ := h.one.lt
  obtain ⟨k1, k2, k3⟩ := h.two.lt
  have hf := h.far
  refine ⟨h.one.stay (fun k hk hlt => hu.same k hlt ?_ ?_), ht, hf, h.o1T, fun a a' ha ha' => ?_⟩
  · rcases hk with rfl | rfl | ⟨a, ha, rfl⟩
    · omega
    · omega
    · exact (h.o1T a ha).1
  · intro a ha
    have := k3 a ha
    rcases hk with rfl | rfl | ⟨a2, ha2, rfl⟩
    · omega
    · omega
    · exact h.o12 a2 a ha2 ha
  · have q := l3 a ha
    rcases hu.lies a' ha' with ⟨a0, e1, e2⟩ | h3
    · rw [← e2]; exact h.o12 a a0 ha e1
    · omega
theorem MadeOut.tab {cs : List (List Int)} {w : World} {e : Ending} {w' : World} (h : MadeOut cs w e w') : ∃ (T g cap : Nat) (ms : List (Nat × Nat)), e = .returned (.pointer (some ⟨T, 0, none⟩)) ∧ TabO T g cap ms (-1) none w' ∧ w.heap.size ≤ g ∧ (∀ p, p ∈ ms ↔ p ∈ Tru.masks cs) ∧ ms.length ≤ cs.length ∧ Below w.heap.size w w' := by
  obtain ⟨g, T, cap, ms, he, hT, h1, h2, h3, h4, h5, h6⟩ := h
  exact ⟨T, g, cap, ms, he, ⟨0, 0, [], hT, h2, h3, rfl, Nat.zero_le _, World.ownsRow_nil _ _ _ _, fun h => by omega⟩, h1, h4, h5, h6⟩
theorem Two.made {T1 g1 c1 : Nat} {ms1 : List (Nat × Nat)} {T2 g2 c2 : Nat} {ms2 : List (Nat × Nat)} {W W' : World} (h1 : TabO T1 g1 c1 ms1 (-1) none W) (h2 : TabO T2 g2 c2 ms2 (-1) none W') (hg : W.heap.size ≤ g2) (hb : Below W.heap.size W W') : Two T1 g1 c1 ms1 T2 g2 c2 ms2 (-1) none (-1) none W' :=
  ⟨h1.on hb, h2, (by have := h1.lt.1; omega), (fun a ha => (by cases ha)), (fun a a' ha _ => (by cases ha))⟩
end Go.Proofs.Ytccncojidkdddaa
