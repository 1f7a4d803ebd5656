/- Both heaps side by side. -/
import Derived.Test.YtjbnkkjihcoojaaDq
namespace Go.Proofs.Ytjbnkkjihcoojaa
open Go.RowKit Go.Maps
set_option linter.unusedVariables false
set_option maxRecDepth 100000

theorem Dx.keepFq {M Q : Nat → Prop} {mb n : Nat} {sc : List Int} {L : List Nat} {W W' : World} (h : Dx M mb n sc L W) (hf : Fq Q W W') (hq : ∀ g, M g → g < W.heap.size → Q g) : Dx (fun g => M g ∧ g < W.heap.size) mb n sc L W' := by
  obtain ⟨sv, lv, h1, h2⟩ := h
  have hl := h1.lts
  have hin : ∀ g, ¬ Qm M W g → g < W.heap.size → Q g := fun g hg hlt => hq g (Classical.byContradiction fun hm => hg ⟨hlt, hm⟩) hlt
  refine ⟨sv, lv, (h1.keep hf (hin _ h1.nb hl.1) (fun g e => hin g (h1.ns g e) (hl.2.1 g e)) (fun g e => hin g (h1.nl g e) (hl.2.2 g e))).more W.heap.size (fun g hg => ?_) hl, h2⟩
  rcases Nat.lt_or_ge g W.heap.size with k | k
  · exact .inl ⟨k, fun hm => hg.2 ⟨hm, k⟩⟩
  · exact .inr ⟨k, hg.1⟩
theorem Hx.keepFq {M Q : Nat → Prop} {hb n : Nat} {sc : List Int} {L : List Nat} {W W' : World} (h : Hx M hb n sc L W) (hf : Fq Q W W') (hq : ∀ g, M g → g < W.heap.size → Q g) : Hx (fun g => M g ∧ g < W.heap.size) hb n sc L W' := by
  obtain ⟨sv, pv, lv, vs, pl, h1, h2⟩ := h
  have hl := h1.lts
  have hin : ∀ g, ¬ Qm M W g → g < W.heap.size → Q g := fun g hg hlt => hq g (Classical.byContradiction fun hm => hg ⟨hlt, hm⟩) hlt
  refine ⟨sv, pv, lv, vs, pl, (h1.keep hf (hin _ h1.nh hl.1) (fun g e => hin g (h1.ns g e) (hl.2.1 g e)) (fun g e => hin g (h1.np g e) (hl.2.2.1 g e)) (fun g e => hin g (h1.nl g e) (hl.2.2.2 g e))).more W.heap.size (fun g hg => ?_) hl, h2⟩
  rcases Nat.lt_or_ge g W.heap.size with k | k
  · exact .inl ⟨k, fun hm => hg.2 ⟨hm, k⟩⟩
  · exact .inr ⟨k, hg.1⟩
/-- The program's heap and the document's, apart, in blocks of S. -/
def Pw (S : Nat → Prop) (hb mb n : Nat) (s : List Int) (L : List Nat) (s2 : List Int) (L2 : List Nat) (w : World) : Prop :=
  ∃ M1 M2, Hx M1 hb n s L w ∧ Dx M2 mb n s2 L2 w ∧ (∀ g, M1 g → ¬ M2 g) ∧ ∀ g, M1 g ∨ M2 g → S g
def PwO (S : Nat → Prop) (hb mb n : Nat) (s : List Int) (L : List Nat) (s2 : List Int) (L2 : List Nat) (W w' : World) : Prop :=
  Pw (fun g => S g ∨ W.heap.size ≤ g) hb mb n s L s2 L2 w' ∧ Fq (Qm S W) W w'
theorem PwO.next {S : Nat → Prop} {hb mb n : Nat} {s s2 s' s2' : List Int} {L L2 L' L2' : List Nat} {B w w' : World} (h : PwO S hb mb n s L s2 L2 B w) (k : PwO (fun g => S g ∨ B.heap.size ≤ g) hb mb n s' L' s2' L2' w w') : PwO S hb mb n s' L' s2' L2' B w' := by
  have hs := h.2.size
  obtain ⟨M1, M2, h1, h2, h3, h4⟩ := k.1
  exact ⟨⟨M1, M2, h1, h2, h3, fun g hg => (h4 g hg).elim id (fun h => .inr (Nat.le_trans hs h))⟩, h.2.trans (k.2.mono fun g hg => ⟨by have := hg.1; omega, fun h => h.elim hg.2 (fun h => by have := hg.1; omega)⟩)⟩
theorem stepH {S M1 M2 : Nat → Prop} {hb mb n : Nat} {s' s2 : List Int} {L' L2 : List Nat} {w w' : World} (dx : Dx M2 mb n s2 L2 w) (dj : ∀ g, M1 g → ¬ M2 g) (hS : ∀ g, M1 g ∨ M2 g → S g) (k : HxO M1 hb n s' L' w w') : PwO S hb mb n s' L' s2 L2 w w' := by
  refine ⟨⟨_, _, k.1, dx.keepFq k.2 (fun g hm hl => ⟨hl, fun h => dj g h hm⟩), ?_, ?_⟩, k.2.mono fun g hg => ⟨hg.1, fun h => hg.2 (hS g (.inl h))⟩⟩
  · rintro g (h | h) ⟨h2, h3⟩
    · exact dj g h h2
    · omega
  · rintro g ((h | h) | h)
    · exact .inl (hS g (.inl h))
    · exact .inr h
    · exact .inl (hS g (.inr h.1))
theorem stepD {S M1 M2 : Nat → Prop} {hb mb n : Nat} {s s2' : List Int} {L L2' : List Nat} {w w' : World} (hx : Hx M1 hb n s L w) (dj : ∀ g, M1 g → ¬ M2 g) (hS : ∀ g, M1 g ∨ M2 g → S g) (k : DxO M2 mb n s2' L2' w w') : PwO S hb mb n s L s2' L2' w w' := by
  refine ⟨⟨_, _, hx.keepFq k.2 (fun g hm hl => ⟨hl, fun h => dj g hm h⟩), k.1, ?_, ?_⟩, k.2.mono fun g hg => ⟨hg.1, fun h => hg.2 (hS g (.inr h))⟩⟩
  · rintro g ⟨h2, h3⟩ (h | h)
    · exact dj g h2 h
    · omega
  · rintro g (h | (h | h))
    · exact .inl (hS g (.inl h.1))
    · exact .inl (hS g (.inr h))
    · exact .inr h
theorem Pw.below {S : Nat → Prop} {hb mb n : Nat} {s s2 : List Int} {L L2 : List Nat} {w w' : World} (h : Pw S hb mb n s L s2 L2 w) (hb' : Below w.heap.size w w') : Pw (fun g => S g ∧ g < w.heap.size) hb mb n s L s2 L2 w' := by
  obtain ⟨M1, M2, h1, h2, h3, h4⟩ := h
  exact ⟨_, _, h1.sharp hb', h2.sharp hb', fun g hg hg2 => h3 g hg.1 hg2.1, fun g hg => by
    rcases hg with hg | hg
    · exact ⟨h4 g (.inl hg.1), hg.2⟩
    · exact ⟨h4 g (.inr hg.1), hg.2⟩⟩
theorem Pw.refl {S : Nat → Prop} {hb mb n : Nat} {s s2 : List Int} {L L2 : List Nat} {w : World} (h : Pw S hb mb n s L s2 L2 w) : PwO S hb mb n s L s2 L2 w w := by
  obtain ⟨M1, M2, h1, h2, h3, h4⟩ := h
  exact ⟨⟨M1, M2, h1, h2, h3, fun g hg => .inl (h4 g hg)⟩, Fq.refl _ _⟩
theorem Pw.of {S : Nat → Prop} {hb mb n : Nat} {s s2 : List Int} {L L2 : List Nat} {w w' : World} (h : Pw S hb mb n s L s2 L2 w) (hb' : Below w.heap.size w w') : PwO S hb mb n s L s2 L2 w w' := by
  obtain ⟨M1, M2, h1, h2, h3, h4⟩ := h.below hb'
  exact ⟨⟨M1, M2, h1, h2, h3, fun g hg => .inl (h4 g hg).1⟩, Fq.of_below hb'⟩
/-- A call of the program's heap, whatever it answers: then the document's. -/
theorem Pw.hx {S : Nat → Prop} {hb mb n : Nat} {s s2 : List Int} {L L2 : List Nat} {w : World} (h : Pw S hb mb n s L s2 L2 w) {f : FuncId} {args : Array Value} {P : Ending → Prop} {s' : List Int} {L' : List Nat} (k : ∀ M, Hx M hb n s L w → Calls Try.prog f args w fun e w' => P e ∧ HxO M hb n s' L' w w') : Calls Try.prog f args w fun e w' => P e ∧ PwO S hb mb n s' L' s2 L2 w w' := by
  obtain ⟨M1, M2, h1, h2, h3, h4⟩ := h
  exact (k M1 h1).mono fun e w' ⟨he, hw⟩ => ⟨he, stepH h2 h3 h4 hw⟩
theorem Pw.dx {S : Nat → Prop} {hb mb n : Nat} {s s2 : List Int} {L L2 : List Nat} {w : World} (h : Pw S hb mb n s L s2 L2 w) {f : FuncId} {args : Array Value} {P : Ending → Prop} {s' : List Int} {L' : List Nat} (k : ∀ M, Dx M mb n s2 L2 w → Calls Try.prog f args w fun e w' => P e ∧ DxO M mb n s' L' w w') : Calls Try.prog f args w fun e w' => P e ∧ PwO S hb mb n s L s' L' w w' := by
  obtain ⟨M1, M2, h1, h2, h3, h4⟩ := h
  exact (k M2 h2).mono fun e w' ⟨he, hw⟩ => ⟨he, stepD h1 h3 h4 hw⟩
end Go.Proofs.Ytjbnkkjihcoojaa
