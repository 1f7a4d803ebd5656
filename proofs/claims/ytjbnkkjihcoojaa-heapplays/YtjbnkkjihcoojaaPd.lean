/- Two pairs of heaps, or one twice. -/
import Derived.Test.YtjbnkkjihcoojaaPb
import Derived.Test.YtjbnkkjihcoojaaPc
import Derived.Test.YtjbnkkjihcoojaaDr
namespace Go.Proofs.Ytjbnkkjihcoojaa
open Go.RowKit Go.Maps
set_option linter.unusedVariables false
set_option maxRecDepth 100000

theorem Pw.keepFq {S Q : Nat → Prop} {hb mb n : Nat} {s s2 : List Int} {L L2 : List Nat} {W W' : World} (h : Pw S hb mb n s L s2 L2 W) (hf : Fq Q W W') (hq : ∀ g, S g → g < W.heap.size → Q g) : Pw (fun g => S g ∧ g < W.heap.size) hb mb n s L s2 L2 W' := by
  obtain ⟨M1, M2, h1, h2, h3, h4⟩ := h
  exact ⟨_, _, h1.keepFq hf (fun g hm hl => hq g (h4 g (.inl hm)) hl), h2.keepFq hf (fun g hm hl => hq g (h4 g (.inr hm)) hl), fun g hg hg2 => h3 g hg.1 hg2.1, fun g hg => by
    rcases hg with hg | hg
    · exact ⟨h4 g (.inl hg.1), hg.2⟩
    · exact ⟨h4 g (.inr hg.1), hg.2⟩⟩
theorem Pw.more {S S' : Nat → Prop} {hb mb n : Nat} {s s2 : List Int} {L L2 : List Nat} {W : World} (h : Pw S hb mb n s L s2 L2 W) (hq : ∀ g, S g → S' g) : Pw S' hb mb n s L s2 L2 W := by
  obtain ⟨M1, M2, h1, h2, h3, h4⟩ := h
  exact ⟨M1, M2, h1, h2, h3, fun g hg => hq g (h4 g hg)⟩
/-- A pair that agrees, in blocks of S. -/
def Ag (S : Nat → Prop) (hb mb n : Nat) (w : World) : Prop := ∃ s L, Pw S hb mb n s L s L w
structure St (W : World) (hb mb hb2 mb2 n : Nat) (w : World) : Prop where
  bel : Below W.heap.size W w
  two : (hb = hb2 ∧ mb = mb2 ∧ Ag (fun g => W.heap.size ≤ g) hb mb n w) ∨ ∃ S1 S2, Ag S1 hb mb n w ∧ Ag S2 hb2 mb2 n w ∧ (∀ g, S1 g → ¬ S2 g) ∧ (∀ g, S1 g ∨ S2 g → W.heap.size ≤ g)
theorem St.cur {W : World} {hb mb hb2 mb2 n : Nat} {w : World} (h : St W hb mb hb2 mb2 n w) : ∃ S, Ag S hb mb n w ∧ ∀ g, S g → W.heap.size ≤ g := by
  rcases h.two with ⟨_, _, h⟩ | ⟨S1, S2, h1, _, _, h4⟩
  · exact ⟨_, h, fun g hg => hg⟩
  · exact ⟨S1, h1, fun g hg => h4 g (.inl hg)⟩
theorem St.old {W : World} {hb mb hb2 mb2 n : Nat} {w : World} (h : St W hb mb hb2 mb2 n w) : ∃ S, Ag S hb2 mb2 n w ∧ ∀ g, S g → W.heap.size ≤ g := by
  rcases h.two with ⟨e1, e2, h⟩ | ⟨S1, S2, _, h1, _, h4⟩
  · rw [← e1, ← e2]; exact ⟨_, h, fun g hg => hg⟩
  · exact ⟨S2, h1, fun g hg => h4 g (.inr hg)⟩
theorem St.back {W : World} {hb mb hb2 mb2 n : Nat} {w : World} (h : St W hb mb hb2 mb2 n w) : St W hb2 mb2 hb2 mb2 n w := by
  obtain ⟨S, ⟨s, L, h1⟩, h2⟩ := h.old
  exact ⟨h.bel, .inl ⟨rfl, rfl, s, L, h1.more h2⟩⟩
theorem St.below {W : World} {hb mb hb2 mb2 n : Nat} {w w' : World} (h : St W hb mb hb2 mb2 n w) (hb' : Below w.heap.size w w') : St W hb mb hb2 mb2 n w' := by
  refine ⟨h.bel.trans (hb'.mono h.bel.size), ?_⟩
  rcases h.two with ⟨e1, e2, s, L, h⟩ | ⟨S1, S2, ⟨s, L, h1⟩, ⟨s2, L2, h2⟩, h3, h4⟩
  · exact .inl ⟨e1, e2, s, L, (h.below hb').more (fun g hg => hg.1)⟩
  · exact .inr ⟨_, _, ⟨s, L, h1.below hb'⟩, ⟨s2, L2, h2.below hb'⟩, fun g hg hg2 => h3 g hg.1 hg2.1, fun g hg => h4 g (hg.imp (·.1) (·.1))⟩
theorem St.tells {W : World} {hb mb hb2 mb2 n : Nat} {w : World} (h : St W hb mb hb2 mb2 n w) (kd v by_ : Int) :
    Calls Try.prog 15 #[.pointer (some ⟨hb, 0, none⟩), .pointer (some ⟨mb, 0, none⟩), .agg #[.int .u8 kd, .int .i64 v, .int .i64 by_]] w fun e w' => e = .returned (.bool true) ∧ St W hb mb hb2 mb2 n w' := by
  obtain ⟨S, ⟨s, L, h1⟩, _⟩ := h.cur
  exact (tells15 h1 kd v by_).mono fun e w' ⟨he, hw⟩ => ⟨he, h.below hw⟩
theorem St.plays {W : World} {hb mb hb2 mb2 n : Nat} {w : World} (h : St W hb mb hb2 mb2 n w) (kd v by_ : Int) (hk : 0 ≤ kd) :
    Calls Try.prog 14 #[.pointer (some ⟨hb, 0, none⟩), .pointer (some ⟨mb, 0, none⟩), .agg #[.int .u8 kd, .int .i64 v, .int .i64 by_]] w fun e w' => e = .returned (.bool true) ∧ St W hb mb hb2 mb2 n w' := by
  have hs := h.bel.size
  rcases h.two with ⟨e1, e2, s, L, h1⟩ | ⟨S1, S2, ⟨s, L, h1⟩, ⟨s2, L2, h2⟩, h3, h4⟩
  · refine (plays14 h1 kd v by_ hk).mono fun e w' ⟨he, s', L', hw⟩ => ⟨he, h.bel.trans (hw.2.below hs (fun g hg => ⟨by omega, by omega⟩)), .inl ⟨e1, e2, s', L', hw.1.more (fun g hg => ?_)⟩⟩
    rcases hg with hg | hg
    · exact hg
    · omega
  · refine (plays14 h1 kd v by_ hk).mono fun e w' ⟨he, s', L', hw⟩ => ⟨he, h.bel.trans (hw.2.below hs (fun g hg => ⟨by omega, fun h => by have := h4 g (.inl h); omega⟩)), .inr ⟨_, _, ⟨s', L', hw.1⟩, ⟨s2, L2, h2.keepFq hw.2 (fun g hg hl => ⟨hl, fun h => h3 g h hg⟩)⟩, fun g hg hg2 => ?_, fun g hg => ?_⟩⟩
    · rcases hg with hg | hg
      · exact h3 g hg hg2.1
      · have := hg2.2; omega
    · rcases hg with (hg | hg) | hg
      · exact h4 g (.inl hg)
      · omega
      · exact h4 g (.inr hg.1)
/-- A copy of the program's heap, then of the document's. -/
def Half (W : World) (hb mb n hc : Nat) (w w1 : World) : Prop := ∃ S s L, Pw S hb mb n s L s L w1 ∧ (∀ g, S g → W.heap.size ≤ g ∧ g < w.heap.size) ∧ Hx (fun g => w.heap.size ≤ g) hc n s L w1 ∧ Below W.heap.size W w1 ∧ w.heap.size ≤ w1.heap.size ∧ W.heap.size ≤ w.heap.size
theorem St.copyH {W : World} {hb mb hb2 mb2 n : Nat} {w : World} (h : St W hb mb hb2 mb2 n w) :
    Calls Try.prog 12 #[.pointer (some ⟨hb, 0, none⟩)] w fun e w' => ∃ hc, e = .returned (.pointer (some ⟨hc, 0, none⟩)) ∧ Half W hb mb n hc w w' := by
  obtain ⟨S, ⟨s, L, h1⟩, h2⟩ := h.cur
  obtain ⟨M1, M2, g1, g2, g3, g4⟩ := id h1
  exact (copy12 g1).mono fun e w' ⟨hc, he, hx, hb'⟩ => ⟨hc, he, _, s, L, h1.below hb', fun g hg => ⟨h2 g hg.1, hg.2⟩, hx, h.bel.trans (hb'.mono h.bel.size), hb'.size, h.bel.size⟩
theorem Half.copyD {W : World} {hb mb n hc : Nat} {w w1 : World} (h : Half W hb mb n hc w w1) :
    Calls Try.prog 13 #[.pointer (some ⟨mb, 0, none⟩)] w1 fun e w' => ∃ mc, e = .returned (.pointer (some ⟨mc, 0, none⟩)) ∧ St W hc mc hb mb n w' := by
  obtain ⟨S, s, L, h1, h2, h3, h4, h5, h6⟩ := h
  obtain ⟨M1, M2, g1, g2, g3, g4⟩ := id h1
  refine (copy13 g2).mono fun e w' ⟨mc, he, dx, hb'⟩ => ⟨mc, he, h4.trans (hb'.mono h4.size), .inr ⟨fun g => w.heap.size ≤ g, _, ⟨s, L, _, _, h3.sharp hb', dx, fun g hg hg2 => by have := hg.2; omega, fun g hg => ?_⟩, ⟨s, L, h1.below hb'⟩, fun g hg hg2 => by have := (h2 g hg2.1).2; omega, fun g hg => ?_⟩⟩
  · rcases hg with hg | hg
    · exact hg.1
    · exact Nat.le_trans h5 hg
  · rcases hg with hg | hg
    · exact Nat.le_trans h6 hg
    · exact (h2 g hg.1).1
end Go.Proofs.Ytjbnkkjihcoojaa
