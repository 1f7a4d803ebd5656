/- Two pairs of queues, or one twice. -/
import Derived.Test.YtjnifadfcnpdoaaPl
import Derived.Test.YtjnifadfcnpdoaaTel
namespace Go.Proofs.Ytjnifadfcnpdoaa
open Go.RowKit Go.Maps
set_option linter.unusedVariables false
set_option maxRecDepth 100000
abbrev kOf (i : Nat) : Int := 1048577 * ((i : Int) + 1)
/-- A pair that agrees, behind i calls. -/
structure Ag (W : World) (n i : Nat) (pb qb : Nat) (A : Adr) (D : Da) (L : List Nat) (st : List Int) (mv : Nat) (w : World) : Prop where
  e1 : A.qb = pb
  e2 : D.qb = qb
  b : Bt A D W.heap.size n (kOf i) L st L st mv w
  k : mv ≤ i
structure S3 (W : World) (n i : Nat) (pb qb pb2 qb2 : Nat) (w : World) : Prop where
  bel : Below W.heap.size W w
  two : (pb = pb2 ∧ qb = qb2 ∧ ∃ A D L st mv, Ag W n i pb qb A D L st mv w) ∨ ∃ A D L st mv A2 D2 L2 st2 mv2, Ag W n i pb qb A D L st mv w ∧ Ag W n i pb2 qb2 A2 D2 L2 st2 mv2 w ∧ ∀ g, Al A D g → ¬ Al A2 D2 g
section
variable {W w : World} {n i pb qb pb2 qb2 : Nat}
theorem Ag.below {A : Adr} {D : Da} {L : List Nat} {st : List Int} {mv : Nat} {w' : World} (h : Ag W n i pb qb A D L st mv w) (hb : Below w.heap.size w w') : Ag W n i pb qb A D L st mv w' := ⟨h.e1, h.e2, h.b.below hb, h.k⟩
theorem Ag.next {A : Adr} {D : Da} {L : List Nat} {st : List Int} {mv : Nat} (h : Ag W n i pb qb A D L st mv w) (hi : i ≤ 1000) : Ag W n (i + 1) pb qb A D L st mv w := ⟨h.e1, h.e2, h.b.mono (by unfold kOf; omega) (by unfold kOf; omega), by have := h.k; omega⟩
theorem S3.cur (h : S3 W n i pb qb pb2 qb2 w) : ∃ A D L st mv, Ag W n i pb qb A D L st mv w := by
  rcases h.two with ⟨_, _, h⟩ | ⟨A, D, L, st, mv, _, _, _, _, _, h, _⟩
  · exact h
  · exact ⟨A, D, L, st, mv, h⟩
theorem S3.back (h : S3 W n i pb qb pb2 qb2 w) : S3 W n i pb2 qb2 pb2 qb2 w := by
  rcases h.two with ⟨rfl, rfl, h2⟩ | ⟨_, _, _, _, _, A, D, L, st, mv, _, h2, _⟩
  · exact h
  · exact ⟨h.bel, .inl ⟨rfl, rfl, A, D, L, st, mv, h2⟩⟩
theorem S3.next (h : S3 W n i pb qb pb2 qb2 w) (hi : i ≤ 1000) : S3 W n (i + 1) pb qb pb2 qb2 w := by
  rcases h.two with ⟨e1, e2, A, D, L, st, mv, h2⟩ | ⟨A, D, L, st, mv, A2, D2, L2, st2, mv2, h1, h2, h3⟩
  · exact ⟨h.bel, .inl ⟨e1, e2, A, D, L, st, mv, h2.next hi⟩⟩
  · exact ⟨h.bel, .inr ⟨A, D, L, st, mv, A2, D2, L2, st2, mv2, h1.next hi, h2.next hi, h3⟩⟩
theorem S3.below {w' : World} (h : S3 W n i pb qb pb2 qb2 w) (hb : Below w.heap.size w w') : S3 W n i pb qb pb2 qb2 w' := by
  refine ⟨h.bel.trans (hb.mono h.bel.size), ?_⟩
  rcases h.two with ⟨e1, e2, A, D, L, st, mv, h2⟩ | ⟨A, D, L, st, mv, A2, D2, L2, st2, mv2, h1, h2, h3⟩
  · exact .inl ⟨e1, e2, A, D, L, st, mv, h2.below hb⟩
  · exact .inr ⟨A, D, L, st, mv, A2, D2, L2, st2, mv2, h1.below hb, h2.below hb, h3⟩
theorem S3.tells (h : S3 W n i pb qb pb2 qb2 w) :
    Calls Try.prog 15 #[.pointer (some ⟨pb, 0, none⟩), .pointer (some ⟨qb, 0, none⟩)] w fun e w' => e = .returned (.bool true) ∧ S3 W n i pb qb pb2 qb2 w' := by
  obtain ⟨A, D, L, st, mv, rfl, rfl, b, _⟩ := h.cur
  exact (tells15 b).mono fun e w' ⟨he, hw⟩ => ⟨he, h.below hw⟩
theorem Fp.bel {A : Adr} {D : Da} {K : Int} {L : List Nat} {st : List Int} {mv : Nat} {w' : World} (H : Bt A D W.heap.size n K L st L st mv w) (h : Below W.heap.size W w) (f : Fp A D w w') : Below W.heap.size W w' :=
  h.trans (f.below h.size (fun g hg ho => by have := H.lo ho; omega))
theorem S3.plays (h : S3 W n i pb qb pb2 qb2 w) (hi : i ≤ 1000) {s : Opr} {a b : Option Addr} {ca cb : Nat} (hs : OpOk w s a b) (ha : ∀ b' off, a = some ⟨b', off, none⟩ → 0 < s.l.length → b' < W.heap.size) (hb : ∀ b' off, b = some ⟨b', off, none⟩ → 0 < s.set.length → b' < W.heap.size) (hl : s.l.length ≤ 1048576) (hl2 : s.set.length ≤ 1048576) :
    Calls Try.prog 14 #[.pointer (some ⟨pb, 0, none⟩), .pointer (some ⟨qb, 0, none⟩), .agg #[.int .u8 s.kind, .slice a s.l.length ca, .slice b s.set.length cb]] w fun e w' => e = .returned (.bool true) ∧ S3 W n (i + 1) pb qb pb2 qb2 w' := by
  have key : ∀ {A : Adr} {D : Da} {L : List Nat} {st : List Int} {mv : Nat}, Ag W n i pb qb A D L st mv w → Calls Try.prog 14 #[.pointer (some ⟨pb, 0, none⟩), .pointer (some ⟨qb, 0, none⟩), .agg #[.int .u8 s.kind, .slice a s.l.length ca, .slice b s.set.length cb]] w fun e w' => e = .returned (.bool true) ∧ PlS A D W.heap.size n (kOf i + 1048577) mv w w' := by
    rintro A D L st mv ⟨rfl, rfl, bt, hk⟩
    by_cases hr : s.kind % 6 = 3
    · exact plays14_3 bt h.bel.size (by unfold kOf; omega) hs hb hl2 hr
    · exact plays14_b bt h.bel.size (by unfold kOf; omega) (by omega) hs ha hl hr
  have eK : kOf i + 1048577 = kOf (i + 1) := by unfold kOf; omega
  rw [eK] at key
  rcases h.two with ⟨e1, e2, A, D, L, st, mv, h2⟩ | ⟨A, D, L, st, mv, A2, D2, L2, st2, mv2, h1, h2, h3⟩
  · refine (key h2).mono ?_
    rintro e w' ⟨rfl, D', L', st', mv', q1, b', hm, f, hal⟩
    exact ⟨rfl, Fp.bel h2.b h.bel f, .inl ⟨e1, e2, A, D', L', st', mv', h2.e1, q1.trans h2.e2, b', by have := h2.k; omega⟩⟩
  · refine (key h1).mono ?_
    rintro e w' ⟨rfl, D', L', st', mv', q1, b', hm, f, hal⟩
    refine ⟨rfl, Fp.bel h1.b h.bel f, .inr ⟨A, D', L', st', mv', A2, D2, L2, st2, mv2, ⟨h1.e1, q1.trans h1.e2, b', by have := h1.k; omega⟩, ⟨h2.e1, h2.e2, ?_, by have := h2.k; omega⟩, fun g hg hg2 => ?_⟩⟩
    · exact (h2.b.keepQ f (fun g hg ho => h3 g ho hg)).mono (by unfold kOf; omega) (by unfold kOf; omega)
    · rcases hal g hg with h' | h'
      · exact h3 g h' hg2
      · have := h2.b.lt hg2
        omega
/-- A copy of the program's queue, then of the document's. -/
def Hal (W : World) (n i pb qb hc : Nat) (w w1 : World) : Prop := ∃ A D L st mv B, Ag W n i pb qb A D L st mv w ∧ Below w.heap.size w w1 ∧ B.qb = hc ∧ Qn W.heap.size B n (kOf i) L st w1 ∧ (∀ g, B.own g → w.heap.size ≤ g) ∧ Below W.heap.size W w
theorem S3.copyP (h : S3 W n i pb qb pb2 qb2 w) :
    Calls Try.prog 12 #[.pointer (some ⟨pb, 0, none⟩)] w fun e w' => ∃ hc, e = .returned (.pointer (some ⟨hc, 0, none⟩)) ∧ Hal W n i pb qb hc w w' := by
  obtain ⟨A, D, L, st, mv, h1⟩ := h.cur
  have C := copy12 h1.b.p.qx
  rw [h1.e1] at C
  have hs := h.bel.size
  exact C.mono fun e w' ⟨B, he, hp, hb, ho⟩ => ⟨B.qb, he, A, D, L, st, mv, B, h1, hb, rfl, ⟨hp, fun g hg => Nat.le_trans hs (ho g hg), h1.b.p.all, h1.b.p.k0⟩, ho, h.bel⟩
theorem Hal.copyD {hc : Nat} {w1 : World} (h : Hal W n i pb qb hc w w1) :
    Calls Try.prog 13 #[.pointer (some ⟨qb, 0, none⟩)] w1 fun e w' => ∃ mc, e = .returned (.pointer (some ⟨mc, 0, none⟩)) ∧ S3 W n i hc mc pb qb w' := by
  obtain ⟨A, D, L, st, mv, B, h1, hb, e1, hp, ho, hW⟩ := h
  have h2 := h1.below hb
  have C := copy13 h2.b.d
  rw [h2.e2] at C
  refine C.mono ?_
  rintro e w' ⟨D', he, d, hq, hg, hr, b2⟩
  have hs := hb.size
  have hWs := hW.size
  have hnd : ∀ g, (g = D'.qb ∨ g = D'.gs ∨ ∃ x, D'.aR = some x ∧ x.block = g) → w1.heap.size ≤ g := by
    rintro g (h | h | ⟨x, hx, h⟩)
    · omega
    · omega
    · have := hr x hx
      omega
  have hnew : ∀ g, Al B D' g → w.heap.size ≤ g := by
    rintro g (h | h)
    · exact ho g h
    · have := hnd g h
      omega
  refine ⟨D'.qb, he, hW.trans ((hb.mono hWs).trans (b2.mono (by omega))), .inr ⟨B, D', L, st, mv, A, D, L, st, mv, ⟨e1, rfl, ⟨hp.below b2, d, h1.b.g, fun g hg h => ?_, fun g h => by have := hnd g h; omega⟩, h1.k⟩, h2.below b2, fun g hg hg2 => ?_⟩⟩
  · have := hp.qx.lt hg
    have := hnd g h
    omega
  · have := hnew g hg
    have := h1.b.lt hg2
    omega
end
end Go.Proofs.Ytjnifadfcnpdoaa
