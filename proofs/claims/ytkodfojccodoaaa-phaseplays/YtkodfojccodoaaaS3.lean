/- Two pairs of stores, or one twice. -/
import Derived.Test.YtkodfojccodoaaaPl
import Derived.Test.YtkodfojccodoaaaDcC
import Derived.Test.YtkodfojccodoaaaCpz
namespace Go.Proofs.Ytkodfojccodoaaa
open Go.RowKit Go.Maps
set_option linter.unusedVariables false
set_option maxRecDepth 100000
/-- A pair that agrees, behind i calls. -/
structure Ag (W : World) (n i : Nat) (pb qb : Nat) (A : Adr) (D : Da) (P : Ph.St) (w : World) : Prop where
  e1 : A.pb = pb
  e2 : D.qb = qb
  b : Bt A D W.heap.size n (2 * (i : Int)) P P w
  k : P.k ≤ i
structure S3 (W : World) (n i : Nat) (pb qb pb2 qb2 : Nat) (w : World) : Prop where
  bel : Below W.heap.size W w
  two : (pb = pb2 ∧ qb = qb2 ∧ ∃ A D P, Ag W n i pb qb A D P w) ∨ ∃ A D P A2 D2 P2, Ag W n i pb qb A D P w ∧ Ag W n i pb2 qb2 A2 D2 P2 w ∧ ∀ g, Ow A D g → ¬ Ow A2 D2 g
section
variable {W w : World} {n i pb qb pb2 qb2 : Nat}
theorem Ag.below {A : Adr} {D : Da} {P : Ph.St} {w' : World} (h : Ag W n i pb qb A D P w) (hb : Below w.heap.size w w') : Ag W n i pb qb A D P w' := ⟨h.e1, h.e2, h.b.below hb, h.k⟩
theorem Ag.next {A : Adr} {D : Da} {P : Ph.St} (h : Ag W n i pb qb A D P w) (hi : i ≤ 1000) : Ag W n (i + 1) pb qb A D P w := ⟨h.e1, h.e2, h.b.mono (by omega) (by omega), by have := h.k; omega⟩
theorem S3.cur (h : S3 W n i pb qb pb2 qb2 w) : ∃ A D P, Ag W n i pb qb A D P w := by
  rcases h.two with ⟨_, _, h⟩ | ⟨A, D, P, _, _, _, h, _⟩
  · exact h
  · exact ⟨A, D, P, h⟩
theorem S3.back (h : S3 W n i pb qb pb2 qb2 w) : S3 W n i pb2 qb2 pb2 qb2 w := by
  rcases h.two with ⟨rfl, rfl, h2⟩ | ⟨_, _, _, A, D, P, _, h2, _⟩
  · exact h
  · exact ⟨h.bel, .inl ⟨rfl, rfl, A, D, P, h2⟩⟩
theorem S3.next (h : S3 W n i pb qb pb2 qb2 w) (hi : i ≤ 1000) : S3 W n (i + 1) pb qb pb2 qb2 w := by
  rcases h.two with ⟨e1, e2, A, D, P, h2⟩ | ⟨A, D, P, A2, D2, P2, h1, h2, h3⟩
  · exact ⟨h.bel, .inl ⟨e1, e2, A, D, P, h2.next hi⟩⟩
  · exact ⟨h.bel, .inr ⟨A, D, P, A2, D2, P2, h1.next hi, h2.next hi, h3⟩⟩
theorem S3.below {w' : World} (h : S3 W n i pb qb pb2 qb2 w) (hb : Below w.heap.size w w') : S3 W n i pb qb pb2 qb2 w' := by
  refine ⟨h.bel.trans (hb.mono h.bel.size), ?_⟩
  rcases h.two with ⟨e1, e2, A, D, P, h2⟩ | ⟨A, D, P, A2, D2, P2, h1, h2, h3⟩
  · exact .inl ⟨e1, e2, A, D, P, h2.below hb⟩
  · exact .inr ⟨A, D, P, A2, D2, P2, h1.below hb, h2.below hb, h3⟩
theorem S3.tells (h : S3 W n i pb qb pb2 qb2 w) :
    Calls Try.prog 15 #[.pointer (some ⟨pb, 0, none⟩), .pointer (some ⟨qb, 0, none⟩)] w fun e w' => e = .returned (.bool true) ∧ S3 W n i pb qb pb2 qb2 w' := by
  obtain ⟨A, D, P, rfl, rfl, b, _⟩ := h.cur
  exact (tells15 b.p b.d b.hn).mono fun e w' ⟨he, hw⟩ => ⟨he, h.below hw⟩
theorem Fp.bel {A : Adr} {D : Da} {K : Int} {P P2 : Ph.St} {w' : World} (H : Bt A D W.heap.size n K P P2 w) (h : Below W.heap.size W w) (f : Fp A D w w') : Below W.heap.size W w' :=
  h.trans (f.below h.size (fun g hg ho => by have := H.lo ho; omega))
theorem S3.plays (h : S3 W n i pb qb pb2 qb2 w) (hi : i ≤ 1000) {s : Opr} {a : Option Addr} {ca : Nat} (hs : OpOk w s a W.heap.size) (hl : s.l.length ≤ 16777216) (hr : s.kind % 9 < 7) :
    Calls Try.prog 14 #[.pointer (some ⟨pb, 0, none⟩), .pointer (some ⟨qb, 0, none⟩), .agg #[.int .u8 s.kind, .int .i64 s.v, .slice a s.l.length ca]] w fun e w' => e = .returned (.bool true) ∧ S3 W n (i + 1) pb qb pb2 qb2 w' := by
  have key : ∀ {A : Adr} {D : Da} {P : Ph.St}, Ag W n i pb qb A D P w → Calls Try.prog 14 #[.pointer (some ⟨pb, 0, none⟩), .pointer (some ⟨qb, 0, none⟩), .agg #[.int .u8 s.kind, .int .i64 s.v, .slice a s.l.length ca]] w fun e w' => PlO A D W.heap.size n (2 * (i : Int) + 2) (doP n P s) w e w' := by
    rintro A D P ⟨rfl, rfl, b, hk⟩
    exact plays14 b h.bel.size (by omega) (by omega) hs hl hr
  have hdk : ∀ {P : Ph.St}, P.k ≤ i → (doP n P s).k ≤ i + 1 := fun {P} hk => by have := dec_lt (n := n) (P := P) s; omega
  rcases h.two with ⟨e1, e2, A, D, P, h2⟩ | ⟨A, D, P, A2, D2, P2, h1, h2, h3⟩
  · refine (key h2).mono ?_
    rintro e w' ⟨rfl, D', q1, q2, b, f⟩
    refine ⟨rfl, Fp.bel h2.b h.bel f, .inl ⟨e1, e2, A, D', doP n P s, h2.e1, q1.trans h2.e2, ?_, hdk h2.k⟩⟩
    rw [show (2 * ((i + 1 : Nat) : Int)) = 2 * (i : Int) + 2 by omega]
    exact b
  · refine (key h1).mono ?_
    rintro e w' ⟨rfl, D', q1, q2, b, f⟩
    refine ⟨rfl, Fp.bel h1.b h.bel f, .inr ⟨A, D', doP n P s, A2, D2, P2, ⟨h1.e1, q1.trans h1.e2, ?_, hdk h1.k⟩, ⟨h2.e1, h2.e2, ?_, by have := h2.k; omega⟩, fun g hg => h3 g ((Ow.eq q1 q2 g).1 hg)⟩⟩
    · rw [show (2 * ((i + 1 : Nat) : Int)) = 2 * (i : Int) + 2 by omega]
      exact b
    · exact (h2.b.keepO f (fun g hg ho => h3 g ho hg) (fun g hg => h1.b.typ hg)).mono (by omega) (by omega)
/-- A copy of the program's store, then of the document's. -/
def Hal (W : World) (n i pb qb hc : Nat) (w w1 : World) : Prop := ∃ A D P B, Ag W n i pb qb A D P w ∧ Below w.heap.size w w1 ∧ B.pb = hc ∧ Pn W.heap.size B n (2 * (i : Int)) P w1 ∧ (∀ g, B.own g → w.heap.size ≤ g) ∧ Below W.heap.size W w
theorem S3.copyP (h : S3 W n i pb qb pb2 qb2 w) :
    Calls Try.prog 12 #[.pointer (some ⟨pb, 0, none⟩)] w fun e w' => ∃ hc, e = .returned (.pointer (some ⟨hc, 0, none⟩)) ∧ Hal W n i pb qb hc w w' := by
  obtain ⟨A, D, P, h1⟩ := h.cur
  have C := h1.b.p.copy h.bel.size
  rw [h1.e1] at C
  exact C.mono fun e w' ⟨B, he, hp, hb, ho⟩ => ⟨B.pb, he, A, D, P, B, h1, hb, rfl, hp, ho, h.bel⟩
theorem Hal.copyD {hc : Nat} {w1 : World} (h : Hal W n i pb qb hc w w1) :
    Calls Try.prog 13 #[.pointer (some ⟨qb, 0, none⟩)] w1 fun e w' => ∃ mc, e = .returned (.pointer (some ⟨mc, 0, none⟩)) ∧ S3 W n i hc mc pb qb w' := by
  obtain ⟨A, D, P, B, h1, hb, e1, hp, ho, hW⟩ := h
  have h2 := h1.below hb
  have C := copy13 h2.b.d
  rw [h2.e2] at C
  refine C.mono ?_
  rintro e w' ⟨q, v, he, d, hq, hv, b2⟩
  have hs := hb.size
  have hWs := hW.size
  have hnew : ∀ g, Ow B { D with qb := q, v := v } g → w.heap.size ≤ g := by
    rintro g (hg | hg | hg)
    · exact ho g hg
    · have : g = q := hg
      omega
    · have := hv g hg
      omega
  refine ⟨q, he, hW.trans ((hb.mono hWs).trans (b2.mono (by omega))), .inr ⟨B, { D with qb := q, v := v }, P, A, D, P, ⟨e1, rfl, ⟨hp.below b2, d, h1.b.hn, ?_, ?_⟩, h1.k⟩, h2.below b2, fun g hg hg2 => ?_⟩⟩
  · rintro g hg (h | h)
    · obtain ⟨_, _, hx, _⟩ := hp.typ hg
      have := lt_of_blk hx
      have : g = q := h
      omega
    · obtain ⟨_, _, hx, _⟩ := hp.typ hg
      have := lt_of_blk hx
      have := hv g h
      omega
  · rintro g (h | h)
    · have : g = q := h
      omega
    · have := hv g h
      omega
  · have := hnew g hg
    have := h1.b.lt hg2
    omega
end
end Go.Proofs.Ytkodfojccodoaaa
