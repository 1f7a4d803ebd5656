/- Each call of both, one behind the other. -/
import Derived.Test.YtkodfojccodoaaaBt
import Derived.Test.YtkodfojccodoaaaDcQ
namespace Go.Proofs.Ytkodfojccodoaaa
open Go.RowKit Go.Maps
set_option linter.unusedVariables false
set_option maxRecDepth 100000
theorem Lie.refl (D : Da) (W : World) : Lie D D W := ⟨fun a e => .inl e, fun a e => .inl e⟩
theorem Hlf.from {A : Adr} {D : Da} {N n : Nat} {K : Int} {P P2 : Ph.St} {o : Option Addr} {X X' w : World} (H : Hlf A D N n K P P2 o X' w) (h : Below X.heap.size X X') : Hlf A D N n K P P2 o X w := ⟨H.b, (Fq.of_below h).trans H.fr, H.lo, H.nT, H.nB, H.nw⟩
def MidF (A : Adr) (D : Da) (N n : Nat) (K : Int) (P : Ph.St) (o : Option Addr) (X w : World) : Prop := Mid A D N n K P o X w ∧ Fp A D X w
theorem Hlf.midF {A : Adr} {D : Da} {N n : Nat} {K : Int} {P P2 : Ph.St} {o : Option Addr} {X w : World} {D' : Da} {w' : World} (H : Hlf A D N n K P P2 o X w) (h : Dm D' P w') (e1 : D'.qb = D.qb) (e2 : D'.v = D.v) (e3 : D'.n = D.n) (f : Fd D w w') (hL : Lie D D' w) : MidF A D N n K P o X w' :=
  ⟨H.mid h e1 e2 e3 f hL, H.fr.trans (H.b.stepD h e1 e2 e3 f).2⟩
section
variable {A : Adr} {D : Da} {N n : Nat} {K : Int} {P P' : Ph.St} {o : Option Addr} {X w : World}
theorem Beg.decide1 (H : Beg A D N n K P o X) (hK : K + 3 ≤ 4611686018427387904) (v : Int) :
    Calls Try.prog 20 #[.pointer (some ⟨A.pb, 0, none⟩), .int .i64 v] X fun e w' => e = .returned (.tuple #[.bool (Ph.dB n P v), .int .i64 (Ph.dE n v)]) ∧ Hlf A D N n (K + 2) P P o X w' := by
  refine (H.b.p.decide' v).mono ?_
  rintro e w' ⟨he, hw⟩
  rw [hw]
  exact ⟨he, H.half (H.b.p.mono (by omega) (by omega)) (Fq.refl _ _)⟩
theorem Hlf.decide2 (H : Hlf A D N n K P P o X w) (v : Int) :
    Calls Try.prog 28 #[.pointer (some ⟨D.qb, 0, none⟩), .int .i64 v] w fun e w' => e = .returned (.tuple #[.bool (Ph.dB n P v), .int .i64 (Ph.dE n v)]) ∧ MidF A D N n K P o X w' := by
  have C := decide28 H.b.d v
  unfold DecO at C
  rw [H.b.hn] at C
  exact C.mono fun e w' ⟨he, hb⟩ => ⟨he, H.mid0 hb, H.fr.trans (Fq.of_below hb)⟩
theorem Beg.save1 (H : Beg A D N n K P o X) (hN : N ≤ X.heap.size) (hK : K + 3 ≤ 4611686018427387904) {a : Option Addr} {c : Nat} {l : List Int} (h : Lw X a l) (hap : ∀ b off, a = some ⟨b, off, none⟩ → 0 < l.length → ¬ A.own b) (hl : l.length ≤ maxLen) :
    Calls Try.prog 19 #[.pointer (some ⟨A.pb, 0, none⟩), .slice a l.length c] X fun e w' => e = .returned (.int .i64 (Ph.mE n l)) ∧ Hlf A D N n (K + 2) (Ph.sP n P l) P o X w' :=
  (H.b.p.save hN h hap hl).mono fun e w' ⟨he, q, _, f⟩ => ⟨he, H.half (q.mono (by omega) (by omega)) f⟩
theorem Hlf.save2 {l : List Int} (H : Hlf A D N n K (Ph.sP n P l) P o X w) {a : Option Addr} {c : Nat} (h : Lw w a l) (hap : ∀ b off, a = some ⟨b, off, none⟩ → 0 < l.length → b ≠ D.qb ∧ some b ≠ D.v.ownBlock) (hl : l.length ≤ maxLen) :
    Calls Try.prog 29 #[.pointer (some ⟨D.qb, 0, none⟩), .slice a l.length c] w fun e w' => e = .returned (.int .i64 (Ph.mE n l)) ∧ MidF A D N n K (Ph.sP n P l) o X w' := by
  have C := save29 H.b.d (c := c) h hap hl
  unfold SavO at C
  rw [H.b.hn] at C
  exact C.mono fun e w' ⟨he, d, f⟩ => ⟨he, H.midF d rfl rfl rfl f (Lie.refl _ _)⟩
theorem Beg.reach1 (H : Beg A D N n K P o X) (hN : N ≤ X.heap.size) (hK : K + 3 ≤ 4611686018427387904) {a : Option Addr} {c : Nat} {l : List Int} (h : Lw X a l) (hap : ∀ b off, a = some ⟨b, off, none⟩ → 0 < l.length → ¬ A.own b) (hl : l.length ≤ maxLen) :
    Calls Try.prog 21 #[.pointer (some ⟨A.pb, 0, none⟩), .slice a l.length c] X fun e w' => e = .returned (.tuple #[.bool (Ph.rT n P l), .bool (Ph.rB n P l), .int .i64 (Ph.mE n l)]) ∧ Hlf A D N n (K + 2) (Ph.rP n P l) P o X w' :=
  (H.b.p.reach hN hK h hap hl).mono fun e w' ⟨he, q, _, f⟩ => ⟨he, H.half q f⟩
theorem Hlf.reach2 {l : List Int} (H : Hlf A D N n K (Ph.rP n P l) P o X w) {a : Option Addr} {c : Nat} (h : Lw w a l) (hl : l.length ≤ 16777216) :
    Calls Try.prog 30 #[.pointer (some ⟨D.qb, 0, none⟩), .slice a l.length c] w fun e w' => e = .returned (.tuple #[.bool (Ph.rT n P l), .bool (Ph.rB n P l), .int .i64 (Ph.mE n l)]) ∧ MidF A D N n K (Ph.rP n P l) o X w' := by
  have C := reach30 H.b.d (c := c) h hl
  unfold ReaD at C
  rw [H.b.hn] at C
  exact C.mono fun e w' ⟨he, D', e1, e2, e3, d, f, hL⟩ => ⟨he, H.midF d e1 e2 (e3.trans H.b.hn.symm) f hL⟩
theorem Beg.turn1 (H : Beg A D N n K P o X) (hN : N ≤ X.heap.size) (hK : K + 3 ≤ 4611686018427387904) :
    Calls Try.prog 17 #[.pointer (some ⟨A.pb, 0, none⟩)] X fun e w' => e = .returned (.tuple #[.int .u8 ((Ph.knd P.k : Nat) : Int), .int .i64 0]) ∧ Hlf A D N n (K + 2) (Ph.turn n P) P o X w' :=
  (H.b.p.turn hN).mono fun e w' ⟨he, q, _, f⟩ => ⟨he, H.half (q.mono (by omega) (by omega)) f⟩
theorem Hlf.turn2 (H : Hlf A D N n K (Ph.turn n P) P o X w) (hk : P.k ≤ 100000) (hus : Us P.s) :
    Calls Try.prog 31 #[.pointer (some ⟨D.qb, 0, none⟩)] w fun e w' => e = .returned (.int .u8 ((Ph.knd P.k : Nat) : Int)) ∧ MidF A D N n K (Ph.turn n P) o X w' := by
  have C := turn31 H.b.d hk hus
  unfold TrnD at C
  rw [H.b.hn] at C
  exact C.mono fun e w' ⟨he, D', e1, e2, e3, d, f, hL⟩ => ⟨he, H.midF d e1 e2 (e3.trans H.b.hn.symm) f hL⟩
theorem Beg.draw1 (H : Beg A D N n K P o X) (hN : N ≤ X.heap.size) (hK : K + 3 ≤ 4611686018427387904) :
    Calls Try.prog 22 #[.pointer (some ⟨A.pb, 0, none⟩)] X fun e w' => e = .returned (.int .u64 (drw P.s)) ∧ Hlf A D N n (K + 2) (draw P) P o X w' :=
  (H.b.p.draw hN).mono fun e w' ⟨he, q, _, f⟩ => ⟨he, H.half (q.mono (by omega) (by omega)) f⟩
theorem Hlf.draw2 (H : Hlf A D N n K (draw P) P o X w) (hus : Us P.s) :
    Calls Try.prog 32 #[.pointer (some ⟨D.qb, 0, none⟩)] w fun e w' => e = .returned (.int .u64 (drw P.s)) ∧ MidF A D N n K (draw P) o X w' :=
  (draw32 H.b.d ⟨by have := hus.1; omega, hus.2⟩).mono fun e w' ⟨he, d, f⟩ => ⟨he, H.midF d rfl rfl rfl f (Lie.refl _ _)⟩
end
end Go.Proofs.Ytkodfojccodoaaa
