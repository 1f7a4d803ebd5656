/- A store and the document's, side by side. -/
import Derived.Test.YtkodfojccodoaaaTel
import Derived.Test.YtkodfojccodoaaaDos
namespace Go.Proofs.Ytkodfojccodoaaa
open Go.RowKit Go.Maps
set_option linter.unusedVariables false
set_option maxRecDepth 100000
/-- The blocks that calls of the pair turn. -/
def Ow (A : Adr) (D : Da) (g : Nat) : Prop := A.own g ∨ g = D.qb ∨ D.v.ownBlock = some g
abbrev Fp (A : Adr) (D : Da) (W W' : World) : Prop := Fq (fun g => ¬ Ow A D g) W W'
theorem own_at {a : Option Addr} {n c g : Nat} (h : (Value.slice a n c).ownBlock = some g) : ∃ x, a = some x ∧ x.block = g := by
  cases a with
  | none => cases h
  | some x => exact ⟨x, rfl, by injection h⟩
theorem Pn.typ {N : Nat} {A : Adr} {n : Nat} {K : Int} {P : Ph.St} {W : World} (H : Pn N A n K P W) {g : Nat} (hg : A.own g) : ∃ cs t, W.heap[g]? = some (.cells cs t (0, 0)) ∧ t ≠ 48 := by
  obtain ⟨nt, mt, nb, mb, q, _⟩ := H.px
  rcases hg with rfl | ⟨h0, rfl | rfl | rfl⟩
  · exact ⟨_, 63, q.blk, by decide⟩
  · obtain ⟨cur, h⟩ := own_hp (q.rs h0)
    exact ⟨_, 4, h, by decide⟩
  · obtain ⟨cur, h⟩ := own_hp (q.rt h0)
    exact ⟨_, 2, h, by decide⟩
  · obtain ⟨cur, h⟩ := own_hp (q.rb h0)
    exact ⟨_, 2, h, by decide⟩
theorem Pn.keep {N : Nat} {A : Adr} {n : Nat} {K : Int} {P : Ph.St} {W W' : World} {Q : Nat → Prop} (H : Pn N A n K P W) (hf : Fq Q W W') (hq : ∀ g, A.own g → Q g) : Pn N A n K P W' := ⟨H.px.keep hf hq, H.new, H.hn⟩
theorem Dm.typ {D : Da} {P : Ph.St} {W : World} (H : Dm D P W) {g : Nat} (hg : g = D.qb ∨ D.v.ownBlock = some g) : ∃ cs t, W.heap[g]? = some (.cells cs t (0, 0)) ∧ t ≠ 48 := by
  rcases hg with rfl | hg
  · exact ⟨_, 68, H.blk, by decide⟩
  · obtain ⟨_, cur, h⟩ := own_blk H.vs hg
    exact ⟨_, 4, h, by decide⟩
theorem Dm.atT {D : Da} {P : Ph.St} {W : World} (H : Dm D P W) {x : Addr} (h : D.aT = some x) : ∃ cs, W.heap[x.block]? = some (.cells cs 48 (0, 0)) := (own_blk H.ts (by rw [h]; rfl)).2
theorem Dm.atB {D : Da} {P : Ph.St} {W : World} (H : Dm D P W) {x : Addr} (h : D.aB = some x) : ∃ cs, W.heap[x.block]? = some (.cells cs 48 (0, 0)) := (own_blk H.bs (by rw [h]; rfl)).2
theorem Dm.keepQ {D : Da} {P : Ph.St} {W W' : World} {Q : Nat → Prop} (H : Dm D P W) (hf : Fq Q W W') (hq : Q D.qb) (hv : ∀ g, D.v.ownBlock = some g → Q g) (hT : ∀ x, D.aT = some x → Q x.block) (hB : ∀ x, D.aB = some x → Q x.block) : Dm D P W' := by
  refine ⟨hf.block _ _ H.blk hq, own_fq H.vs hf hv, own_fq H.ts hf ?_, own_fq H.bs hf ?_, H.rT, H.rB, H.mx, H.lt, H.lb⟩
  · intro g e
    obtain ⟨x, hx, rfl⟩ := own_at e
    exact hT x hx
  · intro g e
    obtain ⟨x, hx, rfl⟩ := own_at e
    exact hB x hx
theorem typ_ne {W : World} {g x : Nat} {cs : Array Value} (h : ∃ cs t, W.heap[g]? = some (.cells cs t (0, 0)) ∧ t ≠ 48) (k : W.heap[x]? = some (.cells cs 48 (0, 0))) : g ≠ x := by
  obtain ⟨c, t, h1, h2⟩ := h
  exact ty_ne h1 k h2
structure Bt (A : Adr) (D : Da) (N n : Nat) (K : Int) (P P2 : Ph.St) (W : World) : Prop where
  p : Pn N A n K P W
  d : Dm D P2 W
  hn : D.n = n
  ap : ∀ g, A.own g → ¬ (g = D.qb ∨ D.v.ownBlock = some g)
  nd : ∀ g, g = D.qb ∨ D.v.ownBlock = some g → N ≤ g
section
variable {A : Adr} {D : Da} {N n : Nat} {K : Int} {P P2 : Ph.St} {W : World}
theorem Bt.typ (H : Bt A D N n K P P2 W) {g : Nat} (hg : Ow A D g) : ∃ cs t, W.heap[g]? = some (.cells cs t (0, 0)) ∧ t ≠ 48 := hg.elim H.p.typ H.d.typ
theorem Bt.lt (H : Bt A D N n K P P2 W) {g : Nat} (hg : Ow A D g) : g < W.heap.size := by
  obtain ⟨cs, t, h, _⟩ := H.typ hg
  exact lt_of_blk h
theorem Bt.lo (H : Bt A D N n K P P2 W) {g : Nat} (hg : Ow A D g) : N ≤ g := hg.elim (H.p.new g) (H.nd g)
theorem Bt.below {W' : World} (H : Bt A D N n K P P2 W) (h : Below W.heap.size W W') : Bt A D N n K P P2 W' := ⟨H.p.below h, H.d.below h, H.hn, H.ap, H.nd⟩
theorem Bt.mono {K' : Int} (H : Bt A D N n K P P2 W) (h : K ≤ K') (h' : K' ≤ 4611686018427387904) : Bt A D N n K' P P2 W := ⟨H.p.mono h h', H.d, H.hn, H.ap, H.nd⟩
theorem Bt.keepQ {W' : World} {Q : Nat → Prop} (H : Bt A D N n K P P2 W) (hf : Fq Q W W') (hq : ∀ g, Ow A D g → Q g) (hT : ∀ x, D.aT = some x → Q x.block) (hB : ∀ x, D.aB = some x → Q x.block) : Bt A D N n K P P2 W' :=
  ⟨H.p.keep hf (fun g hg => hq g (.inl hg)), H.d.keepQ hf (hq _ (.inr (.inl rfl))) (fun g e => hq g (.inr (.inr e))) hT hB, H.hn, H.ap, H.nd⟩
/-- What turns no block of the pair's, by what type they are. -/
theorem Bt.keepO {W' : World} {O : Nat → Prop} (H : Bt A D N n K P P2 W) (hf : Fq (fun g => ¬ O g) W W') (hd : ∀ g, Ow A D g → ¬ O g) (ht : ∀ g, O g → ∃ cs t, W.heap[g]? = some (.cells cs t (0, 0)) ∧ t ≠ 48) : Bt A D N n K P P2 W' :=
  H.keepQ hf hd (fun x hx ho => by obtain ⟨cs, h⟩ := H.d.atT hx; exact typ_ne (ht _ ho) h rfl) (fun x hx ho => by obtain ⟨cs, h⟩ := H.d.atB hx; exact typ_ne (ht _ ho) h rfl)
theorem Bt.stepP {K' : Int} {P' : Ph.St} {w : World} (H : Bt A D N n K P P2 W) (h : Pn N A n K' P' w) (f : Fa A W w) : Bt A D N n K' P' P2 w ∧ Fp A D W w := by
  have hd : Dm D P2 w := H.d.keepQ f (fun h => H.ap _ h (.inl rfl)) (fun g e h => H.ap _ h (.inr e)) (fun x hx ho => by obtain ⟨cs, h⟩ := H.d.atT hx; exact typ_ne (H.p.typ ho) h rfl) (fun x hx ho => by obtain ⟨cs, h⟩ := H.d.atB hx; exact typ_ne (H.p.typ ho) h rfl)
  exact ⟨⟨h, hd, H.hn, H.ap, H.nd⟩, f.mono fun g hg h => hg (.inl h)⟩
theorem Bt.stepD {D' : Da} {P' : Ph.St} {w : World} (H : Bt A D N n K P P2 W) (h : Dm D' P' w) (e1 : D'.qb = D.qb) (e2 : D'.v = D.v) (e3 : D'.n = D.n) (f : Fd D W w) : Bt A D' N n K P P' w ∧ Fp A D W w := by
  refine ⟨⟨H.p.keep f (fun g hg => ⟨fun e => H.ap g hg (.inl e), fun e => H.ap g hg (.inr e.symm)⟩), h, by rw [e3]; exact H.hn, ?_, ?_⟩, f.mono fun g hg => ⟨fun e => hg (.inr (.inl e)), fun e => hg (.inr (.inr e.symm))⟩⟩
  · rw [e1, e2]; exact H.ap
  · rw [e1, e2]; exact H.nd
end
theorem Ow.eq {A : Adr} {D D' : Da} (e1 : D'.qb = D.qb) (e2 : D'.v = D.v) (g : Nat) : Ow A D' g ↔ Ow A D g := by unfold Ow; rw [e1, e2]
theorem Fq.lt {Q : Nat → Prop} {W W' : World} (h : Fq (fun g => Q g ∧ g < W.heap.size) W W') : Fq Q W W' := ⟨h.os, h.tape, h.output, h.size, fun g o hg hq => h.block g o hg ⟨hq, lt_of_blk hg⟩⟩
/-- Not the block of the row at o. -/
def No (o : Option Addr) (g : Nat) : Prop := ∀ a, o = some a → g ≠ a.block
/-- Behind the two calls: while what was handed in to one of them is written over. -/
structure Mid (A : Adr) (D : Da) (N n : Nat) (K : Int) (P : Ph.St) (o : Option Addr) (X w : World) : Prop where
  st : ∃ D' : Da, D'.qb = D.qb ∧ D'.v = D.v ∧ Bt A D' N n K P P w ∧ (∀ x, D'.aT = some x → No o x.block) ∧ ∀ x, D'.aB = some x → No o x.block
  fr : Fq (fun g => ¬ Ow A D g ∧ No o g) X w
  nw : ∀ g, Ow A D g → No o g
section
variable {A : Adr} {D : Da} {N n : Nat} {K : Int} {P : Ph.St} {o : Option Addr} {X w : World}
theorem Mid.step {w' : World} (H : Mid A D N n K P o X w) (f : Fq (No o) w w') : Mid A D N n K P o X w' := by
  obtain ⟨D', e1, e2, h, hT, hB⟩ := H.st
  exact ⟨⟨D', e1, e2, h.keepQ f (fun g hg => H.nw g ((Ow.eq e1 e2 g).1 hg)) hT hB, hT, hB⟩, H.fr.trans (f.mono fun g hg => hg.2), H.nw⟩
theorem Mid.below {w' : World} (H : Mid A D N n K P o X w) (h : Below w.heap.size w w') : Mid A D N n K P o X w' := H.step (Fq.of_below h)
theorem Mid.set {gl : Nat} (H : Mid A D N n K P (some ⟨gl, 0, none⟩) X w) (j : Nat) (v : Value) : Mid A D N n K P (some ⟨gl, 0, none⟩) X (w.setCell ⟨gl, j, none⟩ v) :=
  H.step (Fq.set w v (fun h => h _ rfl rfl))
/-- The state at which the calls begin. -/
structure Beg (A : Adr) (D : Da) (N n : Nat) (K : Int) (P : Ph.St) (o : Option Addr) (X : World) : Prop where
  b : Bt A D N n K P P X
  lo : ∀ a, o = some a → a.block < X.heap.size
  nT : ∀ x, D.aT = some x → No o x.block
  nB : ∀ x, D.aB = some x → No o x.block
  nw : ∀ g, Ow A D g → No o g
theorem Beg.below {w' : World} (H : Beg A D N n K P o w) (h : Below w.heap.size w w') : Beg A D N n K P o w' := ⟨H.b.below h, fun a e => Nat.lt_of_lt_of_le (H.lo a e) h.size, H.nT, H.nB, H.nw⟩
/-- Between the two calls. -/
structure Hlf (A : Adr) (D : Da) (N n : Nat) (K : Int) (P P2 : Ph.St) (o : Option Addr) (X w : World) : Prop where
  b : Bt A D N n K P P2 w
  fr : Fp A D X w
  lo : ∀ a, o = some a → a.block < w.heap.size
  nT : ∀ x, D.aT = some x → No o x.block
  nB : ∀ x, D.aB = some x → No o x.block
  nw : ∀ g, Ow A D g → No o g
theorem Beg.half {K' : Int} {P' : Ph.St} (H : Beg A D N n K P o X) (h : Pn N A n K' P' w) (f : Fa A X w) : Hlf A D N n K' P' P o X w := by
  obtain ⟨b, fr⟩ := H.b.stepP h f
  exact ⟨b, fr, fun a e => Nat.lt_of_lt_of_le (H.lo a e) f.size, H.nT, H.nB, H.nw⟩
theorem Hlf.below {P2 : Ph.St} {w' : World} (H : Hlf A D N n K P P2 o X w) (h : Below w.heap.size w w') : Hlf A D N n K P P2 o X w' := ⟨H.b.below h, H.fr.trans (Fq.of_below h), fun a e => Nat.lt_of_lt_of_le (H.lo a e) h.size, H.nT, H.nB, H.nw⟩
theorem Hlf.mid {P2 : Ph.St} {D' : Da} {w' : World} (H : Hlf A D N n K P P2 o X w) (h : Dm D' P w') (e1 : D'.qb = D.qb) (e2 : D'.v = D.v) (e3 : D'.n = D.n) (f : Fd D w w') (hL : Lie D D' w) : Mid A D N n K P o X w' := by
  obtain ⟨b, fr⟩ := H.b.stepD h e1 e2 e3 f
  refine ⟨⟨D', e1, e2, b, fun x hx a ha => ?_, fun x hx a ha => ?_⟩, (H.fr.trans fr).mono (fun g hg => hg.1), H.nw⟩
  · rcases hL.1 x hx with h | h
    · exact H.nT x h a ha
    · have := H.lo a ha; omega
  · rcases hL.2 x hx with h | h
    · exact H.nB x h a ha
    · have := H.lo a ha; omega
theorem Hlf.mid0 {w' : World} (H : Hlf A D N n K P P o X w) (h : Below w.heap.size w w') : Mid A D N n K P o X w' :=
  Mid.below ⟨⟨D, rfl, rfl, H.b, H.nT, H.nB⟩, H.fr.mono (fun g hg => hg.1), H.nw⟩ h
end
/-- What a call of both leaves. -/
def PlO (A : Adr) (D : Da) (N n : Nat) (K : Int) (P : Ph.St) (W : World) (e : Ending) (w' : World) : Prop :=
  e = .returned (.bool true) ∧ ∃ D' : Da, D'.qb = D.qb ∧ D'.v = D.v ∧ Bt A D' N n K P P w' ∧ Fp A D W w'
theorem Mid.out {A : Adr} {D : Da} {N n : Nat} {K : Int} {P : Ph.St} {o : Option Addr} {W X w : World} (H : Mid A D N n K P o X w) (h : Below W.heap.size W X) (ho : ∀ a, o = some a → W.heap.size ≤ a.block) : PlO A D N n K P W (.returned (.bool true)) w := by
  obtain ⟨D', e1, e2, b, _⟩ := H.st
  refine ⟨rfl, D', e1, e2, b, Fq.lt ((Fq.of_below h).trans (H.fr.mono fun g hg => ⟨hg.1, fun a e => ?_⟩))⟩
  have := ho a e
  have := hg.2
  omega
/-- The last loop: what was handed in, written over as far as j. -/
structure Lp (A : Adr) (D : Da) (N n : Nat) (K : Int) (P : Ph.St) (o : Option Addr) (X : World) (z k t : Nat) (l : List Int) (j : Nat) (w : World) : Prop where
  md : Mid A D N n K P o X w
  row : ∃ xs : List Int, w.ownsRow z 48 1 (.slice o t k) t (lis xs) ∧ xs.length = t ∧ ∀ u, j ≤ u → xs.getD u 0 = l.getD u 0
theorem lis_at {bs : List Int} {k : Nat} (h : k < bs.length) : (lis bs)[k]? = some (.int .i32 (bs.getD k 0)) := by
  unfold lis
  rw [List.getElem?_map, List.getElem?_eq_getElem h, List.getD_eq_getElem?_getD, List.getElem?_eq_getElem h]; rfl
theorem lis_set (bs : List Int) (k : Nat) (x : Int) : (lis bs).set k (.int .i32 x) = lis (bs.set k x) := by unfold lis; rw [List.map_set]
theorem Lp.set {A : Adr} {D : Da} {N n : Nat} {K : Int} {P : Ph.St} {gl : Nat} {X w : World} {z k t : Nat} {l : List Int} {j : Nat} (H : Lp A D N n K P (some ⟨gl, 0, none⟩) X z k t l j w) (q : Nat) : Lp A D N n K P (some ⟨gl, 0, none⟩) X z k t l (j + 1) ((w.drewN q).setCell ⟨gl, j, none⟩ (.int .i32 1)) := by
  have hd : Below w.heap.size w (w.drewN q) := Drawn.below ⟨q, rfl⟩
  obtain ⟨xs, h1, h2, h3⟩ := H.row
  refine ⟨(H.md.below hd).set j _, xs.set j 1, by rw [← lis_set]; exact own_setc (own_below h1 hd) j _, by simpa using h2, fun u hu => ?_⟩
  rw [← h3 u (by omega), List.getD_eq_getElem?_getD, List.getD_eq_getElem?_getD, List.getElem?_set_ne (by omega)]
end Go.Proofs.Ytkodfojccodoaaa
