/- A queue and the document's, side by side. -/
import Derived.Test.YtjnifadfcnpdoaaDi
import Derived.Test.YtjnifadfcnpdoaaWrk
import Derived.Test.YtjnifadfcnpdoaaCpy
import Derived.Test.YtjnifadfcnpdoaaOpa
namespace Go.Proofs.Ytjnifadfcnpdoaa
open Go.RowKit Go.Maps
set_option linter.unusedVariables false
set_option linter.unusedSimpArgs false
set_option maxRecDepth 100000
/-- The blocks of the pair. -/
def Al (A : Adr) (D : Da) (g : Nat) : Prop := A.own g ∨ g = D.qb ∨ g = D.gs ∨ ∃ x, D.aR = some x ∧ x.block = g
abbrev Fp (A : Adr) (D : Da) (W W' : World) : Prop := Fq (fun g => ¬ Al A D g) W W'
theorem Qn.keepQ {N : Nat} {A : Adr} {n : Nat} {K : Int} {L : List Nat} {st : List Int} {W W' : World} {Q : Nat → Prop} (H : Qn N A n K L st W) (hf : Fq Q W W') (hq : ∀ g, A.own g → Q g) : Qn N A n K L st W' := ⟨H.qx.keep hf hq, H.new, H.all, H.k0⟩
structure Bt (A : Adr) (D : Da) (N n : Nat) (K : Int) (L : List Nat) (st : List Int) (L2 : List Nat) (st2 : List Int) (mv : Nat) (W : World) : Prop where
  p : Qn N A n K L st W
  d : Dq D n L2 st2 mv W
  g : Gd n L2 st2 mv
  ap : ∀ g, A.own g → ¬ (g = D.qb ∨ g = D.gs ∨ ∃ x, D.aR = some x ∧ x.block = g)
  nd : ∀ g, (g = D.qb ∨ g = D.gs ∨ ∃ x, D.aR = some x ∧ x.block = g) → N ≤ g
section
variable {A : Adr} {D : Da} {N n : Nat} {K : Int} {L L2 : List Nat} {st st2 : List Int} {mv : Nat} {W : World}
theorem Dq.lt (H : Dq D n L2 st2 mv W) {g : Nat} (h : g = D.qb ∨ g = D.gs ∨ ∃ x, D.aR = some x ∧ x.block = g) : g < W.heap.size := by
  rcases h with rfl | rfl | ⟨x, hx, rfl⟩
  · exact lt_of_blk H.blk
  · obtain ⟨_, c, h⟩ := own_blk H.ss rfl
    exact lt_of_blk h
  · obtain ⟨_, c, h⟩ := own_blk H.rs (g := x.block) (by rw [hx]; rfl)
    exact lt_of_blk h
theorem Bt.lt (H : Bt A D N n K L st L2 st2 mv W) {g : Nat} (hg : Al A D g) : g < W.heap.size := hg.elim (fun h => H.p.qx.lt h) (fun h => H.d.lt h)
theorem Bt.lo (H : Bt A D N n K L st L2 st2 mv W) {g : Nat} (hg : Al A D g) : N ≤ g := hg.elim (H.p.new g) (H.nd g)
theorem Bt.below {W' : World} (H : Bt A D N n K L st L2 st2 mv W) (h : Below W.heap.size W W') : Bt A D N n K L st L2 st2 mv W' := ⟨H.p.below h, H.d.below h, H.g, H.ap, H.nd⟩
theorem Bt.mono {K' : Int} (H : Bt A D N n K L st L2 st2 mv W) (h : K ≤ K') (h' : K' ≤ 4611686018427387904) : Bt A D N n K' L st L2 st2 mv W := ⟨H.p.mono h h', H.d, H.g, H.ap, H.nd⟩
theorem Bt.keepQ {W' : World} {Q : Nat → Prop} (H : Bt A D N n K L st L2 st2 mv W) (hf : Fq Q W W') (hq : ∀ g, Al A D g → Q g) : Bt A D N n K L st L2 st2 mv W' :=
  ⟨H.p.keepQ hf (fun g hg => hq g (.inl hg)), H.d.keepQ hf (hq _ (.inr (.inl rfl))) (hq _ (.inr (.inr (.inl rfl)))) (fun x hx => hq _ (.inr (.inr (.inr ⟨x, hx, rfl⟩)))), H.g, H.ap, H.nd⟩
theorem Bt.stepP {K' : Int} {L' : List Nat} {st' : List Int} {w : World} (H : Bt A D N n K L st L2 st2 mv W) (h : Qn N A n K' L' st' w) (f : Fa A W w) : Bt A D N n K' L' st' L2 st2 mv w ∧ Fp A D W w := by
  have hd : Dq D n L2 st2 mv w := H.d.keepQ f (fun h => H.ap _ h (.inl rfl)) (fun h => H.ap _ h (.inr (.inl rfl))) (fun x hx h => H.ap _ h (.inr (.inr ⟨x, hx, rfl⟩)))
  exact ⟨⟨h, hd, H.g, H.ap, H.nd⟩, f.mono fun g hg h => hg (.inl h)⟩
theorem Bt.stepD {D' : Da} {L' : List Nat} {st' : List Int} {mv' : Nat} {w : World} (H : Bt A D N n K L st L2 st2 mv W) (hN : N ≤ W.heap.size) (h : Dq D' n L' st' mv' w) (g : Gd n L' st' mv') (e1 : D'.qb = D.qb) (e2 : D'.gs = D.gs) (f : Fd D W w) (hr : ∀ x, D'.aR = some x → D.aR = some x ∨ W.heap.size ≤ x.block) : Bt A D' N n K L st L' st' mv' w ∧ Fp A D W w ∧ ∀ g, Al A D' g → Al A D g ∨ W.heap.size ≤ g := by
  refine ⟨⟨H.p.keepQ f (fun g hg => ⟨fun e => H.ap g hg (.inl e), fun e => H.ap g hg (.inr (.inl e))⟩), h, g, ?_, ?_⟩, f.mono fun g hg => ⟨fun e => hg (.inr (.inl e)), fun e => hg (.inr (.inr (.inl e)))⟩, ?_⟩
  · rintro g hg (h | h | ⟨x, hx, h⟩)
    · exact H.ap g hg (.inl (h.trans e1))
    · exact H.ap g hg (.inr (.inl (h.trans e2)))
    · rcases hr x hx with h' | h'
      · exact H.ap g hg (.inr (.inr ⟨x, h', h⟩))
      · have := H.p.qx.lt hg
        omega
  · rintro g (h | h | ⟨x, hx, h⟩)
    · exact H.nd g (.inl (h.trans e1))
    · exact H.nd g (.inr (.inl (h.trans e2)))
    · rcases hr x hx with h' | h'
      · exact H.nd g (.inr (.inr ⟨x, h', h⟩))
      · omega
  · rintro g (h | h | h | ⟨x, hx, h⟩)
    · exact .inl (.inl h)
    · exact .inl (.inr (.inl (h.trans e1)))
    · exact .inl (.inr (.inr (.inl (h.trans e2))))
    · rcases hr x hx with h' | h'
      · exact .inl (.inr (.inr (.inr ⟨x, h', h⟩)))
      · exact .inr (by omega)
/-- What a call of both leaves. -/
def PlS (A : Adr) (D : Da) (N n : Nat) (K : Int) (mv : Nat) (W w' : World) : Prop :=
  ∃ (D' : Da) (L' : List Nat) (st' : List Int) (mv' : Nat), D'.qb = D.qb ∧ Bt A D' N n K L' st' L' st' mv' w' ∧ mv' ≤ mv + 1 ∧ Fp A D W w' ∧ ∀ g, Al A D' g → Al A D g ∨ W.heap.size ≤ g
theorem PlS.below {w w' : World} (h : PlS A D N n K mv W w) (hb : Below w.heap.size w w') : PlS A D N n K mv W w' := by
  obtain ⟨D', L', st', mv', e, b, hm, f, hal⟩ := h
  exact ⟨D', L', st', mv', e, b.below hb, hm, f.trans (Fq.of_below hb), hal⟩
theorem PlS.box {V w : World} (h : PlS A D N n K mv V w) (hb : Below W.heap.size W V) : PlS A D N n K mv W w := by
  obtain ⟨D', L', st', mv', e, b, hm, f, hal⟩ := h
  exact ⟨D', L', st', mv', e, b, hm, (Fq.of_below hb).trans f, fun g hg => (hal g hg).imp id (fun h => Nat.le_trans hb.size h)⟩
end
/-- A copy of a row of numbers that was handed in. -/
theorem appI {W : World} {a : Option Addr} {c : Nat} {l : List Int} (h : Iw W a l) (hn : l.length ≤ 1048577) :
    ∃ o' c' B, (Builtin.append_ #[32, 32] 32 #[.slice none 0 0, .slice a l.length c]).run Try.prog W = .ok (.slice o' l.length c') B ∧ B.ownsRow W.heap.size 3 1 (.slice o' l.length c') l.length (iss l) ∧ Below W.heap.size W B := by
  rcases Nat.eq_zero_or_pos l.length with h0 | h0
  · have hL : l = [] := List.eq_nil_of_length_eq_zero h0
    subst hL
    refine ⟨none, 0, W, ?_, World.ownsRow_nil _ _ _ _, Below.refl _ _⟩
    cases a <;> kernel_rfl
  · obtain ⟨b, off, rfl⟩ := h.blk h0
    obtain ⟨o', c', B, h1, h2, h3, h4, _⟩ := appX (t := 32) Try.underlying32 info3 rfl (by decide) (World.ownsRow_nil W W.heap.size 3 1) (Nat.le_refl _) (a := b) (off := off) (m := l.length) (c := c) (ys := iss l) (iss_length l) (fun j hj => by rw [h.at hj, iss_at hj]) (iss_one' l) (by omega)
    rw [Nat.zero_add] at h1 h2
    rw [List.nil_append] at h2
    exact ⟨o', c', B, h1, h2, h4⟩
def bls (L : List Bool) : List Value := L.map Value.bool
theorem bls_at {bs : List Bool} {k : Nat} (h : k < bs.length) : (bls bs)[k]? = some (.bool (bs.getD k false)) := by
  unfold bls; rw [List.getElem?_map, List.getElem?_eq_getElem h, List.getD_eq_getElem?_getD, List.getElem?_eq_getElem h]; rfl
theorem bls_one (L : List Bool) : ∀ u ∈ bls L, u.oneCell' = true := by
  intro u hu
  obtain ⟨v, _, rfl⟩ := List.mem_map.1 hu
  rfl
theorem appB {W : World} {a : Option Addr} {c : Nat} {l : List Bool} (h : Bw W a l) (hn : l.length ≤ 1048577) :
    ∃ o' c' B, (Builtin.append_ #[33, 33] 33 #[.slice none 0 0, .slice a l.length c]).run Try.prog W = .ok (.slice o' l.length c') B ∧ B.ownsRow W.heap.size 4 1 (.slice o' l.length c') l.length (bls l) ∧ Below W.heap.size W B := by
  rcases Nat.eq_zero_or_pos l.length with h0 | h0
  · have hL : l = [] := List.eq_nil_of_length_eq_zero h0
    subst hL
    refine ⟨none, 0, W, ?_, World.ownsRow_nil _ _ _ _, Below.refl _ _⟩
    cases a <;> kernel_rfl
  · rcases h with h | ⟨b, off, rfl, h⟩
    · rw [h] at h0; cases h0
    · obtain ⟨o', c', B, h1, h2, h3, h4, _⟩ := appX (t := 33) Try.underlying33 infoB rfl (by decide) (World.ownsRow_nil W W.heap.size 4 1) (Nat.le_refl _) (a := b) (off := off) (m := l.length) (c := c) (ys := bls l) (by simp [bls]) (fun j hj => by rw [h j hj, bls_at hj]) (bls_one l) (by omega)
      rw [Nat.zero_add] at h1 h2
      rw [List.nil_append] at h2
      exact ⟨o', c', B, h1, h2, h4⟩
theorem own_iwI {W : World} {base : Nat} {o : Option Addr} {c : Nat} {l : List Int} (h : W.ownsRow base 3 1 (.slice o l.length c) l.length (iss l)) : Iw W o l := by
  rcases Nat.eq_zero_or_pos l.length with h0 | h0
  · exact .inl (List.eq_nil_of_length_eq_zero h0)
  · obtain ⟨g, c', cur, e, _⟩ := own_some h h0
    cases e
    exact .inr ⟨g, 0, rfl, fun j hj => by rw [Nat.zero_add, (own_cell h hj).1, iss_at hj]⟩
theorem own_bwI {W : World} {base : Nat} {o : Option Addr} {c : Nat} {l : List Bool} (h : W.ownsRow base 4 1 (.slice o l.length c) l.length (bls l)) : Bw W o l := by
  rcases Nat.eq_zero_or_pos l.length with h0 | h0
  · exact .inl (List.eq_nil_of_length_eq_zero h0)
  · obtain ⟨g, c', cur, e, _⟩ := own_some h h0
    cases e
    exact .inr ⟨g, 0, rfl, fun j hj => by rw [Nat.zero_add, (own_cell h hj).1, bls_at hj]⟩
theorem Iw.fq0 {W W' : World} {a : Option Addr} {l : List Int} {Q : Nat → Prop} (h : Iw W a l) (hf : Fq Q W W') (hq : ∀ b off, a = some ⟨b, off, none⟩ → 0 < l.length → Q b) : Iw W' a l := by
  by_cases h0 : l = []
  · exact .inl h0
  · exact h.fq hf (fun b off e => hq b off e (List.length_pos_iff.2 h0))
theorem Bw.fq0 {W W' : World} {a : Option Addr} {l : List Bool} {Q : Nat → Prop} (h : Bw W a l) (hf : Fq Q W W') (hq : ∀ b off, a = some ⟨b, off, none⟩ → 0 < l.length → Q b) : Bw W' a l := by
  rcases h with h | ⟨b, off, rfl, h⟩
  · exact .inl h
  · by_cases h0 : l = []
    · exact .inl h0
    · refine .inr ⟨b, off, rfl, fun j hj => ?_⟩
      have hc := h j hj
      have hl := cell_lt hc
      obtain ⟨o, ho⟩ : ∃ o, W.heap[b]? = some o := ⟨_, Array.getElem?_eq_getElem hl⟩
      rw [World.cell?] at hc ⊢
      simp only [ho] at hc
      simp only [hf.block b o ho (hq b off rfl (List.length_pos_iff.2 h0))]
      exact hc
end Go.Proofs.Ytjnifadfcnpdoaa
