/- Where the reader of bytes stands: the steps so far, the reader, what is left. -/
import Derived.Test.YtmgeoeajnpnadaaRead
import Derived.Test.YtmgeoeajnpnadaaStpO
namespace Bin
theorem stp_ge (s : Lra.Stp) : 1 + (s.lits.length + s.hints.length) ≤ (stp s).length := by
  have h1 := row_ge s.lits
  have h2 := row_ge s.hints
  unfold stp
  split <;> simp only [List.length_cons, List.length_append, List.length_nil] <;> omega
theorem text_ge (ss : List Lra.Stp) : ss.length + Lra.items ss ≤ (text ss).length := by
  induction ss with
  | nil => simp [Lra.items_nil]
  | cons s ss ih =>
    have := stp_ge s
    rw [text_cons, List.length_append, Lra.items_cons, List.length_cons]
    omega
end Bin
namespace Go.Proofs.Ytmgeoeajnpnadaa
open Go.RowKit
set_option linter.unusedVariables false
set_option linter.unusedSimpArgs false

/-- The rows that were told are none of the reader's. -/
def Apart (qs : List Q) (lv hv : Value) : Prop := ∀ q ∈ qs, ∀ i, q.2.1.ownBlock = some i ∨ q.2.2.ownBlock = some i → lv.ownBlock ≠ some i ∧ hv.ownBlock ≠ some i
structure PB (w W : World) (b : Nat) (bs : List Int) (qs : List Q) (v : Value) (kd id : Int) (ls hs : List Int) (it : Int) (lv hv : Value) : Prop where
  mem : Mem w.heap.size W v qs
  rd : RB w (w.heap.size + 3) (w.heap.size + 2) W b bs kd id ls hs it lv hv
  ap : Apart qs lv hv
section
variable {w W : World} {b : Nat} {bs : List Int} {qs : List Q} {v : Value} {kd id : Int} {ls hs : List Int} {it : Int} {lv hv : Value}
theorem PB.read {W' : World} {bs' : List Int} {kd' id' : Int} {ls' hs' : List Int} {it' : Int} {lv' hv' : Value} (h : PB w W b bs qs v kd id ls hs it lv hv) (m : Mv (w.heap.size + 2) W W' lv hv lv' hv') (hr : RB w (w.heap.size + 3) (w.heap.size + 2) W' b bs' kd' id' ls' hs' it' lv' hv') : PB w W' b bs' qs v kd' id' ls' hs' it' lv' hv' := by
  obtain ⟨off, rc, hR, _⟩ := h.rd.ex
  refine ⟨?_, hr, ?_⟩
  · refine h.mem.keep (fun g hg => ?_) (fun q hq g hg => ?_)
    · obtain ⟨_, cur, hc⟩ := own_blk h.mem.row hg
      exact m.block g (Array.getElem?_eq_some_iff.1 hc).1 (fun e => by rw [e, hR.rd.blk] at hc; cases hc) (own_ne hc hR.lo (by decide)) (own_ne hc hR.ho (by decide))
    · obtain ⟨h1, h2⟩ := h.ap q hq g hg
      refine m.block g ((h.mem.each q hq).lt hg).2 (fun e => ?_) h1 h2
      subst e
      rcases hg with hg | hg
      · exact own_ne hR.rd.blk (h.mem.each q hq).l (by decide) hg
      · exact own_ne hR.rd.blk (h.mem.each q hq).h (by decide) hg
  · intro q hq i hi
    obtain ⟨h1, h2⟩ := h.ap q hq i hi
    have hlt := ((h.mem.each q hq).lt hi).2
    exact ⟨fun e => h1 (m.lown i hlt e), fun e => h2 (m.hown i hlt e)⟩
theorem RB.below {w0 : World} {base rb : Nat} {W' : World} (h : RB w0 base rb W b bs kd id ls hs it lv hv) (hb : Below W.heap.size W W') (hs0 : w0.heap.size ≤ W.heap.size) : RB w0 base rb W' b bs kd id ls hs it lv hv := by
  obtain ⟨off, rc, hR, h1, h2, h3⟩ := h.ex
  exact ⟨⟨off, rc, ⟨⟨(hb.block rb (Array.getElem?_eq_some_iff.1 hR.rd.blk).1).trans hR.rd.blk⟩, hR.lt, own_below hR.lo hb, own_below hR.ho hb⟩, h1, h2, h3⟩, h.bel.trans (hb.mono hs0), h.ge, h.lt, Nat.le_trans h.sz hb.size⟩
theorem PB.below {W' : World} (h : PB w W b bs qs v kd id ls hs it lv hv) (hb : Below W.heap.size W W') : PB w W' b bs qs v kd id ls hs it lv hv :=
  ⟨h.mem.below hb, h.rd.below hb h.rd.bel.size, h.ap⟩
/-- A step more. -/
theorem PB.push (h : PB w W b bs qs v kd id ls hs it lv hv) (q : Q) (hq : QV w.heap.size W q) (hqa : Apart [q] lv hv) (hl : qs.length ≤ 4194304) :
    ∃ o c B, (Builtin.append_ #[22, 22] 22 #[v, .slice (some ⟨W.heap.size, 0, none⟩) 1 1]).run Try.prog (W.alloc (.cells #[.int .u8 q.1.kind, .int .i64 q.1.id, q.2.1, q.2.2] 43)) = .ok (.slice o (qs.length + 1) c) B ∧
      PB w B b bs (qs ++ [q]) (.slice o (qs.length + 1) c) kd id ls hs it lv hv := by
  obtain ⟨o, c, B, hr, hm, keep, hsz, h1, h2, h3, hown⟩ := h.mem.push q hq hl (h.rd.bel.size)
  obtain ⟨off, rc, hR, g1, g2, g3⟩ := h.rd.ex
  have kl : ∀ (i : Nat) (cs : Array Value) (t : TypeId), W.heap[i]? = some (.cells cs t (0, 0)) → t ≠ 43 → B.heap[i]? = W.heap[i]? := fun i cs t hi ht => keep i (Array.getElem?_eq_some_iff.1 hi).1 (own_ne hi h.mem.row ht)
  refine ⟨o, c, B, hr, hm, ⟨⟨off, rc, ⟨⟨(kl _ _ _ hR.rd.blk (by decide)).trans hR.rd.blk⟩, hR.lt, own_keep hR.lo (fun g cs _ hg => kl g cs _ hg (by decide)), own_keep hR.ho (fun g cs _ hg => kl g cs _ hg (by decide))⟩, g1, g2, g3⟩, h.rd.bel.trans ⟨h1, h2, h3, hsz, fun k hk => keep k (Nat.lt_of_lt_of_le hk h.rd.bel.size) (fun e => ?_)⟩, h.rd.ge, h.rd.lt, Nat.le_trans h.rd.sz hsz⟩, ?_⟩
  · have := (own_blk h.mem.row e).1
    omega
  · intro p hp
    rcases List.mem_append.1 hp with hp | hp
    · exact h.ap p hp
    · exact hqa p hp
/-- What is told of a step is put behind the steps. -/
theorem PB.step {x : Lra.Stp} {nq : Nat} (h : PB w W b bs qs v x.kind x.id x.lits x.hints it lv hv) (hn : qs.length = nq) (hl : nq ≤ 4194304) {e : Ending} {W5 : World} (hs : StepOut W x.kind x.id x.lits x.hints e W5) :
    ∃ o1 m1 c1 o2 m2 c2 o c B, e = .returned (.agg #[.int .u8 x.kind, .int .i64 x.id, .slice o1 m1 c1, .slice o2 m2 c2]) ∧
      (Builtin.append_ #[22, 22] 22 #[v, .slice (some ⟨W5.heap.size, 0, none⟩) 1 1]).run Try.prog (W5.alloc (.cells #[.int .u8 x.kind, .int .i64 x.id, .slice o1 m1 c1, .slice o2 m2 c2] 43)) = .ok (.slice o (nq + 1) c) B ∧
      PB w B b bs (qs ++ [(x, .slice o1 m1 c1, .slice o2 m2 c2)]) (.slice o (nq + 1) c) x.kind x.id x.lits x.hints it lv hv := by
  subst hn
  obtain ⟨o1, c1, o2, c2, rfl, g1, g2, hb⟩ := hs
  have h5 := h.below hb
  obtain ⟨off, rc, hR, _⟩ := h.rd.ex
  obtain ⟨o, c, B, hr, q1⟩ := h5.push (x, .slice o1 x.lits.length c1, .slice o2 x.hints.length c2) ⟨own_base g1 h.rd.bel.size, own_base g2 h.rd.bel.size⟩ (by
    intro q hq i hi
    simp at hq
    subst hq
    have hi' : W.heap.size ≤ i := by
      rcases hi with hi | hi
      · exact (own_blk g1 hi).1
      · exact (own_blk g2 hi).1
    constructor
    · intro e
      have := (hR.lo.lt i e).2
      omega
    · intro e
      have := (hR.ho.lt i e).2
      omega) hl
  exact ⟨o1, _, c1, o2, _, c2, o, c, B, rfl, hr, q1⟩
end
end Go.Proofs.Ytmgeoeajnpnadaa
