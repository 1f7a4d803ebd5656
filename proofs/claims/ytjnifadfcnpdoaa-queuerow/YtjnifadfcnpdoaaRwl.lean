/- Rows and places, while QueueRow goes on. -/
import Derived.Test.YtjnifadfcnpdoaaIn
import Derived.Test.YtjnifadfcnpdoaaTwo
import Derived.Test.YtjnifadfcnpdoaaNw
namespace Go.Proofs.Ytjnifadfcnpdoaa
open Go.RowKit Go.Maps
set_option linter.unusedVariables false
set_option maxRecDepth 100000

theorem good_run (m : Nat) (ss : List Opr) : ∀ k, Qp.Good m (runB m (ss.take k)) := by
  intro k
  induction k with
  | zero => exact Qp.good_new m
  | succ k ih =>
    by_cases hk : k < ss.length
    · rw [runB_snoc m hk]
      unfold stepB
      split
      · exact Qp.good_bmp ih _
      · exact ih
    · rw [List.take_of_length_le (by omega)] at ih ⊢
      exact ih
/-- While places are told. -/
structure L1 (W : World) (A : Adr) (m : Nat) (K : Int) (p p' : Qst) (o3 o5 : Option Addr) (g m1 k : Nat) (w : World) : Prop where
  q : Qn W.heap.size A m K p'.1 p'.2 w
  bf : Iw w o3 (p.1.map (fun v : Nat => (v : Int)))
  af : Iw w o5 (p'.1.map (fun v : Nat => (v : Int)))
  at_ : w.ownsRow 0 3 1 (.slice (some ⟨g, 0, none⟩) m1 m1) m1 (iss (Qp.atL m p'.1 k))
  bel : Below W.heap.size W w
  n1 : ∀ b off, o3 = some ⟨b, off, none⟩ → b ≠ g
  n2 : ∀ b off, o5 = some ⟨b, off, none⟩ → b ≠ g
  n3 : ¬ A.own g
  n4 : W.heap.size ≤ g
theorem own_addr {W : World} {base n c : Nat} {o : Option Addr} {L : List Nat} (h : W.ownsRow base 3 1 (.slice o n c) n (inn L)) {b off : Nat} (e : o = some ⟨b, off, none⟩) : b < W.heap.size := by
  rcases h.2 with ⟨e1, _⟩ | ⟨g, c', cur, e1, _, hb, _⟩
  · cases e1; cases e
  · cases e1; cases e; exact lt_of_blk hb
theorem l1_new {W : World} {A : Adr} {m : Nat} {K : Int} {p p' : Qst} {o3 o5 : Option Addr} {c3 c5 m1 b3 b5 : Nat} {w : World} (hm : m + 1 = m1) (hm8 : m ≤ 100) (q : Qn W.heap.size A m K p'.1 p'.2 w) (hb : Below W.heap.size W w)
    (h3 : w.ownsRow b3 3 1 (.slice o3 m c3) m (inn p.1)) (h5 : w.ownsRow b5 3 1 (.slice o5 m c5) m (inn p'.1)) : L1 W A m K p p' o3 o5 w.heap.size m1 0 (w.alloc (.cells (iss (zer m1)).toArray 3)) := by
  have hbx := below_box w (.cells (iss (zer m1)).toArray 3)
  refine ⟨q.below hbx, (own_iw h3).all hbx, (own_iw h5).all hbx, ?_, hb.trans (hbx.mono hb.size), fun b off e => ?_, fun b off e => ?_, fun h => ?_, hb.size⟩
  · rw [Qp.atL_zero, hm]
    exact own_zer (heap_alloc_new w _) (by simp [iss]) (by omega)
  · have := own_addr h3 e; omega
  · have := own_addr h5 e; omega
  · have := q.qx.lt h; omega
theorem L1.drawn {W : World} {A : Adr} {m : Nat} {K : Int} {p p' : Qst} {o3 o5 : Option Addr} {g m1 k : Nat} {w w' : World} (h : L1 W A m K p p' o3 o5 g m1 k w) (hd : Drawn w w') : L1 W A m K p p' o3 o5 g m1 k w' :=
  ⟨h.q.below hd.below, h.bf.all hd.below, h.af.all hd.below, own_below h.at_ hd.below, h.bel.trans (hd.below.mono h.bel.size), h.n1, h.n2, h.n3, h.n4⟩
theorem L1.set {W : World} {A : Adr} {m : Nat} {K : Int} {p p' : Qst} {o3 o5 : Option Addr} {g m1 k : Nat} {w : World} (h : L1 W A m K p p' o3 o5 g m1 k w) (hg : Qp.Good m p') (hk : k < m) : L1 W A m K p p' o3 o5 g m1 (k + 1) (w.setCell ⟨g, p'.1.getD k 0, none⟩ (.int .i64 ((k + 1 : Nat) : Int))) := by
  have hf : Fq (fun b => b ≠ g) w (w.setCell ⟨g, p'.1.getD k 0, none⟩ (.int .i64 ((k + 1 : Nat) : Int))) := Fq.set w _ (fun h => h rfl)
  refine ⟨⟨h.q.qx.keep hf (fun b hb e => h.n3 (e ▸ hb)), h.q.new, h.q.all, h.q.k0⟩, h.bf.fq hf h.n1, h.af.fq hf h.n2, ?_, h.bel.trans (hf.below h.bel.size (fun b hb e => by have := h.n4; omega)), h.n1, h.n2, h.n3, h.n4⟩
  have := own_setc h.at_ (p'.1.getD k 0) (.int .i64 ((k + 1 : Nat) : Int))
  rw [iss_set, Qp.atL_set hg.nodup (by rw [hg.length]; exact hk)] at this
  exact this
theorem L1.cell {W : World} {A : Adr} {m : Nat} {K : Int} {p p' : Qst} {o3 o5 : Option Addr} {g m1 k : Nat} {w : World} (h : L1 W A m K p p' o3 o5 g m1 k w) {x : Nat} (hx : x ≤ m) (hm : m + 1 = m1) : w.cell? ⟨g, x, none⟩ = some (.int .i64 ((Qp.atL m p'.1 k).getD x 0)) ∧ w.frozen? ⟨g, x, none⟩ = false := by
  obtain ⟨e1, e2⟩ := own_cell h.at_ (k := x) (by omega)
  rw [iss_at (by rw [Qp.atL_len]; omega)] at e1
  exact ⟨e1, e2⟩
theorem iw_cell {w : World} {b : Nat} {L : List Nat} (h : Iw w (some ⟨b, 0, none⟩) (L.map (fun v : Nat => (v : Int)))) {j : Nat} (hj : j < L.length) : w.cell? ⟨b, j, none⟩ = some (.int .i64 ((L.getD j 0 : Nat) : Int)) := by
  have := h.at (j := j) (by rw [List.length_map]; exact hj)
  rw [Nat.zero_add] at this
  rw [this, List.getD_eq_getElem?_getD, List.getD_eq_getElem?_getD, List.getElem?_map, List.getElem?_eq_getElem hj]
  rfl
end Go.Proofs.Ytjnifadfcnpdoaa
