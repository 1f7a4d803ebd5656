/- A queue that is new since a world; works. -/
import Derived.Test.YtjnifadfcnpdoaaNw
import Derived.Test.YtjnifadfcnpdoaaBmp
import Derived.Test.YtjnifadfcnpdoaaSam
namespace Go.Proofs.Ytjnifadfcnpdoaa
open Go.RowKit Go.Maps Go.Shelf
set_option linter.unusedVariables false
set_option maxRecDepth 100000

/-- A queue, all of it made since N blocks were there. -/
structure Qn (N : Nat) (A : Adr) (n : Nat) (K : Int) (L : List Nat) (st : List Int) (W : World) : Prop where
  qx : Qx A n K L st W
  new : ∀ g, A.own g → N ≤ g
  all : ∀ v, 1 ≤ v → v ≤ n → v ∈ L
  k0 : 0 ≤ K
theorem Qn.below {N : Nat} {A : Adr} {n : Nat} {K : Int} {L : List Nat} {st : List Int} {W W' : World} (H : Qn N A n K L st W) (h : Below W.heap.size W W') : Qn N A n K L st W' := ⟨H.qx.below h, H.new, H.all, H.k0⟩
theorem Qn.bel {N : Nat} {A : Adr} {n : Nat} {K : Int} {L : List Nat} {st : List Int} {W W' : World} (H : Qn N A n K L st W) (hN : N ≤ W.heap.size) (h : Fa A W W') : Below N W W' := h.below hN (fun g hg ho => by have := H.new g ho; omega)
theorem Qn.mono {N : Nat} {A : Adr} {n : Nat} {K K' : Int} {L : List Nat} {st : List Int} {W : World} (H : Qn N A n K L st W) (hk : K ≤ K') (hk' : K' ≤ 4611686018427387904) : Qn N A n K' L st W := ⟨H.qx.mono hk hk', H.new, H.all, by have := H.k0; omega⟩
theorem Qn.old {N N' : Nat} {A : Adr} {n : Nat} {K : Int} {L : List Nat} {st : List Int} {W : World} (H : Qn N A n K L st W) (h : N' ≤ N) : Qn N' A n K L st W := ⟨H.qx, fun g hg => Nat.le_trans h (H.new g hg), H.all, H.k0⟩
/-- New: a queue. -/
def NewOut (N : Nat) (n : Nat) (W : World) (e : Ending) (w' : World) : Prop := ∃ A : Adr, e = .returned (.tuple #[.pointer (some ⟨A.qb, 0, none⟩), .int .i64 0]) ∧ Qn N A n 1048577 (Qp.rowN n) (Qp.stN n n) w' ∧ Below W.heap.size W w'
theorem new10q {n : Nat} {W : World} (hn : n ≤ 1048576) {N : Nat} (hN : N ≤ W.heap.size) : Calls Try.prog 10 #[.int .i64 n] W fun e w' => NewOut N n W e w' := by
  refine (new10 n W hn).mono ?_
  rintro e w' ⟨A, rfl, q, hb, ho⟩
  exact ⟨A, rfl, ⟨q.mono (by omega) (by omega), fun g hg => Nat.le_trans hN (ho g hg), fun v h1 h2 => Qp.rowN_mem.2 ⟨h1, h2⟩, by omega⟩, hb⟩
def NextN (N : Nat) (A : Adr) (n : Nat) (K : Int) (L : List Nat) (st : List Int) (bs : List Bool) (W : World) (e : Ending) (w' : World) : Prop :=
  e = .returned (.tuple #[.int .i64 ((Qp.nxt L bs : Nat) : Int), .bool (((Qp.nxt L bs : Nat) : Int) != 0)]) ∧ Qn N A n K L st w' ∧ Below N W w' ∧ Fa A W w'
theorem Qn.next {N : Nat} {A : Adr} {n : Nat} {K : Int} {L : List Nat} {st : List Int} {W : World} (H : Qn N A n K L st W) (hN : N ≤ W.heap.size) {a : Option Addr} {c : Nat} {bs : List Bool} (h : Bw W a bs) :
    Calls Try.prog 21 #[.pointer (some ⟨A.qb, 0, none⟩), .slice a bs.length c] W fun e w' => NextN N A n K L st bs W e w' := by
  refine (next21 H.qx h).mono ?_
  rintro e w' ⟨rfl, q1, q2⟩
  exact ⟨rfl, ⟨q1, H.new, H.all, H.k0⟩, H.bel hN q2, q2⟩
def BumpN (N : Nat) (A : Adr) (n : Nat) (K : Int) (L : List Nat) (st : List Int) (l : List Int) (W : World) (e : Ending) (w' : World) : Prop :=
  e = .returned (.int .i64 (Qp.bE n l)) ∧ Qn N A n (K + 1048577) (Qp.bL n l L) (Qp.bS n l L st) w' ∧ Below N W w' ∧ Fa A W w'
theorem Qn.bump {N : Nat} {A : Adr} {n : Nat} {K : Int} {L : List Nat} {st : List Int} {W : World} (H : Qn N A n K L st W) (hN : N ≤ W.heap.size) (hk : K + 1048577 ≤ 4611686018427387904) {a : Option Addr} {c : Nat} {l : List Int} (h : Iw W a l) (hl8 : l.length ≤ 1048576) :
    Calls Try.prog 17 #[.pointer (some ⟨A.qb, 0, none⟩), .slice a l.length c] W fun e w' => BumpN N A n K L st l W e w' := by
  refine (bump17 H.qx H.all H.k0 hk h hl8).mono ?_
  rintro e w' ⟨rfl, q1, q2⟩
  exact ⟨rfl, ⟨q1, H.new, fun v h1 h2 => Qp.bL_mem.2 (H.all v h1 h2), by have := H.k0; omega⟩, H.bel hN q2, q2⟩
theorem Qn.stamp {N : Nat} {A : Adr} {n : Nat} {K : Int} {L : List Nat} {st : List Int} {W : World} (H : Qn N A n K L st W) (v : Int) :
    Calls Try.prog 18 #[.pointer (some ⟨A.qb, 0, none⟩), .int .i64 v] W fun e w' => e = .returned (.int .i64 (if 1 ≤ v ∧ v ≤ n then st.getD v.toNat 0 else 0)) ∧ w' = W := by
  obtain ⟨ah, bh, rk, lk, h1, h2⟩ := H.qx
  have hmx := h2.mx
  by_cases hv : 1 ≤ v ∧ v ≤ n
  · have := stamp18_ok h1 (by omega) (v := v.toNat) (by omega) (by omega)
    rw [Int.toNat_of_nonneg (by omega)] at this
    rw [if_pos hv]
    exact this
  · rw [if_neg hv]
    exact stamp18_no h1 (by omega) (by omega) v (by omega)
theorem Qn.size {N : Nat} {A : Adr} {n : Nat} {K : Int} {L : List Nat} {st : List Int} {W : World} (H : Qn N A n K L st W) :
    Calls Try.prog 23 #[.pointer (some ⟨A.qb, 0, none⟩)] W fun e w' => e = .returned (.int .i64 n) ∧ w' = W := by
  obtain ⟨ah, bh, rk, lk, h1, h2⟩ := H.qx
  have hmx := h2.mx
  have := size23 h1 (by omega) (by omega)
  rw [show ((n + 1 : Nat) : Int) - 1 = n by omega] at this
  exact this
theorem iw_lit {W : World} {b : Nat} {cs : Array Value} {t : Nat} {fr : Nat × Nat} {l : List Int} (h : W.heap[b]? = some (.cells cs t fr)) (hc : ∀ j, j < l.length → cs[j]? = some (.int .i64 (l.getD j 0))) : Iw W (some ⟨b, 0, none⟩) l :=
  .inr ⟨b, 0, rfl, fun j hj => by rw [Nat.zero_add, row_cell h]; exact hc j hj⟩
theorem bw_lit {W : World} {b : Nat} {cs : Array Value} {t : Nat} {fr : Nat × Nat} {l : List Bool} (h : W.heap[b]? = some (.cells cs t fr)) (hc : ∀ j, j < l.length → cs[j]? = some (.bool (l.getD j false))) : Bw W (some ⟨b, 0, none⟩) l :=
  .inr ⟨b, 0, rfl, fun j hj => by rw [Nat.zero_add, row_cell h]; exact hc j hj⟩
set_option maxHeartbeats 4000000 in
theorem works9 (W : World) : Calls Try.prog 9 #[] W fun e w' => e = .returned (.bool true) ∧ Below W.heap.size W w' := by
  have C10 := hid (new10q (n := 5) (W := W) (by omega) (N := W.heap.size) (Nat.le_refl _))
  go_enter Try.func9, Try.ntmps9
  go_wp2_with (fail)
  go_at_call 10
  refine C10.out.mono ?_
  rintro e w1 ⟨A, rfl, q1, b1⟩
  have HB1 := hid b1
  have hbx := below_box w1 (.cells #[.bool false, .bool false, .bool false, .bool false, .bool true] 4)
  have C21 := hid ((q1.below hbx).next (by have := b1.size; have := hbx.size; omega) (a := some ⟨w1.heap.size, 0, none⟩) (c := 5) (bs := [false, false, false, false, true]) (bw_lit (heap_alloc_new w1 _) (by intro j hj; rcases j with _ | _ | _ | _ | _ | j <;> first | rfl | (simp at hj; omega))))
  have HX1 := hid hbx
  clear q1 b1 hbx C10
  go_wp2_with (fail)
  go_at_call 21
  refine C21.out.mono ?_
  rintro e w2 ⟨rfl, q2, b2, _⟩
  rw [show Qp.nxt (Qp.rowN 5) [false, false, false, false, true] = 4 from by decide]
  have HB2 := hid (show Below W.heap.size W w2 from HB1.out.trans ((HX1.out.mono HB1.out.size).trans b2))
  have hbx := below_box w2 (.cells #[.int .i64 2, .int .i64 4] 3)
  have C17 := hid ((q2.below hbx).bump (by have := HB2.out.size; have := hbx.size; omega) (by omega) (a := some ⟨w2.heap.size, 0, none⟩) (c := 2) (l := [2, 4]) (iw_lit (heap_alloc_new w2 _) (by intro j hj; rcases j with _ | _ | j <;> first | rfl | (simp at hj; omega))) (by simp))
  have HX2 := hid hbx
  clear q2 b2 hbx C21 HX1 HB1
  go_wp2_with (fail)
  go_at_call 17
  refine C17.out.mono ?_
  rintro e w3 ⟨rfl, q3, b3, _⟩
  rw [show Qp.bE 5 [2, 4] = 0 from by decide]
  rw [show Qp.bL 5 [2, 4] (Qp.rowN 5) = [1, 3, 5, 2, 4] from by decide, show Qp.bS 5 [2, 4] (Qp.rowN 5) (Qp.stN 5 5) = [0, 1, 6, 3, 6, 5] from by decide] at q3
  have HB3 := hid (show Below W.heap.size W w3 from HB2.out.trans ((HX2.out.mono HB2.out.size).trans b3))
  have C16 := hid (order16 q3.qx)
  have HQ3 := hid q3
  clear q3 b3 C17 HX2 HB2
  go_wp2_with (fail)
  go_at_call 16
  refine C16.out.mono ?_
  rintro e w4 ⟨o, c, rfl, ho, b4⟩
  have HQ4 := hid (HQ3.out.below b4)
  have HB4 := hid (show Below W.heap.size W w4 from HB3.out.trans (b4.mono HB3.out.size))
  have hbx := below_box w4 (.cells #[.int .i64 1, .int .i64 3, .int .i64 5, .int .i64 2, .int .i64 4] 3)
  have C22 := hid (same22 (c := c) (d := 5) ((own_iw ho).all hbx) (iw_lit (b := w4.heap.size) (l := [1, 3, 5, 2, 4]) (heap_alloc_new w4 _) (by intro j hj; rcases j with _ | _ | _ | _ | _ | j <;> first | rfl | (simp at hj; omega))) (by simp) (by simp))
  have HQ5 := hid (HQ4.out.below hbx)
  have HB5 := hid (show Below W.heap.size W (w4.alloc (.cells #[.int .i64 1, .int .i64 3, .int .i64 5, .int .i64 2, .int .i64 4] 3)) from HB4.out.trans (hbx.mono HB4.out.size))
  clear ho b4 C16 HQ3 HB3 hbx HQ4 HB4
  go_wp2_with (fail)
  go_at_call 22
  refine C22.out.mono ?_
  rintro e w5 ⟨rfl, d5⟩
  rw [show decide (List.map (fun v : Nat => (v : Int)) [1, 3, 5, 2, 4] = [1, 3, 5, 2, 4]) = true from by decide]
  have HQ6 := hid (HQ5.out.below d5.below)
  have HB6 := hid (HB5.out.trans (d5.below.mono HB5.out.size))
  have C18 := hid (HQ6.out.stamp 4)
  have C23 := hid (HQ6.out.size)
  clear C22 HQ5 HB5 d5
  go_wp2_with (first
    | (go_at_call 18; refine C18.out.mono ?_; rintro e w7 ⟨rfl, hw7⟩; rw [hw7]; clear hw7)
    | (go_at_call 23; refine C23.out.mono ?_; rintro e w7 ⟨rfl, hw7⟩; rw [hw7]; clear hw7))
  go_ret
  exact ⟨rfl, HB6.out⟩
end Go.Proofs.Ytjnifadfcnpdoaa
