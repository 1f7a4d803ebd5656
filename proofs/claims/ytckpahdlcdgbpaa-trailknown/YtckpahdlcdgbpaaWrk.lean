/- Back, whatever level; the statements' own trial. -/
import Derived.Test.YtckpahdlcdgbpaaKit
namespace Trl
def backE (s : S) (lev : Int) : Int := if lev < 0 ∨ (s.B.length : Int) < lev then 101 else 0
def backS (s : S) (lev : Int) : S := if lev < 0 ∨ (s.B.length : Int) < lev then s else back s lev.toNat
def goneL (s : S) (lev : Int) : List Int := if lev < 0 ∨ (s.B.length : Int) < lev then [] else gone s lev.toNat
theorem back_top {n : Nat} {s : S} (h : Ok n s) : back s s.B.length = s ∧ gone s s.B.length = [] := by
  have hl : left s s.B.length = s.R.length := by unfold left; rw [if_neg (Nat.lt_irrefl _)]
  constructor
  · unfold back
    rw [hl, List.take_length, List.take_length, Nat.min_eq_left h.h]
  · unfold gone
    rw [hl, List.drop_length]
    rfl
theorem Ok.backS {n : Nat} {s : S} (h : Ok n s) (lev : Int) : Ok n (backS s lev) := by
  unfold Trl.backS
  split
  · exact h
  · exact h.back (by omega)
def w1 : S := ⟨[⟨1, 0, -1⟩], [], 0⟩
def w2 : S := ⟨[⟨1, 0, -1⟩, ⟨-2, 1, -1⟩], [1], 0⟩
def w3 : S := ⟨[⟨1, 0, -1⟩, ⟨-2, 1, -1⟩, ⟨3, 1, 7⟩], [1], 0⟩
end Trl
namespace Go.Proofs.Ytckpahdlcdgbpaa
open Go.RowKit Go.Maps
set_option linter.unusedVariables false
set_option maxRecDepth 100000

theorem back13 {Q : Nat → Prop} {tb n : Nat} {s : Trl.S} {W : World} (H : Trx Q tb n s W) (lev : Int) :
    Calls Try.prog 13 #[.pointer (some ⟨tb, 0, none⟩), .int .i64 lev] W fun e w' => BackOut Q tb n W (Trl.goneL s lev) (Trl.backE s lev) (Trl.backS s lev) e w' := by
  unfold Trl.goneL Trl.backE Trl.backS
  by_cases h : lev < 0 ∨ (s.B.length : Int) < lev
  · rw [if_pos h, if_pos h, if_pos h]
    exact back13_err H lev h
  · rw [if_neg h, if_neg h, if_neg h]
    obtain ⟨k, rfl⟩ : ∃ k : Nat, lev = k := ⟨lev.toNat, by omega⟩
    rw [Int.toNat_natCast]
    by_cases hk : k < s.B.length
    · exact back13_ok H k hk
    · obtain rfl : k = s.B.length := by omega
      obtain ⟨e1, e2⟩ := Trl.back_top H.ok
      rw [e1, e2]
      exact back13_same H
theorem Did.size {Q : Nat → Prop} {tb n : Nat} {s : Trl.S} {W W' : World} (h : Did Q tb n W s W') : W.heap.size ≤ W'.heap.size := h.2.size
theorem own_bools {W : World} {base n : Nat} {o : Option Addr} {c : Nat} {xs : List Bool} (h : W.ownsRow base 4 1 (.slice o n c) n (xs.map Value.bool)) : Bools W o xs := by
  have hl : xs.length = n := by have := h.1; simpa using this
  rcases Nat.eq_zero_or_pos n with h0 | hp
  · exact .inl (List.eq_nil_of_length_eq_zero (by omega))
  · obtain ⟨g, c', cur, e1, _, hg, _, _, _, _⟩ := own_some h hp
    cases e1
    refine .inr ⟨g, 0, rfl, lt_of_blk hg, fun j hj => ?_⟩
    have := h.cellAt j (by omega)
    rw [Nat.zero_add, this, List.getElem?_map, List.getD, List.getElem?_eq_getElem hj]
    rfl
theorem bools_blk {W : World} {g : Nat} {xs : List Bool} {cs : Array Value} {t : TypeId} {fr : Nat × Nat} (hb : W.heap[g]? = some (.cells cs t fr)) (hc : ∀ j, j < xs.length → cs[j]? = some (.bool (xs.getD j false))) : Bools W (some ⟨g, 0, none⟩) xs :=
  .inr ⟨g, 0, rfl, lt_of_blk hb, fun j hj => by rw [Nat.zero_add, row_cell hb]; exact hc j hj⟩
theorem lits_blk {W : World} {g : Nat} {xs : List Int} {cs : Array Value} {t : TypeId} {fr : Nat × Nat} (hb : W.heap[g]? = some (.cells cs t fr)) (hc : ∀ j, j < xs.length → cs[j]? = some (.int .i32 (xs.getD j 0))) (hx : ∀ x ∈ xs, -2147483648 ≤ x ∧ x ≤ 2147483647) : Lits W (some ⟨g, 0, none⟩) xs :=
  ⟨hx, .inr ⟨g, 0, rfl, lt_of_blk hb, fun j hj => by rw [Nat.zero_add, row_cell hb]; exact hc j hj⟩⟩
/-- A row of what is told stands where the trail alone turns, if it is kept out. -/
theorem own_q {p : Obj → Prop} {Q : Nat → Prop} {W W' : World} {base e size n : Nat} {v : Value} {xs : List Value} (h : W.ownsRow base e size v n xs) (hf : Fr p Q W W') (hq : ∀ g, v.ownBlock = some g → Q g) : W'.ownsRow base e size v n xs := by
  refine ⟨h.1, h.2.imp id ?_⟩
  rintro ⟨g, c, cur, e1, h1, h2, h3⟩
  exact ⟨g, c, cur, e1, h1, hf.block g _ h2 (.inl (hq g (by rw [e1]; rfl))), h3⟩
set_option maxHeartbeats 4000000 in
theorem works10 (W : World) : Calls Try.prog 10 #[] W fun e w' => e = .returned (.bool true) ∧ Below W.heap.size W w' := by
  have C8 := hid (new8 3 W (by decide))
  go_enter Try.func10, Try.ntmps10
  go_wp2_with (fail)
  go_at_call 8
  refine C8.out.mono ?_
  clear C8
  rintro e w1 ⟨tb, rfl, hA1, hb1⟩
  have C18 := hid (assign18 hA1 1 (-1) ⟨by decide, by decide⟩ ⟨by decide, by decide⟩)
  rw [show Trl.wrongE 3 [] 1 (-1) = 0 by decide, show Trl.asg 3 ⟨[], [], 0⟩ 1 (-1) = Trl.w1 from rfl] at C18
  have HB1 := hid hb1
  clear hA1 hb1
  go_wp2_with (fail)
  go_at_call 18
  refine C18.out.mono ?_
  clear C18
  rintro e w2 ⟨rfl, hA2, hF2⟩
  have C17 := hid (decide17 hA2 (-2) ⟨by decide, by decide⟩)
  rw [show Trl.wrongE 3 Trl.w1.R (-2) (-1) = 0 by decide, show Trl.dec 3 Trl.w1 (-2) = Trl.w2 from rfl] at C17
  have HB2 := hid (HB1.out.trans (hF2.below HB1.out.size (fun g hg => hg)))
  clear hA2 hF2
  go_wp2_with (fail)
  go_at_call 17
  refine C17.out.mono ?_
  clear C17
  rintro e w3 ⟨rfl, hA3, hF3⟩
  have C18 := hid (assign18 hA3 3 7 ⟨by decide, by decide⟩ ⟨by decide, by decide⟩)
  rw [show Trl.wrongE 3 Trl.w2.R 3 7 = 0 by decide, show Trl.asg 3 Trl.w2 3 7 = Trl.w3 from rfl] at C18
  have HB3 := hid (HB2.out.trans (hF3.below HB2.out.size (fun g hg => hg)))
  clear hA3 hF3 HB1 HB2
  go_wp2_with (fail)
  go_at_call 18
  refine C18.out.mono ?_
  clear C18
  rintro e w4 ⟨rfl, hA4, hF4⟩
  have C15 := hid (model15_ok hA4 rfl)
  rw [show Trl.model 3 Trl.w3.R = [true, false, true] by decide] at C15
  have HA4 := hid hA4
  have HB4 := hid (HB3.out.trans (hF4.below HB3.out.size (fun g hg => hg)))
  clear hA4 hF4 HB3
  go_wp2_with (fail)
  go_at_call 15
  refine C15.out.mono ?_
  clear C15
  rintro e w5 ⟨om, km, rfl, hom, hb5⟩
  have HB5 := hid (HB4.out.trans (hb5.mono HB4.out.size))
  have hA5 := HA4.out.below hb5
  have C13 := hid (back13_ok hA5 0 (by decide))
  rw [show Trl.gone Trl.w3 0 = [3, -2] by decide, show Trl.back Trl.w3 0 = Trl.w1 from rfl] at C13
  have HOM := hid hom
  clear hA5 hb5 hom HA4
  go_wp2_with (fail)
  go_at_call 13
  refine C13.out.mono ?_
  clear C13
  rintro e w6 ⟨ol, kl, rfl, hol, hA6, hF6⟩
  have HB6 := hid (HB5.out.trans (hF6.below HB5.out.size (fun g hg => hg)))
  have hom6 := own_bools (own_fr HOM.out hF6 (fun cs fr k => by rcases k with k | k | k | k <;> cases k))
  have hl6 := own_row hol (by decide)
  have hbx1 := below_box w6 (.cells #[.bool true, .bool false, .bool true] 4)
  have C31 := hid (sameModel31 om (some ⟨w6.heap.size, 0, none⟩) 3 3 km 3 [true, false, true] [true, false, true] (w6.alloc (.cells #[.bool true, .bool false, .bool true] 4)) rfl rfl (by decide) (by decide) (hom6.below hbx1) (bools_blk (heap_alloc_new w6 _) (by intro j hj; match j, hj with | 0, _ => rfl | 1, _ => rfl | 2, _ => rfl)))
  have HL6 := hid hl6
  have HA6 := hid hA6
  have HX1 := hid hbx1
  clear hol hA6 hF6 hom6 hl6 hbx1 HOM
  rw [show ([3, -2] : List Int).length = 2 from rfl] at *
  simp only [decide_true] at C31
  go_wp2_with (fail)
  go_at_call 31
  refine C31.out.mono ?_
  clear C31
  rintro e w7 ⟨rfl, hd7⟩
  have hb7 := HX1.out.trans (hd7.below.mono HX1.out.size)
  have HB7 := hid (HB6.out.trans (hb7.mono HB6.out.size))
  have hbx2 := below_box w7 (.cells #[.int .i32 3, .int .i32 (-2)] 33)
  have C30 := hid (same30 ol (some ⟨w7.heap.size, 0, none⟩) 2 kl 2 [3, -2] (w7.alloc (.cells #[.int .i32 3, .int .i32 (-2)] 33)) rfl (by decide) ((HL6.out.below hb7).below hbx2) (lits_blk (heap_alloc_new w7 _) (by intro j hj; match j, hj with | 0, _ => rfl | 1, _ => rfl) (by decide)))
  have HA7 := hid ((HA6.out.below hb7).below hbx2)
  have HX2 := hid hbx2
  clear hd7 hb7 hbx2 HX1 HL6 HA6
  go_wp2_with (fail)
  go_at_call 30
  refine C30.out.mono ?_
  clear C30
  rintro e w8 ⟨rfl, hb8⟩
  have HA8 := HA7.out.below hb8
  obtain ⟨gv, lv, bv, hT8, hok8⟩ := HA8
  have C23 := hid (len23 hT8)
  rw [show Trl.w1.R.length = 1 from rfl] at C23
  have C24 := hid (value24 ⟨gv, lv, bv, hT8, hok8⟩ (-1) ⟨by decide, by decide⟩)
  rw [show Trl.valueOf Trl.w1.R (-1) = -1 by decide] at C24
  have HB8 := hid (HB7.out.trans ((HX2.out.mono HB7.out.size).trans (hb8.mono (Nat.le_trans HB7.out.size HX2.out.size))))
  clear hT8 hok8 hb8 HA7 HX2 HB7
  go_wp2_with (first
    | (go_at_call 23; refine C23.out.mono ?_; rintro e w9 ⟨rfl, hw9⟩; rw [hw9]; clear hw9)
    | (go_at_call 24; refine C24.out.mono ?_; rintro e w10 ⟨rfl, hb10⟩))
  go_ret
  exact ⟨rfl, HB8.out.trans (hb10.mono HB8.out.size)⟩
end Go.Proofs.Ytckpahdlcdgbpaa
