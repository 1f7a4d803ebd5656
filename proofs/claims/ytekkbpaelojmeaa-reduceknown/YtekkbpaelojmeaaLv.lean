/- Leaves: tiers, who may go, limits, rows of ids compared. -/
import Derived.Test.YtekkbpaelojmeaaRws
namespace Go.Proofs.Ytekkbpaelojmeaa
open Go.RowKit Go.Maps
set_option linter.unusedVariables false
set_option maxRecDepth 100000

theorem ret_num {k : IntKind} {a b : Int} (h : a = b) : Ending.returned (.int k a) = Ending.returned (.int k b) := by rw [h]
theorem ret_bool {a b : Bool} (h : a = b) : Ending.returned (.bool a) = Ending.returned (.bool b) := by rw [h]
theorem tier_1 {lb g : Int} (h : lb ≤ clip g) : tier lb g = 1 := by unfold tier; rw [if_pos h]
theorem tier_2 {lb g : Int} (h : ¬ lb ≤ clip g) (h2 : lb ≤ clip g + 4) : tier lb g = 2 := by unfold tier; rw [if_neg h, if_pos h2]
theorem tier_3 {lb g : Int} (h : ¬ lb ≤ clip g) (h2 : ¬ lb ≤ clip g + 4) : tier lb g = 3 := by unfold tier; rw [if_neg h, if_neg h2]
theorem clip_cases (g : Int) : (g < 0 ∧ clip g = 0) ∨ (0 ≤ g ∧ g ≤ 65535 ∧ clip g = g) ∨ (65535 < g ∧ clip g = 65535) := by unfold clip; omega
set_option maxHeartbeats 1000000 in
theorem tier8 (r : Rc) (g : Int) (W : World) : Calls Try.prog 8 #[.agg (rec5 r).toArray, .int .i64 g] W fun e w' => e = .returned (.int .i64 (tier r.k.lb g)) ∧ w' = W.alloc (.cells (rec5 r).toArray 29) := by
  obtain ⟨⟨id, lb, sz, us⟩, lk⟩ := r
  dsimp only [rec5]
  have T1 := hid (@tier_1 lb g)
  have T2 := hid (@tier_2 lb g)
  have T3 := hid (@tier_3 lb g)
  go_enter Try.func8, Try.ntmps8
  go_wp2
  all_goals (go_ret; refine ⟨ret_num ?_, rfl⟩; unfold tier clip; (repeat' split at *) <;> omega)
set_option maxHeartbeats 1000000 in
theorem tier9 (r : Rc) (g : Int) (W : World) : Calls Try.prog 9 #[.agg (rec5 r).toArray, .int .i64 g] W fun e w' => e = .returned (.int .i64 (tier r.k.lb g)) ∧ w' = W.alloc (.cells (rec5 r).toArray 31) := by
  obtain ⟨⟨id, lb, sz, us⟩, lk⟩ := r
  dsimp only [rec5]
  go_enter Try.func9, Try.ntmps9
  go_wp2
  all_goals (go_ret; refine ⟨ret_num ?_, rfl⟩; unfold tier clip; (repeat' split at *) <;> omega)
set_option maxHeartbeats 1000000 in
theorem may22 (r : Rc) (g : Int) (W : World) : Calls Try.prog 22 #[.agg (rec5 r).toArray, .int .i64 g] W fun e w' => e = .returned (.bool (mayP r g)) ∧ Below W.heap.size W w' := by
  have C8 := hid (fun W => tier8 r g W)
  have HT := hid (tier_cases r.k.lb g)
  have HM := hid (show mayP r g = (if r.lk then false else if tier r.k.lb g = 2 then decide (r.k.us < 1) else if tier r.k.lb g = 3 then decide (r.k.us < 2) else false) from rfl)
  have HB1 := hid (below_box W (.cells (rec5 r).toArray 29))
  have HB2 := hid (box_below W (.cells (rec5 r).toArray 29) (below_box _ (.cells (rec5 r).toArray 29)))
  generalize mayP r g = m at *
  generalize tier r.k.lb g = t at *
  obtain ⟨⟨id, lb, sz, us⟩, lk⟩ := r
  dsimp only [rec5] at *
  have HP : ∀ {p q : Prop}, p → q → p ∧ q := fun h1 h2 => ⟨h1, h2⟩
  cases lk
  · rcases HT.out with rfl | rfl | rfl
    · have HE := hid (show m = false from HM.out)
      rw [HE.out]
      clear HM HT
      go_enter Try.func22, Try.ntmps22
      go_wp2_with (go_at_call 8; refine (C8.out _).mono ?_; rintro e w4 ⟨rfl, hw4⟩; rw [hw4]; clear hw4)
      all_goals (go_ret; exact ⟨rfl, HB2.out⟩)
    · have HE := hid (show m = decide (us < 1) from HM.out)
      rw [HE.out]
      clear HM HT
      go_enter Try.func22, Try.ntmps22
      go_wp2_with (go_at_call 8; refine (C8.out _).mono ?_; rintro e w4 ⟨rfl, hw4⟩; rw [hw4]; clear hw4)
      all_goals (go_ret; exact ⟨rfl, HB2.out⟩)
    · have HE := hid (show m = decide (us < 2) from HM.out)
      rw [HE.out]
      clear HM HT
      go_enter Try.func22, Try.ntmps22
      go_wp2_with (go_at_call 8; refine (C8.out _).mono ?_; rintro e w4 ⟨rfl, hw4⟩; rw [hw4]; clear hw4)
      all_goals (go_ret; exact ⟨rfl, HB2.out⟩)
  · have HE := hid (show m = false from HM.out)
    rw [HE.out]
    clear HM HT
    go_enter Try.func22, Try.ntmps22
    go_wp2_with (go_at_call 8; refine (C8.out _).mono ?_; rintro e w4 ⟨rfl, hw4⟩; rw [hw4]; clear hw4)
    all_goals (go_ret; exact ⟨rfl, HB1.out⟩)
end Go.Proofs.Ytekkbpaelojmeaa
