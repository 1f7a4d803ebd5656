/- A call put on a trail. -/
import Derived.Test.YtckpahdlcdgbpaaWrk
import Derived.Test.YtckpahdlcdgbpaaTrB
namespace Go.Proofs.Ytckpahdlcdgbpaa
open Go.RowKit Go.Maps
set_option linter.unusedVariables false
set_option maxRecDepth 100000

/-- What Pick tells, by its number. -/
def PkOut (i : Int) (n : Nat) (e : Ending) : Prop := ∃ t : Nat, t < n ∧ Trl.pk i n = t ∧ e = .returned (.int .i64 t)
set_option maxHeartbeats 2000000 in
theorem pick28d (i : Int) (n : Nat) (w : World) (hn : 0 < n) (hn2 : n ≤ 1000) (hi : I64 i) :
    Calls Try.prog 28 #[.int .i64 i, .int .i64 n] w fun e w' => PkOut i n e ∧ w' = w := by
  have h1 := hi.1
  have h2 := hi.2
  have hn0 : ¬ (n : Int) ≤ 0 := by omega
  have hnz : ((n : Int) == 0) = false := by simp; omega
  have hnz' : ¬ (n : Int) = 0 := by omega
  obtain ⟨r, hr⟩ : ∃ r, i.tmod (n : Int) = r := ⟨_, rfl⟩
  have hr1 : -(n : Int) < r := by have h := Int.natAbs_tmod i (n : Int); rw [hr] at h; have := Nat.mod_lt i.natAbs (show 0 < (n : Int).natAbs by omega); omega
  have hr2 : r < n := by rw [← hr]; exact Int.tmod_lt_of_pos i (by omega)
  obtain ⟨t, ht⟩ : ∃ t : Nat, (r + n).tmod (n : Int) = (t : Int) := ⟨((r + n).tmod (n : Int)).toNat, by have := Int.tmod_nonneg (b := (n : Int)) (show 0 ≤ r + n by omega); omega⟩
  have htn : t < n := by have := Int.tmod_lt_of_pos (r + n) (b := (n : Int)) (by omega); omega
  have HP := hid (show Trl.pk i n = t by unfold Trl.pk; rw [hr, ht])
  clear hi
  go_enter Try.func28, Try.ntmps28
  go_wp2
  go_ret
  exact ⟨⟨t, htn, HP.out, rfl⟩, rfl⟩
set_option maxHeartbeats 4000000 in
theorem put29 {Q : Nat → Prop} {tb n : Nat} {s : Trl.S} {W : World} (H : Trx Q tb n s W) (k l r : Int) (a : Option Addr) (m c : Nat) (hk : I64 k) (hl : I32 l) (hr : I64 r) :
    Calls Try.prog 29 #[.pointer (some ⟨tb, 0, none⟩), .agg #[.int .i64 k, .int .i32 l, .int .i64 r, .slice a m c]] W fun e w' => e = .returned (.tuple #[]) ∧ Did Q tb n W (Trl.putS n s k l r) w' := by
  obtain ⟨V, hV⟩ : ∃ V, W.alloc (.cells #[.int .i64 k, .int .i32 l, .int .i64 r, .slice a m c] 36) = V := ⟨_, rfl⟩
  have hb : Below W.heap.size W V := by rw [← hV]; exact below_box _ _
  have hnew : V.heap[W.heap.size]? = some (.cells #[.int .i64 k, .int .i32 l, .int .i64 r, .slice a m c] 36 (0, 0)) := by rw [← hV]; exact heap_alloc_new W _
  have x0 : V.cell? ⟨W.heap.size, 0, none⟩ = some (.int .i64 k) := row_cell hnew 0
  have x1 : V.cell? ⟨W.heap.size, 1, none⟩ = some (.int .i32 l) := row_cell hnew 1
  have x2 : V.cell? ⟨W.heap.size, 2, none⟩ = some (.int .i64 r) := row_cell hnew 2
  have C28 := hid (pick28d k 2 V (by decide) (by decide) hk)
  have C17 := hid (decide17 (H.below hb) l hl)
  have C18 := hid (assign18 (H.below hb) l r hl hr)
  have HB := hid hb
  clear H hb hnew
  generalize Trl.wrongE n s.R l (-1) = e1 at *
  generalize Trl.wrongE n s.R l r = e2 at *
  go_enter Try.func29, Try.ntmps29
  go_wp2_with (fail)
  go_at_call 28
  refine C28.out.mono ?_
  rintro e v4 ⟨⟨t, ht, hpk, rfl⟩, hw4⟩
  rw [hw4]
  clear hw4 C28
  by_cases h0 : t = 0
  · subst h0
    have HS := hid (show Trl.putS n s k l r = Trl.dec n s l by unfold Trl.putS; rw [if_pos (by rw [hpk]; rfl)])
    clear hpk
    go_wp2_with (go_at_call 17; refine C17.out.mono ?_; rintro e w5 ⟨rfl, hw5⟩)
    refine bodyPost_end (results_none rfl _ _ _) rfl ?_
    exact ⟨rfl, by rw [HS.out]; exact ⟨hw5.1, (Fr.of_below HB.out).trans hw5.2⟩⟩
  · have htz : ((t : Int) == 0) = false := by simp; omega
    have HS := hid (show Trl.putS n s k l r = Trl.asg n s l r by unfold Trl.putS; rw [if_neg (by rw [hpk]; omega)])
    clear hpk
    go_wp2_with (go_at_call 18; refine C18.out.mono ?_; rintro e w5 ⟨rfl, hw5⟩)
    refine bodyPost_end (results_none rfl _ _ _) rfl ?_
    exact ⟨rfl, by rw [HS.out]; exact ⟨hw5.1, (Fr.of_below HB.out).trans hw5.2⟩⟩
end Go.Proofs.Ytckpahdlcdgbpaa
