/- Var, has, left: what is asked of literals. -/
import Derived.Test.YthpebfojkpnojaaBst
namespace Go.Proofs.Ythpebfojkpnojaa
open Go.RowKit Go.Maps
set_option linter.unusedVariables false
set_option linter.unusedSimpArgs false
set_option maxRecDepth 100000
def Drawn (w w' : World) : Prop := ∃ q, w' = w.drewN q
theorem Drawn.refl (w : World) : Drawn w w := ⟨0, rfl⟩
theorem Drawn.drewN {w w' : World} (h : Drawn w w') (n : Nat) : Drawn w (w'.drewN n) := by obtain ⟨q, rfl⟩ := h; exact ⟨q + n, by rw [World.drewN_drewN]⟩
theorem Drawn.trans {w w' w'' : World} (h : Drawn w w') (k : Drawn w' w'') : Drawn w w'' := by obtain ⟨q, rfl⟩ := k; exact h.drewN q
theorem Drawn.cell {w w' : World} (h : Drawn w w') (a : Addr) : w'.cell? a = w.cell? a := by obtain ⟨q, rfl⟩ := h; rfl
theorem Drawn.below {w w' : World} (h : Drawn w w') : Below w.heap.size w w' := by obtain ⟨q, rfl⟩ := h; exact ⟨rfl, rfl, rfl, Nat.le_refl _, fun _ _ => rfl⟩
theorem vr_pos {l : Int} (h : ¬ l < 0) : Bas.vr l = l := by unfold Bas.vr; rw [if_neg h]
theorem vr_neg {l : Int} (h : l < 0) : Bas.vr l = -l := by unfold Bas.vr; rw [if_pos h]
set_option maxHeartbeats 1000000 in
theorem var49 (l : Int) (W : World) (hl : I32 l) : Calls Try.prog 49 #[.int .i32 l] W fun e w' => e = .returned (.int .i64 (Bas.vr l)) ∧ w' = W := by
  have h1 := hl.1
  have h2 := hl.2
  clear hl
  by_cases h : l < 0
  · rw [vr_neg h]
    go_enter Try.func49, Try.ntmps49
    go_wp2
    go_ret
    exact ⟨rfl, rfl⟩
  · rw [vr_pos h]
    go_enter Try.func49, Try.ntmps49
    go_wp2
    go_ret
    exact ⟨rfl, rfl⟩
theorem has_cons (vars : Int) (xs : List Int) (k : Nat) (hk : k < xs.length) : Bas.has vars (xs.take (k + 1)) = (Bas.has vars (xs.take k) && (decide (1 ≤ Bas.vr (xs.getD k 0)) && decide (Bas.vr (xs.getD k 0) ≤ vars))) := by
  unfold Bas.has
  rw [List.take_succ_eq_append_getElem hk, List.all_append]
  simp [List.getD, hk]
theorem has_no (vars : Int) (xs : List Int) (k : Nat) (hk : k < xs.length) (h : ¬ (1 ≤ Bas.vr (xs.getD k 0) ∧ Bas.vr (xs.getD k 0) ≤ vars)) : Bas.has vars xs = false := by
  cases hh : Bas.has vars xs with
  | false => rfl
  | true =>
    exfalso
    have := List.all_eq_true.1 hh _ (getD_mem xs k hk)
    simp only [Bool.and_eq_true, decide_eq_true_eq] at this
    exact h this
set_option maxHeartbeats 2000000 in
theorem has29 {M : Nat → Prop} {bb K : Nat} {s : Bas.S} {W : World} (h : Bs M bb K s W) (a : Option Addr) (n c : Nat) (xs : List Int) (hn : xs.length = n) (hN : n ≤ 35184372088832) (hx : Lits W a xs) :
    Calls Try.prog 29 #[.pointer (some ⟨bb, 0, none⟩), .slice a n c] W fun e w' => e = .returned (.bool (Bas.has s.vars xs)) ∧ w' = W := by
  obtain ⟨bm, br, k, k2, f, g, rv, sv, tv, R, Z, rw', ids, iv, hb, _⟩ := h.mem
  have x0 : W.cell? ⟨bb, 0, none⟩ = some (.int .i64 s.vars) := row_cell hb 0
  have HX0 := hid x0
  have hv := h.vars
  have HX := hid hx
  have HN := hid hn
  have sh : Hid (n = 0) ∨ ∃ b off, a = some ⟨b, off, none⟩ := by
    rcases hx.2 with h | ⟨b, off, e, _⟩
    · left; rw [h] at hn; exact hn.symm
    · exact .inr ⟨b, off, e⟩
  generalize s.vars = vs at *
  clear hb h hx hn x0
  rcases sh with Z | ⟨b, off, rfl⟩
  all_goals
    go_enter Try.func29, Try.ntmps29
    go_wp2_with fail
    go_loop [6, 7, 10] (fun _ _ iv => ∃ k : Nat, k ≤ n ∧ iv = .int .i64 k ∧ Hid (Bas.has vs (xs.take k) = true)) (fun _ _ iv => n - (intOf iv).toNat)
    case atStart => exact ⟨0, Nat.zero_le _, rfl, hid (by simp [Bas.has])⟩
    case round =>
      obtain ⟨k, hk, rfl, HH⟩ := hrel
      by_cases hlt : k < n
      · first
        | (exfalso; have := Z.out; omega)
        | (have hlt' : (k : Int) < n := by omega
           have hkx : k < xs.length := by rw [HN.out]; exact hlt
           obtain ⟨b2, off2, e2, _, hc, hlo, hhi⟩ := Row.at HX.out hkx
           cases e2
           have C49 := hid (var49 (xs.getD k 0) W ⟨hlo, hhi⟩)
           have HT := hid (has_cons vs xs k hkx)
           have HF := hid (has_no vs xs k hkx)
           have x0 := HX0.out
           generalize xs.getD k 0 = lv at *
           generalize Bas.vr lv = vv at *
           by_cases h1 : vv < 1
           · have HE := hid (HF.out (by omega))
             go_wp2_with (go_at_call 49; refine C49.out.mono ?_; rintro e w4 ⟨rfl, hw4⟩; rw [hw4]; clear hw4)
             go_ret
             exact ⟨by rw [HE.out]; rfl, rfl⟩
           · by_cases h2 : vs < vv
             · have HE := hid (HF.out (by omega))
               go_wp2_with (go_at_call 49; refine C49.out.mono ?_; rintro e w4 ⟨rfl, hw4⟩; rw [hw4]; clear hw4)
               go_ret
               exact ⟨by rw [HE.out]; rfl, rfl⟩
             · have HE := hid (show Bas.has vs (xs.take (k + 1)) = true by rw [HT.out, HH.out]; simp; omega)
               go_wp2_with (go_at_call 49; refine C49.out.mono ?_; rintro e w4 ⟨rfl, hw4⟩; rw [hw4]; clear hw4)
               go_round
               case rel => exact ⟨k + 1, by omega, by go_num, HE⟩
               case measure => simp [intOf]; omega)
      · have hge : ¬ (k : Int) < n := by omega
        have HE := hid (show Bas.has vs xs = true by have := HH.out; rwa [List.take_of_length_le (by rw [HN.out]; omega)] at this)
        go_wp2
        go_ret
        exact ⟨by rw [HE.out]; rfl, rfl⟩
end Go.Proofs.Ythpebfojkpnojaa
