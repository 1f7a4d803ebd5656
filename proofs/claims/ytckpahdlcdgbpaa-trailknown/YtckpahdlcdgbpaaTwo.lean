/- Both trails side by side. -/
import Derived.Test.YtckpahdlcdgbpaaDtY
import Derived.Test.YtckpahdlcdgbpaaDtZ
namespace Go.Proofs.Ytckpahdlcdgbpaa
open Go.RowKit Go.Maps
set_option linter.unusedVariables false
set_option maxRecDepth 100000

theorem pA_pD : ∀ o, pA o → ¬ pD o := by
  intro o h1 h2
  cases o with
  | cells cs t fr =>
    have h1' : t = 63 ∨ t = 74 ∨ t = 33 ∨ t = 3 := h1
    have h2' : t = 66 ∨ t = 84 := h2
    rcases h1' with rfl | rfl | rfl | rfl <;> rcases h2' with h | h <;> cases h
  | _ => exact h1.elim
theorem pD_pA : ∀ o, pD o → ¬ pA o := fun o h1 h2 => pA_pD o h2 h1
/-- Both trails stand as s; nothing below N is turned. -/
structure Pr (N tb db n : Nat) (s : Trl.S) (W0 W : World) : Prop where
  t : Trx (· < N) tb n s W
  d : Dtx N db n s W
  b : Below N W0 W
theorem Pr.below {N tb db n : Nat} {s : Trl.S} {W0 W W' : World} (h : Pr N tb db n s W0 W) (hN : N ≤ W0.heap.size) (hb : Below W.heap.size W W') : Pr N tb db n s W0 W' :=
  ⟨h.t.below hb, h.d.below hb, h.b.trans (hb.mono (Nat.le_trans hN h.b.size))⟩
theorem Pr.two {N tb db n : Nat} {s s' : Trl.S} {W0 W W1 W2 : World} (h : Pr N tb db n s W0 W) (hN : N ≤ W0.heap.size) (h1 : Did (· < N) tb n W s' W1) (h2 : DidD N db n W1 s' W2) : Pr N tb db n s' W0 W2 :=
  ⟨h1.1.kept h2.2 pD_pA, h2.1, (h.b.trans (h1.2.below (Nat.le_trans hN h.b.size) (fun g hg => hg))).trans (h2.2.below (Nat.le_trans hN (Nat.le_trans h.b.size h1.2.size)) (fun g hg => hg))⟩
theorem Fr.box36 {p : Obj → Prop} {Q : Nat → Prop} {W W' : World} {g : Nat} {cs : Array Value} (hf : Fr p Q W W') (hp : ¬ p (.cells cs 36 (0, 0))) (h : W.heap[g]? = some (.cells cs 36 (0, 0))) : W'.heap[g]? = some (.cells cs 36 (0, 0)) := hf.block g _ h (.inr hp)
theorem noA36 {cs : Array Value} : ¬ pA (.cells cs 36 (0, 0)) := by rintro (h | h | h | h) <;> cases h
theorem noD36 {cs : Array Value} : ¬ pD (.cells cs 36 (0, 0)) := by rintro (h | h) <;> cases h
theorem back34 {B db n : Nat} {s : Trl.S} {W : World} (H : Dtx B db n s W) (hB : B ≤ W.heap.size) (lev : Int) :
    Calls Try.prog 34 #[.pointer (some ⟨db, 0, none⟩), .int .i64 lev] W fun e w' => BackOutD B db n W (Trl.goneL s lev) (Trl.backE s lev) (Trl.backS s lev) e w' := by
  unfold Trl.goneL Trl.backE Trl.backS
  by_cases h : lev < 0 ∨ (s.B.length : Int) < lev
  · rw [if_pos h, if_pos h, if_pos h]
    exact back34_err H lev h
  · rw [if_neg h, if_neg h, if_neg h]
    obtain ⟨k, rfl⟩ : ∃ k : Nat, lev = k := ⟨lev.toNat, by omega⟩
    rw [Int.toNat_natCast]
    exact back34_ok H hB k (by omega)
theorem goneL_i32 {n : Nat} {s : Trl.S} (h : Trl.Ok n s) (lev : Int) : (∀ x ∈ Trl.goneL s lev, I32 x) ∧ (Trl.goneL s lev).length ≤ s.R.length := by
  unfold Trl.goneL
  split
  · exact ⟨fun x hx => (by cases hx), Nat.zero_le _⟩
  · refine ⟨fun x hx => ?_, ?_⟩
    · unfold Trl.gone at hx
      rw [List.mem_reverse] at hx
      obtain ⟨e, he, rfl⟩ := List.mem_map.mp hx
      exact Trl.Ok.i32 h _ (List.mem_map.mpr ⟨e, List.mem_of_mem_drop he, rfl⟩)
    · unfold Trl.gone
      simp
/-- What one leaves. -/
def OneOut (N tb db n : Nat) (W0 : World) (e : Ending) (w' : World) : Prop := e = .returned (.bool true) ∧ ∃ s', Pr N tb db n s' W0 w'
end Go.Proofs.Ytckpahdlcdgbpaa
