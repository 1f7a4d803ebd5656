/- The document's Move. -/
import Derived.Test.YtckpahdlcdgbpaaDtV
import Derived.Test.YtckpahdlcdgbpaaMov2
namespace Trl
theorem mvd_succ {R : List E} {to : List Int} {i : Nat} (h : i < R.length) : mvd R to (i + 1) = (mvd R to i).set i (mv to (get R i)) := by
  have hl : ∀ k, (mvd R to k).length = R.length := fun k => by unfold mvd; simp; omega
  apply List.ext_getElem?
  intro j
  by_cases hj : j < R.length
  · rw [List.getElem?_set, hl]
    have e1 := get_at (R := mvd R to (i + 1)) (i := j) (by rw [hl]; exact hj)
    have e2 := get_at (R := mvd R to i) (i := j) (by rw [hl]; exact hj)
    rw [e1, e2, mvd_get hj, mvd_get hj]
    by_cases e : i = j
    · subst e; rw [if_pos rfl, if_pos h, if_pos (by omega)]
    · rw [if_neg e]
      by_cases hji : j < i
      · rw [if_pos hji, if_pos (by omega)]
      · rw [if_neg hji, if_neg (by omega)]
  · rw [List.getElem?_eq_none (by rw [hl]; omega), List.getElem?_eq_none (by rw [List.length_set, hl]; omega)]
end Trl
namespace Go.Proofs.Ytckpahdlcdgbpaa
open Go.RowKit Go.Maps
set_option linter.unusedVariables false
set_option maxRecDepth 100000

def put3 (l : List Value) (k : Nat) (a b c : Value) : List Value := ((l.set k a).set (k + 1) b).set (k + 2) c
theorem put3_mid (A B : List Value) (x y z a b c : Value) (k : Nat) (hk : A.length = k) : put3 (A ++ ([x, y, z] ++ B)) k a b c = A ++ ([a, b, c] ++ B) := by
  subst hk
  unfold put3
  simp only [List.set_append_right _ _ (Nat.le_add_right A.length _), List.set_append_right _ _ (Nat.le_refl A.length)]
  simp
theorem erow_set {R : List Trl.E} {i : Nat} (h : i < R.length) (e : Trl.E) : put3 (erow R) (i * 3) (.int .i32 e.lit) (.int .i64 (e.lev : Nat)) (.int .i64 e.rea) = erow (R.set i e) := by
  have e1 : R = R.take i ++ R[i] :: R.drop (i + 1) := by rw [← List.drop_eq_getElem_cons h, List.take_append_drop]
  have e2 : R.set i e = R.take i ++ e :: R.drop (i + 1) := by rw [List.set_eq_take_append_cons_drop, if_pos h]
  rw [e2]
  conv => lhs; rw [e1]
  rw [erow_append, erow_append, erow, erow]
  exact put3_mid _ _ _ _ _ _ _ _ _ (by rw [erow_len, List.length_take, Nat.min_eq_left (by omega)])
theorem own_set3 {W : World} {base e size g n c k : Nat} {xs : List Value} (h : W.ownsRow base e size (.slice (some ⟨g, 0, none⟩) n c) n xs) (v0 v1 v2 : Value) :
    (((W.setCell ⟨g, k, none⟩ v0).setCell ⟨g, k + 1, none⟩ v1).setCell ⟨g, k + 2, none⟩ v2).ownsRow base e size (.slice (some ⟨g, 0, none⟩) n c) n (put3 xs k v0 v1 v2) := by
  exact (((h.stored k v0).1.stored (k + 1) v1).1.stored (k + 2) v2).1
/-- A row of numbers that stays while the document's memory turns. -/
def StaysD (B : Nat) (W : World) (a : Option Addr) (to : List Int) : Prop := ∀ w', Fr pD (· < B) W w' → Hnts w' a to
theorem StaysD.here {B : Nat} {W : World} {a : Option Addr} {to : List Int} (h : StaysD B W a to) : Hnts W a to := h W (Fr.refl _ _ _)
/-- The document's trail while it is moved. -/
structure Dm (B db g c n : Nat) (s : Trl.S) (to : List Int) (W0 : World) (i : Nat) (W : World) : Prop where
  blk : W.heap[db]? = some (.cells #[.int .i64 (n : Nat), .slice (some ⟨g, 0, none⟩) s.R.length c, .int .i64 (s.B.length : Nat), .int .i64 (s.h : Nat)] 66 (0, 0))
  own : W.ownsRow B 84 3 (.slice (some ⟨g, 0, none⟩) s.R.length c) s.R.length (erow (Trl.mvd s.R to i))
  fr : Fr pD (· < B) W0 W
theorem mvd_len (R : List Trl.E) (to : List Int) (i : Nat) : (Trl.mvd R to i).length = R.length := by unfold Trl.mvd; simp; omega
theorem Dm.step {B db g c n : Nat} {s : Trl.S} {to : List Int} {W0 W : World} {i : Nat} (h : Dm B db g c n s to W0 i W) (hi : i < s.R.length) (e : Trl.E) (he : e = Trl.mv to (Trl.get s.R i)) :
    Dm B db g c n s to W0 (i + 1) (((W.setCell ⟨g, i * 3, none⟩ (.int .i32 e.lit)).setCell ⟨g, i * 3 + 1, none⟩ (.int .i64 (e.lev : Nat))).setCell ⟨g, i * 3 + 2, none⟩ (.int .i64 e.rea)) := by
  obtain ⟨hgB, cur, hgc⟩ := own_blk (g := g) h.own rfl
  have hne : db ≠ g := by rintro rfl; have := h.blk; rw [hgc] at this; injection this with e; injection e with _ e; cases e
  have hoth : ∀ x, x ≠ g → (((W.setCell ⟨g, i * 3, none⟩ (.int .i32 e.lit)).setCell ⟨g, i * 3 + 1, none⟩ (.int .i64 (e.lev : Nat))).setCell ⟨g, i * 3 + 2, none⟩ (.int .i64 e.rea)).heap[x]? = W.heap[x]? := fun x hx => by
    rw [heap_other _ _ hx, heap_other _ _ hx, heap_other _ _ hx]
  have hsz : (((W.setCell ⟨g, i * 3, none⟩ (.int .i32 e.lit)).setCell ⟨g, i * 3 + 1, none⟩ (.int .i64 (e.lev : Nat))).setCell ⟨g, i * 3 + 2, none⟩ (.int .i64 e.rea)).heap.size = W.heap.size := by simp [World.setCell]
  refine ⟨(hoth _ hne).trans h.blk, ?_, h.fr.trans ⟨rfl, rfl, rfl, by rw [hsz]; exact Nat.le_refl _, fun q o hq hp => (hoth q (fun e2 => ?_)).trans hq⟩⟩
  · rw [Trl.mvd_succ hi, ← he, ← erow_set (by rw [mvd_len]; exact hi) e]
    exact own_set3 h.own _ _ _
  · subst e2
    rcases hp with hp | hp
    · have hp' : q < B := hp; omega
    · rw [hgc] at hq; cases hq; exact hp (.inr rfl)
theorem Dm.cell {B db g c n : Nat} {s : Trl.S} {to : List Int} {W0 W : World} {i : Nat} (h : Dm B db g c n s to W0 i W) (hi : i < s.R.length) {t : Nat} {u : Value} (ht : (ecell (Trl.get s.R i))[t]? = some u) : W.cell? ⟨g, i * 3 + t, none⟩ = some u := by
  have h3 : t < 3 := by
    rcases Nat.lt_or_ge t 3 with h' | h'
    · exact h'
    · rw [List.getElem?_eq_none (by simpa [ecell] using h')] at ht; cases ht
  rw [h.own.cellAt _ (by omega)]
  refine erow_at _ i t u (by rw [mvd_len]; exact hi) ?_
  rw [Trl.mvd_get hi, if_neg (Nat.lt_irrefl _)]
  exact ht
end Go.Proofs.Ytckpahdlcdgbpaa
