/- Resolution, whole: what is resolved, and what it means for models. -/
import Derived.Test.YtccbcijkahnkkaaRes
import Derived.Test.YtccbcijkahnkkaaFind
namespace Cnf

def canRes (xa xb : List Int) (v : Int) : Bool := decide (1 ≤ v) && (decide (v ≤ 2147483647) && (has xa v && has xb (-v)))
def rest (xa xb : List Int) (v : Int) : List Int := if canRes xa xb v then but xa v ++ but xb (-v) else []
def errRes (xa xb : List Int) (v : Int) : Int := if canRes xa xb v then 0 else 2

theorem rest_len (xa xb : List Int) (v : Int) : (rest xa xb v).length ≤ xa.length + xb.length := by
  unfold rest
  split
  · have := but_len xa v
    have := but_len xb (-v)
    simp only [List.length_append]
    omega
  · simp

theorem tr_neg (v : Int) (m : List Bool) (h1 : 1 ≤ v) (ht : tr v m = true) : tr (-v) m = false := by
  unfold tr vr at *
  have e1 : ¬ v < 0 := by omega
  have e4 : 0 < v := by omega
  simp [e1, e4] at ht ⊢
  intro _ _
  simp [ht]

theorem val_iff (c : List Int) (m : List Bool) : val c m = true ↔ ∃ l ∈ c, tr l m = true := by simp [val]

/-- What is resolved is true wherever both clauses are. -/
theorem val_resolved {xa xb ys : List Int} {v : Int} {m : List Bool} (hc : canRes xa xb v = true) (hn : Nrm (rest xa xb v) ys) (ha : val xa m = true) (hb : val xb m = true) : val ys m = true := by
  have h1 : 1 ≤ v := by
    unfold canRes at hc
    simp only [Bool.and_eq_true, decide_eq_true_iff] at hc
    exact hc.1
  unfold rest at hn
  rw [if_pos hc] at hn
  obtain ⟨x, hx, tx⟩ := (val_iff _ _).1 ha
  obtain ⟨y, hy, ty⟩ := (val_iff _ _).1 hb
  rw [val_iff]
  by_cases e : x = v
  · have hy' : y ≠ -v := by
      intro e2
      subst e e2
      rw [tr_neg x m h1 tx] at ty
      cases ty
    exact ⟨y, (hn.2 y).2 (List.mem_append.2 (Or.inr ((mem_but _ _ _).2 ⟨hy, hy'⟩))), ty⟩
  · exact ⟨x, (hn.2 x).2 (List.mem_append.2 (Or.inl ((mem_but _ _ _).2 ⟨hx, e⟩))), tx⟩

/-- What subsumes a clause is true only where that is. -/
theorem val_sub {xa xb : List Int} {m : List Bool} (h : sub xa xb = true) (ha : val xa m = true) : val xb m = true := by
  obtain ⟨x, hx, tx⟩ := (val_iff _ _).1 ha
  exact (val_iff _ _).2 ⟨x, (sub_iff _ _).1 h x hx, tx⟩

theorem sub_refl (xa : List Int) : sub xa xa = true := (sub_iff _ _).2 fun _ h => h
theorem sub_nil (xa : List Int) : sub [] xa = true := rfl

end Cnf
namespace Go.Proofs.Ytccbcijkahnkkaa
open Go.RowKit Go.Lib Go.Sort Go.Shelf
set_option linter.unusedVariables false

theorem resolve18 (a b : Option Addr) (na ca nb cb : Nat) (xa xb : List Int) (v : Int) (w : World) (hna : xa.length = na) (hnb : xb.length = nb) (hN : na ≤ 549755813888) (hN' : nb ≤ 549755813888)
    (ha : Lits w a xa) (hb : Lits w b xb) :
    Calls Try.prog 18 #[.slice a na ca, .slice b nb cb, .int .i64 v] w fun e w' => ∃ v' ys, e = .returned (.tuple #[v', .bool (Cnf.both (Cnf.rest xa xb v)), .int .i64 (Cnf.errRes xa xb v)]) ∧ Cnf.Nrm (Cnf.rest xa xb v) ys ∧
      w'.ownsRow w.heap.size 40 1 v' ys.length (ys.map (Value.int .i32)) ∧ Below w.heap.size w w' ∧ ys.length ≤ na + nb := by
  cases hc : Cnf.canRes xa xb v
  · have e1 : Cnf.rest xa xb v = [] := by simp [Cnf.rest, hc]
    have e2 : Cnf.errRes xa xb v = 2 := by simp [Cnf.errRes, hc]
    rw [e1, e2]
    have hcall : Calls Try.prog 18 #[.slice a na ca, .slice b nb cb, .int .i64 v] w fun e w' => e = .returned (.tuple #[.slice none 0 0, .bool false, .int .i64 2]) ∧ w' = w := by
      by_cases h1 : v < 1 ∨ 2147483647 < v
      · exact resolve18_range _ _ v w h1
      · refine resolve18_has a b na ca nb cb xa xb v w (by omega) (by omega) hna hnb (by omega) (by omega) ha hb ?_
        have g1 : 1 ≤ v := by omega
        have g2 : v ≤ 2147483647 := by omega
        simp only [Cnf.canRes, g1, g2, decide_true, Bool.true_and, Bool.and_eq_false_iff] at hc
        exact hc
    refine hcall.mono ?_
    rintro e w' ⟨rfl, rfl⟩
    exact ⟨_, [], rfl, ⟨List.Pairwise.nil, fun x => Iff.rfl⟩, World.ownsRow_nil _ _ _ _, Below.refl _ _, Nat.zero_le _⟩
  · have e1 : Cnf.rest xa xb v = Cnf.but xa v ++ Cnf.but xb (-v) := by simp [Cnf.rest, hc]
    have e2 : Cnf.errRes xa xb v = 0 := by simp [Cnf.errRes, hc]
    rw [e1, e2]
    simp only [Cnf.canRes, Bool.and_eq_true, decide_eq_true_iff] at hc
    exact resolve18_ok a b na ca nb cb xa xb v w hc.1 hc.2.1 hna hnb hN hN' ha hb hc.2.2.1 hc.2.2.2

end Go.Proofs.Ytccbcijkahnkkaa
