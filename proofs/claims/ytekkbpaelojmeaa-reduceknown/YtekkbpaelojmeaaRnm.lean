/- Pick; the records' ids made unlike. -/
import Derived.Test.YtekkbpaelojmeaaBth
import Derived.Test.YtekkbpaelojmeaaRdQ
import Derived.Test.YtekkbpaelojmeaaIds
namespace Go.Proofs.Ytekkbpaelojmeaa
open Go.RowKit Go.Maps
set_option linter.unusedVariables false
set_option linter.unusedSimpArgs false
set_option maxRecDepth 100000

def PickOut (n : Nat) (e : Ending) : Prop := ∃ t : Nat, t < n ∧ e = .returned (.int .i64 t)
set_option maxHeartbeats 1000000 in
theorem pick14 (i : Int) (n : Nat) (w : World) (hn : 0 < n) (hn2 : n ≤ 1000) (hi : I64 i) :
    Calls Try.prog 14 #[.int .i64 i, .int .i64 n] w fun e w' => PickOut n e ∧ w' = w := by
  have h1 := hi.1
  have h2 := hi.2
  have hn0 : ¬ (n : Int) ≤ 0 := by omega
  have hnz : ((n : Int) == 0) = false := by simp; omega
  have hnz' : ¬ (n : Int) = 0 := by omega
  obtain ⟨r, hr⟩ : ∃ r, i.tmod (n : Int) = r := ⟨_, rfl⟩
  have hr1 : -(n : Int) < r := by have h := Int.natAbs_tmod i (n : Int); rw [hr] at h; have := Nat.mod_lt i.natAbs (show 0 < (n : Int).natAbs by omega); omega
  have hr2 : r < n := by rw [← hr]; exact Int.tmod_lt_of_pos i (by omega)
  obtain ⟨t, ht⟩ : ∃ t : Nat, (r + n).tmod (n : Int) = (t : Int) := ⟨((r + n).tmod (n : Int)).toNat, by have := Int.tmod_nonneg (b := (n : Int)) (show 0 ≤ r + n by omega); omega⟩
  have htn : t < n := by have := Int.tmod_lt_of_pos (r + n) (b := (n : Int)) (by omega); omega
  clear hi
  go_enter Try.func14, Try.ntmps14
  go_wp2
  go_ret
  exact ⟨⟨t, htn, rfl⟩, rfl⟩
/-- While ids are made unlike: the first k are. -/
structure Ren (A : World) (base g n c : Nat) (rs : List Rc) (k : Nat) (w : World) : Prop where
  bel : Below base A w
  cur : ∃ cur : Array Value, w.heap[g]? = some (.cells cur 29 (0, 0)) ∧ cur.size = c * 5 ∧ ∀ j (hj : j < rs.length) t, t < 5 → cur[j * 5 + t]? = (rec5 (if j < k then ⟨⟨(j : Int) + 1, rs[j].k.lb, rs[j].k.sz, rs[j].k.us⟩, rs[j].lk⟩ else rs[j]))[t]?
theorem Ren.start {A w : World} {base g n c : Nat} {rs : List Rc} (hb : Below base A w) (h : w.ownsRow base 29 5 (.slice (some ⟨g, 0, none⟩) n c) n (flat rs)) (hn : rs.length = n) : Ren A base g n c rs 0 w := by
  refine ⟨hb, ?_⟩
  rcases h.2 with ⟨e1, h0⟩ | ⟨g', c', cur, e1, h1, h2, h3, h4, h5, h6⟩
  · cases e1
  · cases e1
    refine ⟨cur, h2, h5, fun j hj t ht => ?_⟩
    rw [if_neg (Nat.not_lt_zero _), ← flat_at hj ht, ← h6, List.getElem?_take_of_lt (by omega), Array.getElem?_toList]
theorem Ren.done {A w : World} {base g n c : Nat} {rs : List Rc} (h : Ren A base g n c rs n w) (hn : rs.length = n) (hbg : base ≤ g) (hc : n ≤ c) (hm : c ≤ maxLen) : w.ownsRow base 29 5 (.slice (some ⟨g, 0, none⟩) n c) n (flat (renum rs)) := by
  obtain ⟨cur, h1, h2, h3⟩ := h.cur
  have hfl : (flat (renum rs)).length = n * 5 := by rw [flat_len, renum_len, hn]
  refine ⟨hfl, .inr ⟨g, c, cur, rfl, hbg, h1, hc, hm, h2, ?_⟩⟩
  apply List.ext_getElem?
  intro i
  by_cases hi : i < n * 5
  · have hj : i / 5 < rs.length := by omega
    have ht : i % 5 < 5 := Nat.mod_lt _ (by decide)
    have h4 := h3 (i / 5) hj (i % 5) ht
    have h5 := flat_at (rs := renum rs) (j := i / 5) (by rw [renum_len]; exact hj) ht
    rw [show i / 5 * 5 + i % 5 = i by omega] at h4 h5
    rw [List.getElem?_take_of_lt hi, Array.getElem?_toList, h4, h5, if_pos (by omega)]
    simp [renum]
  · rw [List.getElem?_eq_none (by simp; omega), List.getElem?_eq_none (by omega)]
/-- What the row tells of the next. -/
theorem Ren.at {A w : World} {base g n c k : Nat} {rs : List Rc} (h : Ren A base g n c rs k w) (hk : k < rs.length) :
    w.cell? ⟨g, k * 5, none⟩ = some (.int .i64 rs[k].k.id) ∧ w.cell? ⟨g, k * 5 + 1, none⟩ = some (.int .i64 rs[k].k.lb) ∧ w.cell? ⟨g, k * 5 + 2, none⟩ = some (.int .i64 rs[k].k.sz) ∧ w.cell? ⟨g, k * 5 + 3, none⟩ = some (.int .i64 rs[k].k.us) ∧ w.cell? ⟨g, k * 5 + 4, none⟩ = some (.bool rs[k].lk) := by
  obtain ⟨cur, h1, h2, h3⟩ := h.cur
  have h4 := fun t ht => h3 k hk t ht
  simp only [Nat.lt_irrefl, if_false] at h4
  exact ⟨by rw [row_cell h1]; exact h4 0 (by decide), by rw [row_cell h1]; exact h4 1 (by decide), by rw [row_cell h1]; exact h4 2 (by decide), by rw [row_cell h1]; exact h4 3 (by decide), by rw [row_cell h1]; exact h4 4 (by decide)⟩
/-- .. in a world that has grown. -/
theorem Ren.grown {A w w' : World} {base g n c k : Nat} {rs : List Rc} (h : Ren A base g n c rs k w) (hb : Below w.heap.size w w') (hs : base ≤ w.heap.size) : Ren A base g n c rs k w' := by
  obtain ⟨cur, h1, h2, h3⟩ := h.cur
  exact ⟨h.bel.trans (hb.mono hs), cur, (hb.block g (lt_of_blk h1)).trans h1, h2, h3⟩
theorem Ren.free {A w : World} {base g n c k : Nat} {rs : List Rc} (h : Ren A base g n c rs k w) (i : Nat) : w.frozen? ⟨g, i, none⟩ = false := by
  obtain ⟨cur, h1, h2, h3⟩ := h.cur
  exact row_frozen h1 i
set_option maxHeartbeats 1000000 in
/-- One more. -/
theorem Ren.step {A w : World} {base g n c k : Nat} {rs : List Rc} (h : Ren A base g n c rs k w) (hk : k < rs.length) (hn : rs.length = n) (hbg : base ≤ g) (hc : n ≤ c) :
    Ren A base g n c rs (k + 1) (((((w.setCell ⟨g, k * 5, none⟩ (.int .i64 ((k : Int) + 1))).setCell ⟨g, k * 5 + 1, none⟩ (.int .i64 rs[k].k.lb)).setCell ⟨g, k * 5 + 2, none⟩ (.int .i64 rs[k].k.sz)).setCell ⟨g, k * 5 + 3, none⟩ (.int .i64 rs[k].k.us)).setCell ⟨g, k * 5 + 4, none⟩ (.bool rs[k].lk)) := by
  obtain ⟨cur, h1, h2, h3⟩ := h.cur
  have s1 := heap_set_row (k := k * 5) h1 (.int .i64 ((k : Int) + 1))
  have s2 := heap_set_row (k := k * 5 + 1) s1 (.int .i64 rs[k].k.lb)
  have s3 := heap_set_row (k := k * 5 + 2) s2 (.int .i64 rs[k].k.sz)
  have s4 := heap_set_row (k := k * 5 + 3) s3 (.int .i64 rs[k].k.us)
  have s5 := heap_set_row (k := k * 5 + 4) s4 (.bool rs[k].lk)
  refine ⟨?_, _, s5, by simpa using h2, fun j hj t ht => ?_⟩
  · exact ⟨h.bel.os, h.bel.tape, h.bel.output, by simpa [World.setCell] using h.bel.size, fun x hx => by
      rw [heap_other _ _ (by omega), heap_other _ _ (by omega), heap_other _ _ (by omega), heap_other _ _ (by omega), heap_other _ _ (by omega)]
      exact h.bel.block x hx⟩
  · have hkc : k * 5 + 5 ≤ cur.size := by rw [h2]; have : (k + 1) * 5 ≤ c * 5 := Nat.mul_le_mul_right _ (by omega); omega
    by_cases e : j = k
    · subst e
      rw [if_pos (by omega)]
      have ht5 : t = 0 ∨ t = 1 ∨ t = 2 ∨ t = 3 ∨ t = 4 := by omega
      rcases ht5 with rfl | rfl | rfl | rfl | rfl <;>
        (simp only [Array.getElem?_setIfInBounds, Array.size_setIfInBounds, rec5]
         simp
         try omega)
    · have hne : ∀ u, u < 5 → k * 5 + u ≠ j * 5 + t := fun u hu => by omega
      rw [Array.getElem?_setIfInBounds_ne (hne 4 (by decide)), Array.getElem?_setIfInBounds_ne (hne 3 (by decide)), Array.getElem?_setIfInBounds_ne (hne 2 (by decide)), Array.getElem?_setIfInBounds_ne (hne 1 (by decide)), Array.getElem?_setIfInBounds_ne (show k * 5 ≠ j * 5 + t by omega), h3 j hj t ht]
      by_cases e2 : j < k
      · rw [if_pos e2, if_pos (by omega)]
      · rw [if_neg e2, if_neg (by omega)]
end Go.Proofs.Ytekkbpaelojmeaa
