/- Steps: how many. -/
import Derived.Test.YthpebfojkpnojaaEtr
import Derived.Deep.RegionHeld3
namespace Bas
theorem steps_len : ∀ (rs : List Rl) (l : Int), (stepsOf l rs).length = (rs.filter (fun r => r.kind != 2)).length
  | [], l => rfl
  | r :: rs, l => by
    rw [stepsOf]
    by_cases h1 : r.kind = 1
    · have h2 : (r.kind != 2) = true := by simp [h1]
      rw [if_pos h1, List.filter_cons, if_pos h2, List.length_cons, List.length_cons, steps_len rs r.id]
    · by_cases h2 : r.kind = 2
      · have h3 : ¬ (r.kind != 2) = true := by simp [h2]
        rw [if_neg h1, if_pos h2, List.filter_cons, if_neg h3, steps_len rs l]
      · have h3 : (r.kind != 2) = true := by simp [h2]
        rw [if_neg h1, if_neg h2, List.filter_cons, if_pos h3, List.length_cons, List.length_cons, steps_len rs l]
def cnt (rs : List Rl) (k : Nat) : Nat := ((rs.take k).filter (fun r => r.kind != 2)).length
theorem cnt_zero (rs : List Rl) : cnt rs 0 = 0 := by simp [cnt]
theorem cnt_succ (rs : List Rl) (k : Nat) (h : k < rs.length) : cnt rs (k + 1) = cnt rs k + (if rs[k].kind = 2 then 0 else 1) := by
  unfold cnt
  rw [List.take_succ_eq_append_getElem h, List.filter_append, List.length_append]
  congr 1
  by_cases h2 : rs[k].kind = 2
  · rw [if_pos h2]; simp [h2]
  · rw [if_neg h2]; simp [h2]
theorem cnt_all (rs : List Rl) (l : Int) : cnt rs rs.length = (stepsOf l rs).length := by
  unfold cnt; rw [List.take_length, steps_len]
theorem cnt_le (rs : List Rl) (k : Nat) : cnt rs k ≤ k := by
  unfold cnt
  exact Nat.le_trans (List.length_filter_le _ _) (by rw [List.length_take]; omega)
end Bas
namespace Go.Proofs.Ythpebfojkpnojaa
open Go.RowKit Go.Maps
set_option linter.unusedVariables false
set_option linter.unusedSimpArgs false
set_option maxRecDepth 100000
theorem info94 : (Try.prog.info? 94).map (fun i => (i.zero, i.size, i.bytes)) = some (some (.agg #[.int .u8 0, .int .i64 0, .slice none 0 0, .slice none 0 0]), 4, 64) := by kernel_rfl
/-- A step more, behind a row of one's own. -/
theorem push94 {W : World} {base : Nat} {v : Value} {k : Nat} {xs : List Value} (ho : W.ownsRow base 94 4 v k xs) (q i : Int) (o : Option Addr) (n c : Nat) (o2 : Option Addr) (n2 c2 : Nat) (hb : base ≤ W.heap.size) (hk : k ≤ 1000000000) :
    ∃ g c1 B, (Builtin.append_ #[46, 46] 46 #[v, .slice (some ⟨W.heap.size, 0, none⟩) 1 1]).run Try.prog (W.alloc (.cells #[.int .u8 q, .int .i64 i, .slice o n c, .slice o2 n2 c2] 94)) = .ok (.slice (some ⟨g, 0, none⟩) (k + 1) c1) B ∧ B.ownsRow base 94 4 (.slice (some ⟨g, 0, none⟩) (k + 1) c1) (k + 1) (xs ++ [.int .u8 q, .int .i64 i, .slice o n c, .slice o2 n2 c2]) ∧
      (W.alloc (.cells #[.int .u8 q, .int .i64 i, .slice o n c, .slice o2 n2 c2] 94)).grownBy B v.ownBlock ∧ (v.ownBlock = some g ∨ g = W.heap.size + 1) := by
  obtain ⟨i0, hi0, hz⟩ := Option.map_eq_some_iff.1 info94
  simp only [Prod.mk.injEq] at hz
  obtain ⟨g, c1, B, hr, h2, h3, h5, _⟩ := run_append_lies (P := Try.prog) (W.alloc (.cells #[.int .u8 q, .int .i64 i, .slice o n c, .slice o2 n2 c2] 94)) 46 46 base 94 i0 _ 4 64 Try.underlying46 hi0 hz.1 hz.2.1 hz.2.2 rfl (by decide) v k _ (ho.alloc _) ⟨W.heap.size, 0, none⟩ 1 1 [.int .u8 q, .int .i64 i, .slice o n c, .slice o2 n2 c2] rfl (World.news_of_block (heap_alloc_new W (.cells #[.int .u8 q, .int .i64 i, .slice o n c, .slice o2 n2 c2] 94))) (by intro u hu; simp at hu; rcases hu with rfl | rfl | rfl | rfl <;> rfl) (by decide) (by unfold maxLen; omega) (by omega) (by simp; omega) _ rfl
  exact ⟨g, c1, B, hr, h2, h3, by simpa using h5⟩
theorem flat6_at {R : List RlM} : ∀ {j : Nat} (hj : j < R.length) {t : Nat} (ht : t < 6), (R.flatMap rlv)[j * 6 + t]? = (rlv R[j])[t]? := by
  induction R with
  | nil => intro j hj; simp at hj
  | cons r R ih =>
    intro j hj t ht
    rw [List.flatMap_cons]
    cases j with
    | zero => rw [List.getElem?_append_left (by simp [rlv, ruleV]; omega), Nat.zero_mul, Nat.zero_add]; rfl
    | succ j =>
      rw [List.getElem?_append_right (by simp [rlv, ruleV]; omega), show (j + 1) * 6 + t - (rlv r).length = j * 6 + t by simp [rlv, ruleV]; omega, ih (by simp at hj; omega) ht]
      rfl
/-- The rules as they lie. -/
theorem Bs.rulesAt {M : Nat → Prop} {bb K : Nat} {s : Bas.S} {W : World} (h : Bs M bb K s W) : ∃ ro rc, W.cell? ⟨bb, 5, none⟩ = some (.slice ro s.rules.length rc) ∧ ∀ k (hk : k < s.rules.length), ∃ g a c a2 c2, ro = some ⟨g, 0, none⟩ ∧ W.cell? ⟨g, k * 6, none⟩ = some (.int .u8 s.rules[k].kind) ∧ W.cell? ⟨g, k * 6 + 1, none⟩ = some (.int .i64 s.rules[k].id) ∧ W.cell? ⟨g, k * 6 + 2, none⟩ = some (.int .i64 s.rules[k].by_) ∧ W.cell? ⟨g, k * 6 + 3, none⟩ = some (.bool s.rules[k].red) ∧ W.cell? ⟨g, k * 6 + 4, none⟩ = some (.slice a s.rules[k].lits.length c) ∧ W.cell? ⟨g, k * 6 + 5, none⟩ = some (.slice a2 s.rules[k].hints.length c2) ∧ Lits W a s.rules[k].lits ∧ Hnts W a2 s.rules[k].hints := by
  obtain ⟨hv, bm, br, k, k2, f, g, rv, sv, tv, R, Z, rw', ids, iv, hb, m1, m2, m3, hne, _, _, ⟨⟨c1, _⟩, c2, c3⟩, _⟩ := h
  have hRl : R.length = s.rules.length := by rw [← c2]; simp
  obtain ⟨ro, rc, rfl⟩ := own_slc c1
  have x5 := row_cell hb 5
  rw [show (#[Value.int .i64 s.vars, .int .i64 s.form, .int .i64 s.last, .map (some bm), .map (some br), .slice ro R.length rc, .int .i64 (Bas.nsteps s : Nat), sv, tv])[5]? = some (Value.slice ro R.length rc) from rfl, hRl] at x5
  refine ⟨ro, rc, x5, fun j hj => ?_⟩
  have hjR : j < R.length := by omega
  rcases c1.2 with ⟨_, h0⟩ | ⟨gr, c', cur, e1, _, hg, _, _, _, h7⟩
  · omega
  · cases e1
    have hr : s.rules[j] = R[j].1 := by simp only [← c2, List.getElem_map]
    obtain ⟨q1, q2⟩ := c3 R[j] (List.getElem_mem hjR)
    rw [hr]
    have hc : ∀ t v, t < 6 → (rlv R[j])[t]? = some v → W.cell? ⟨gr, j * 6 + t, none⟩ = some v := fun t v ht hv => by
      have := flat6_at hjR ht
      rw [hv, ← h7, List.getElem?_take_of_lt (by omega), Array.getElem?_toList] at this
      rw [row_cell hg, this]
    exact ⟨gr, _, _, _, _, rfl, hc 0 _ (by omega) rfl, hc 1 _ (by omega) rfl, hc 2 _ (by omega) rfl, hc 3 _ (by omega) rfl, hc 4 _ (by omega) rfl, hc 5 _ (by omega) rfl, q1.1, q2.1⟩
theorem Bs.formc {M : Nat → Prop} {bb K : Nat} {s : Bas.S} {W : World} (h : Bs M bb K s W) : W.cell? ⟨bb, 1, none⟩ = some (.int .i64 s.form) ∧ W.cell? ⟨bb, 6, none⟩ = some (.int .i64 (Bas.nsteps s : Nat)) := by
  obtain ⟨hv, bm, br, k, k2, f, g, rv, sv, tv, R, Z, rw', ids, iv, hb, _⟩ := h
  exact ⟨row_cell hb 1, row_cell hb 6⟩
end Go.Proofs.Ythpebfojkpnojaa
