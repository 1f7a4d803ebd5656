/- The document's order; rows that grow by a part of another. -/
import Derived.Test.YtekkbpaelojmeaaLv
import Derived.Test.YtekkbpaelojmeaaRdR
namespace Go.Proofs.Ytekkbpaelojmeaa
open Go.RowKit Go.Maps
set_option linter.unusedVariables false
set_option linter.unusedSimpArgs false
set_option maxRecDepth 100000

set_option maxHeartbeats 2000000 in
theorem before21 (x y : Rc) (W : World) : Calls Try.prog 21 #[.agg (rec5 x).toArray, .agg (rec5 y).toArray] W fun e w' => e = .returned (.bool (bef x.k y.k)) ∧ Below W.heap.size W w' := by
  have HB2 := hid (box_below W (.cells (rec5 x).toArray 31) (below_box _ (.cells (rec5 y).toArray 31)))
  obtain ⟨⟨xi, xl, xs, xu⟩, xk⟩ := x
  obtain ⟨⟨yi, yl, ys, yu⟩, yk⟩ := y
  dsimp only [rec5] at *
  have HE := hid (show bef ⟨xi, xl, xs, xu⟩ ⟨yi, yl, ys, yu⟩ = if xl ≠ yl then decide (yl < xl) else if xs ≠ ys then decide (ys < xs) else if xu ≠ yu then decide (xu < yu) else decide (xi < yi) from rfl)
  generalize bef ⟨xi, xl, xs, xu⟩ ⟨yi, yl, ys, yu⟩ = m at *
  by_cases h1 : xl = yl
  · by_cases h2 : xs = ys
    · by_cases h3 : xu = yu
      · have HF := hid (show m = decide (xi < yi) by rw [HE.out]; simp [h1, h2, h3])
        have n1 : (xl != yl) = false := by simp [h1]
        have n2 : (xs != ys) = false := by simp [h2]
        have n3 : (xu != yu) = false := by simp [h3]
        clear HE h1 h2 h3
        go_enter Try.func21, Try.ntmps21
        go_wp2
        go_ret
        exact ⟨ret_bool HF.out.symm, HB2.out⟩
      · have HF := hid (show m = decide (xu < yu) by rw [HE.out]; simp [h1, h2, h3])
        have n1 : (xl != yl) = false := by simp [h1]
        have n2 : (xs != ys) = false := by simp [h2]
        have n3 : (xu != yu) = true := by simp [h3]
        clear HE h1 h2 h3
        go_enter Try.func21, Try.ntmps21
        go_wp2
        go_ret
        exact ⟨ret_bool HF.out.symm, HB2.out⟩
    · have HF := hid (show m = decide (ys < xs) by rw [HE.out]; simp [h1, h2])
      have n1 : (xl != yl) = false := by simp [h1]
      have n2 : (xs != ys) = true := by simp [h2]
      clear HE h1 h2
      go_enter Try.func21, Try.ntmps21
      go_wp2
      go_ret
      exact ⟨ret_bool HF.out.symm, HB2.out⟩
  · have HF := hid (show m = decide (yl < xl) by rw [HE.out]; simp [h1])
    have n1 : (xl != yl) = true := by simp [h1]
    clear HE h1
    go_enter Try.func21, Try.ntmps21
    go_wp2
    go_ret
    exact ⟨ret_bool HF.out.symm, HB2.out⟩
/-- Records to be appended. -/
def Src5 (W : World) (o : Option Addr) (m : Nat) (K : List Rc) : Prop := K.length = m ∧ ∃ g off, o = some ⟨g, off, none⟩ ∧ ∀ j, j < m * 5 → ∀ u, (flat K)[j]? = some u → W.cell? ⟨g, off + j, none⟩ = some u
theorem flat_one (K : List Rc) : ∀ u ∈ flat K, u.oneCell' = true := by
  intro u hu
  obtain ⟨r, _, hr⟩ := List.mem_flatMap.1 hu
  exact one5 r u hr
theorem appR {W : World} {base k : Nat} {v : Value} {L K : List Rc} {o : Option Addr} {m c : Nat} (h : W.ownsRow base 31 5 v k (flat L)) (hb : base ≤ W.heap.size) (hs : Src5 W o m K) (hk : k + m ≤ 10000000) :
    ∃ o' c' X, (Builtin.append_ #[24, 24] 24 #[v, .slice o m c]).run Try.prog W = .ok (.slice o' (k + m) c') X ∧ X.ownsRow base 31 5 (.slice o' (k + m) c') (k + m) (flat (L ++ K)) ∧ Below base W X := by
  obtain ⟨hK, g, off, rfl, hc⟩ := hs
  obtain ⟨i0, hi, hz⟩ := Option.map_eq_some_iff.1 info31
  simp only [Prod.mk.injEq] at hz
  obtain ⟨v', X, hr, h2, h3, _, _⟩ := run_append_own_at (P := Try.prog) W base 24 24 31 i0 _ 5 40 Try.underlying24 hi hz.1 hz.2.1 hz.2.2 rfl (by decide) v k _ h ⟨g, off, none⟩ m c (flat K) (by rw [flat_len, hK]) (fun j u hu => by
    have hj : j < m * 5 := by
      rcases Nat.lt_or_ge j (m * 5) with h' | h'
      · exact h'
      · rw [List.getElem?_eq_none (by rw [flat_len, hK]; omega)] at hu; cases hu
    rw [show (⟨g, off, none⟩ : Addr).add j = ⟨g, off + j, none⟩ from Go.WideShapes.add_plain _ _ _]
    exact hc j hj u hu) (flat_one K) (by unfold maxLen; omega) (by omega) hb
  obtain ⟨o', c', rfl⟩ := own_slc h2
  refine ⟨o', c', X, hr, by rw [flat_append]; exact h2, below_grown (Below.refl _ _) h3 (fun q hq => (own_blk h hq).1) hb⟩
theorem own_src {W : World} {base n g c : Nat} {L : List Rc} (h : W.ownsRow base 31 5 (.slice (some ⟨g, 0, none⟩) n c) n (flat L)) (hn : L.length = n) {k : Nat} (hk : k ≤ n) : Src5 W (some ⟨g, 0, none⟩) k (L.take k) ∧ (∀ off, off = k * 5 ∨ k = n → Src5 W (some ⟨g, off, none⟩) (n - k) (L.drop k)) := by
  rcases h.2 with ⟨e1, h0⟩ | ⟨g', c', cur, e1, h1, h2, h3, h4, h5, h6⟩
  · cases e1
  · cases e1
    have hcell : ∀ j, j < n * 5 → ∀ u, (flat L)[j]? = some u → W.cell? ⟨g, j, none⟩ = some u := fun j hj u hu => by
      rw [← h6, List.getElem?_take_of_lt hj, Array.getElem?_toList] at hu
      rw [row_cell h2, hu]
    have hsp : flat L = flat (L.take k) ++ flat (L.drop k) := by rw [← flat_append, List.take_append_drop]
    have hl1 : (flat (L.take k)).length = k * 5 := by rw [flat_len]; simp; omega
    refine ⟨⟨by simp; omega, g, 0, rfl, fun j hj u hu => ?_⟩, fun off ho => ⟨by simp; omega, g, off, rfl, fun j hj u hu => ?_⟩⟩
    · rw [Nat.zero_add]
      exact hcell j (by omega) u (by rw [hsp, List.getElem?_append_left (by omega)]; exact hu)
    · rcases ho with rfl | rfl
      · exact hcell (k * 5 + j) (by omega) u (by rw [hsp, List.getElem?_append_right (by omega), hl1, show k * 5 + j - k * 5 = j by omega]; exact hu)
      · simp at hj
theorem Src5.below {W W' : World} {o : Option Addr} {m : Nat} {K : List Rc} (h : Src5 W o m K) (hb : Below W.heap.size W W') : Src5 W' o m K := by
  obtain ⟨h1, g, off, e, h2⟩ := h
  exact ⟨h1, g, off, e, fun j hj u hu => (hb.cell (p := ⟨g, off + j, none⟩) (cell_lt (h2 j hj u hu))).trans (h2 j hj u hu)⟩
theorem app_nn (W : World) : (Builtin.append_ #[24, 24] 24 #[.slice none 0 0, .slice none 0 0]).run Try.prog W = .ok (.slice none 0 0) W := by kernel_rfl
theorem app_sn (W : World) (g n c : Nat) (hnc : n ≤ c) : (Builtin.append_ #[24, 24] 24 #[.slice (some ⟨g, 0, none⟩) n c, .slice none 0 0]).run Try.prog W = .ok (.slice (some ⟨g, 0, none⟩) n c) W := by
  obtain ⟨i0, hi, hz⟩ := Option.map_eq_some_iff.1 info31
  simp only [Prod.mk.injEq] at hz
  simp [Builtin.append_, run_underlying Try.underlying24, sizeOf, typeInfo, hi, Builtin.firstCells, loadCells, Builtin.lenOf, hnc, storeCells]
end Go.Proofs.Ytekkbpaelojmeaa
