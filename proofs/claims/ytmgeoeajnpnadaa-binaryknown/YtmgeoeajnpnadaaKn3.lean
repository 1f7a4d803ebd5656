/- The examples' bytes, as they are put together. -/
import Derived.Test.YtmgeoeajnpnadaaKn2
namespace Go.Proofs.Ytmgeoeajnpnadaa
open Go.RowKit
set_option linter.unusedVariables false
set_option linter.unusedSimpArgs false
set_option maxRecDepth 100000

/-- A row of bytes that is one's own. -/
theorem own_lit (W : World) (base g : Nat) (xs : List Int) (hb : base ≤ g) (hl : xs.length ≤ 1000000) (h : W.heap[g]? = some (.cells (xs.map (Value.int .u8)).toArray 5 (0, 0))) : W.ownsRow base 5 1 (.slice (some ⟨g, 0, none⟩) xs.length xs.length) xs.length (xs.map (Value.int .u8)) :=
  ⟨by simp, .inr ⟨g, xs.length, (xs.map (Value.int .u8)).toArray, rfl, hb, h, Nat.le_refl _, by unfold maxLen; omega, by simp, by simp [List.take_of_length_le]⟩⟩
theorem src_lit {W : World} {g : Nat} {xs : List Int} (h : W.heap[g]? = some (.cells (xs.map (Value.int .u8)).toArray 5 (0, 0))) : ∀ j, j < xs.length → W.cell? ⟨g, 0 + j, none⟩ = some (.int .u8 (xs.getD j 0)) := fun j hj => by
  rw [row_cell h, Nat.zero_add]
  simp [List.getD, List.getElem?_eq_getElem hj]
/-- Bytes put behind others that are one's own. -/
theorem more_lit {base m k : Nat} {W : World} {o : Option Addr} {c : Nat} {xs ys : List Int} (hm : xs.length = m) (hk : ys.length = k) (h : W.ownsRow base 5 1 (.slice o m c) m (xs.map (Value.int .u8))) (g cc : Nat) (hg : W.heap[g]? = some (.cells (ys.map (Value.int .u8)).toArray 5 (0, 0))) (hl : m + k ≤ 1000) (hb : base ≤ W.heap.size) (hk0 : 0 < k) :
    ∃ o' c' B, (Builtin.append_ #[26, 26] 26 #[.slice o m c, .slice (some ⟨g, 0, none⟩) k cc]).run Try.prog W = .ok (.slice o' (m + k) c') B ∧ B.ownsRow base 5 1 (.slice o' (m + k) c') (m + k) ((xs ++ ys).map (Value.int .u8)) ∧ Below base W B := by
  subst hk
  obtain ⟨o', c', B, hr, ho, hkeep, hsz, h1, h2, h3⟩ := pushes hm rfl h g 0 cc (src_lit hg) (by omega) hb (Array.getElem?_eq_some_iff.1 hg).1 hk0
  exact ⟨o', c', B, hr, ho, h1, h2, h3, hsz, fun q hq => hkeep q (by omega) (fun e => by have := (h.lt q e).1; omega)⟩
theorem wantRow (W : World) : ∃ (o1 : Option Addr) (c1 : Nat) (B1 : World) (o2 : Option Addr) (c2 : Nat) (B2 : World) (o3 : Option Addr) (c3 : Nat) (B3 : World) (o4 : Option Addr) (c4 : Nat) (B4 : World),
    (Builtin.append_ #[26, 26] 26 #[.slice (some ⟨W.heap.size + 1, 0, none⟩) 11 11, .slice (some ⟨W.heap.size, 0, none⟩) 9 9]).run Try.prog ((W.alloc (.cells #[.int .u8 254, .int .u8 255, .int .u8 255, .int .u8 255, .int .u8 255, .int .u8 255, .int .u8 255, .int .u8 255, .int .u8 127] 5)).alloc (.cells #[.int .u8 100, .int .u8 128, .int .u8 1, .int .u8 6, .int .u8 0, .int .u8 97, .int .u8 2, .int .u8 0, .int .u8 3, .int .u8 0, .int .u8 97] 5)) = .ok (.slice o1 20 c1) B1 ∧
    (Builtin.append_ #[26, 26] 26 #[.slice o1 20 c1, .slice (some ⟨B1.heap.size, 0, none⟩) 9 9]).run Try.prog (B1.alloc (.cells #[.int .u8 128, .int .u8 128, .int .u8 128, .int .u8 1, .int .u8 129, .int .u8 128, .int .u8 128, .int .u8 1, .int .u8 0] 5)) = .ok (.slice o2 29 c2) B2 ∧
    (Builtin.append_ #[26, 26] 26 #[.slice o2 29 c2, .slice (some ⟨W.heap.size, 0, none⟩) 9 9]).run Try.prog B2 = .ok (.slice o3 38 c3) B3 ∧
    (Builtin.append_ #[26, 26] 26 #[.slice o3 38 c3, .slice (some ⟨B3.heap.size, 0, none⟩) 13 13]).run Try.prog (B3.alloc (.cells #[.int .u8 255, .int .u8 255, .int .u8 255, .int .u8 255, .int .u8 255, .int .u8 255, .int .u8 255, .int .u8 255, .int .u8 127, .int .u8 0, .int .u8 100, .int .u8 0, .int .u8 0] 5)) = .ok (.slice o4 51 c4) B4 ∧
    Bts B4 o4 Bin.goodT ∧ 51 ≤ c4 ∧ c4 ≤ 9223372036854775807 ∧ Below W.heap.size W B4 := by
  obtain ⟨W1, hW1⟩ : ∃ W1, W.alloc (.cells (Bin.g2.map (Value.int .u8)).toArray 5) = W1 := ⟨_, rfl⟩
  obtain ⟨W2, hW2⟩ : ∃ W2, W1.alloc (.cells (Bin.g1.map (Value.int .u8)).toArray 5) = W2 := ⟨_, rfl⟩
  have hs1 : W1.heap.size = W.heap.size + 1 := by rw [← hW1]; simp
  have hb1 : Below W.heap.size W W1 := by rw [← hW1]; exact below_box _ _
  have hb2 : Below W1.heap.size W1 W2 := by rw [← hW2]; exact below_box _ _
  have ht1 : W1.heap[W.heap.size]? = some (.cells (Bin.g2.map (Value.int .u8)).toArray 5 (0, 0)) := by rw [← hW1]; exact heap_alloc_new _ _
  have ht2 : W2.heap[W.heap.size]? = some (.cells (Bin.g2.map (Value.int .u8)).toArray 5 (0, 0)) := (hb2.block _ (by omega)).trans ht1
  have hw2 : W2.heap[W.heap.size + 1]? = some (.cells (Bin.g1.map (Value.int .u8)).toArray 5 (0, 0)) := by rw [← hs1, ← hW2]; exact heap_alloc_new _ _
  have hs2 : W2.heap.size = W.heap.size + 2 := by rw [← hW2]; simp [hs1]
  obtain ⟨o1, c1, B1, r1, q1, l1⟩ := more_lit (base := W.heap.size + 1) (m := 11) (k := 9) rfl rfl (own_lit W2 (W.heap.size + 1) (W.heap.size + 1) Bin.g1 (Nat.le_refl _) (by decide) hw2) W.heap.size 9 ht2 (by omega) (by omega) (by omega)
  obtain ⟨V1, hV1⟩ : ∃ V1, B1.alloc (.cells (Bin.g3.map (Value.int .u8)).toArray 5) = V1 := ⟨_, rfl⟩
  have hv1 : Below B1.heap.size B1 V1 := by rw [← hV1]; exact below_box _ _
  have hn1 : V1.heap[B1.heap.size]? = some (.cells (Bin.g3.map (Value.int .u8)).toArray 5 (0, 0)) := by rw [← hV1]; exact heap_alloc_new _ _
  have z1 := l1.size
  have zz1 := hv1.size
  obtain ⟨o2, c2, B2, r2, q2, l2⟩ := more_lit (base := W.heap.size + 1) (m := 20) (k := 9) rfl rfl (own_below q1 hv1) B1.heap.size 9 hn1 (by omega) (by omega) (by omega)
  have z2 := l2.size
  have l12 : Below (W.heap.size + 1) W2 B2 := (l1.trans (hv1.mono (by omega))).trans l2
  obtain ⟨o3, c3, B3, r3, q3, l3⟩ := more_lit (base := W.heap.size + 1) (m := 29) (k := 9) rfl rfl q2 W.heap.size 9 ((l12.block _ (by omega)).trans ht2) (by omega) (by omega) (by omega)
  have z3 := l3.size
  obtain ⟨V3, hV3⟩ : ∃ V3, B3.alloc (.cells (Bin.g4.map (Value.int .u8)).toArray 5) = V3 := ⟨_, rfl⟩
  have hv3 : Below B3.heap.size B3 V3 := by rw [← hV3]; exact below_box _ _
  have zz3 := hv3.size
  have hn3 : V3.heap[B3.heap.size]? = some (.cells (Bin.g4.map (Value.int .u8)).toArray 5 (0, 0)) := by rw [← hV3]; exact heap_alloc_new _ _
  obtain ⟨o4, c4, B4, r4, q4, l4⟩ := more_lit (base := W.heap.size + 1) (m := 38) (k := 13) rfl rfl (own_below q3 hv3) B3.heap.size 13 hn3 (by omega) (by omega) (by omega)
  rw [← hW2, ← hW1] at r1
  rw [← hV1] at r2
  rw [← hV3] at r4
  have l14 : Below (W.heap.size + 1) W2 B4 := ((l12.trans l3).trans (hv3.mono (by omega))).trans l4
  refine ⟨o1, c1, B1, o2, c2, B2, o3, c3, B3, o4, c4, B4, r1, r2, r3, r4, ?_, ?_, ?_, ?_⟩
  · exact own_row (xs := Bin.goodT) q4 (by decide)
  · rcases q4.2 with ⟨_, h0⟩ | ⟨g, cap, cur, e, _, _, h3, _⟩
    · cases h0
    · cases e; exact h3
  · rcases q4.2 with ⟨_, h0⟩ | ⟨g, cap, cur, e, _, _, _, h3, _⟩
    · cases h0
    · cases e; unfold maxLen at h3; omega
  · exact (hb1.trans (hb2.mono (by omega))).trans (l14.mono (by omega))
end Go.Proofs.Ytmgeoeajnpnadaa
