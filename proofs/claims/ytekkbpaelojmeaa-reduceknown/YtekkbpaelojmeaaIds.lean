/- Ids: laid out, and compared. -/
import Derived.Test.YtekkbpaelojmeaaLv
namespace Go.Proofs.Ytekkbpaelojmeaa
open Go.RowKit Go.Maps
set_option linter.unusedVariables false
set_option linter.unusedSimpArgs false
set_option maxRecDepth 100000

/-- Ids in a row that is read. -/
def Ids (W : World) (a : Option Addr) (xs : List Int) : Prop :=
  xs = [] ∨ ∃ b off, a = some ⟨b, off, none⟩ ∧ b < W.heap.size ∧ ∀ j, j < xs.length → W.cell? ⟨b, off + j, none⟩ = some (.int .i64 (xs.getD j 0))
theorem Ids.below {W W' : World} {a : Option Addr} {xs : List Int} (h : Ids W a xs) (hb : Below W.heap.size W W') : Ids W' a xs := by
  rcases h with h | ⟨b, off, e, hl, hc⟩
  · exact .inl h
  · exact .inr ⟨b, off, e, Nat.lt_of_lt_of_le hl hb.size, fun j hj => (hb.cell (p := ⟨b, off + j, none⟩) hl).trans (hc j hj)⟩
theorem Ids.shape {w : World} {a : Option Addr} {xs : List Int} (h : Ids w a xs) : xs.length = 0 ∨ ∃ b off, a = some ⟨b, off, none⟩ := by
  rcases h with h' | ⟨b, off, e, _⟩
  · left; rw [h']; rfl
  · exact .inr ⟨b, off, e⟩
theorem Ids.at {W : World} {b off : Nat} {xs : List Int} (h : Ids W (some ⟨b, off, none⟩) xs) {j : Nat} (hj : j < xs.length) : W.cell? ⟨b, off + j, none⟩ = some (.int .i64 (xs.getD j 0)) := by
  rcases h with h | ⟨b', off', e, hl, hc⟩
  · rw [h] at hj; simp at hj
  · cases e; exact hc j hj
theorem own_ids {W : World} {base n : Nat} {a : Option Addr} {c : Nat} {xs : List Int} (h : W.ownsRow base 2 1 (.slice a n c) n (xs.map (Value.int .i64))) (hn : xs.length = n) : Ids W a xs := by
  rcases Nat.eq_zero_or_pos n with h0 | hp
  · left; subst h0; exact List.eq_nil_of_length_eq_zero hn
  · obtain ⟨g, c', cur, e1, h1, h2, h3, h4, h5, h6⟩ := own_some h hp
    cases e1
    refine .inr ⟨g, 0, rfl, lt_of_blk h2, fun j hj => ?_⟩
    have : (cur.toList.take n)[j]? = (xs.map (Value.int .i64))[j]? := by rw [h6]
    rw [List.getElem?_take_of_lt (by omega), Array.getElem?_toList, List.getElem?_map, List.getElem?_eq_getElem hj] at this
    rw [Nat.zero_add, row_cell h2, this, List.getD_eq_getElem?_getD, List.getElem?_eq_getElem hj]
    rfl
set_option maxHeartbeats 2000000 in
/-- Two rows that are alike. -/
theorem same12 {w : World} {a b : Option Addr} {n c1 c2 : Nat} {xs : List Int} (hA : Ids w a xs) (hB : Ids w b xs) (hn : xs.length = n) (hN : n ≤ 35184372088832) :
    Calls Try.prog 12 #[.slice a n c1, .slice b n c2] w fun e w' => e = .returned (.bool true) ∧ Below w.heap.size w w' := by
  have hsa : n = 0 ∨ ∃ b off, a = some ⟨b, off, none⟩ := by rw [← hn]; exact hA.shape
  have hsb : n = 0 ∨ ∃ b' off, b = some ⟨b', off, none⟩ := by rw [← hn]; exact hB.shape
  have HA := hid (fun w' (h : Below w.heap.size w w') => hA.below h)
  have HB := hid (fun w' (h : Below w.heap.size w w') => hB.below h)
  have HN := hid hn
  clear hA hB hn
  rcases hsa with h0 | ⟨ba, oa, rfl⟩
  · subst h0
    clear hsb
    go_enter Try.func12, Try.ntmps12
    go_wp2
    go_loopw [5] (fun i wr => i = .int .i64 0 ∧ wr = w) (fun _ _ => 0)
    case atStart => exact ⟨rfl, rfl⟩
    case round =>
      obtain ⟨rfl, hw⟩ := hrel
      rw [hw]
      clear hw
      go_wp2
      go_ret
      exact ⟨rfl, Below.refl _ _⟩
  · rcases hsb with h0 | ⟨bb, ob, rfl⟩
    · subst h0
      go_enter Try.func12, Try.ntmps12
      go_wp2
      go_loopw [5] (fun i wr => i = .int .i64 0 ∧ wr = w) (fun _ _ => 0)
      case atStart => exact ⟨rfl, rfl⟩
      case round =>
        obtain ⟨rfl, hw⟩ := hrel
        rw [hw]
        clear hw
        go_wp2
        go_ret
        exact ⟨rfl, Below.refl _ _⟩
    · go_enter Try.func12, Try.ntmps12
      go_wp2
      go_loopw [5] (fun i wr => ∃ k : Nat, k ≤ n ∧ i = .int .i64 k ∧ Hid (Below w.heap.size w wr)) (fun i _ => n - (intOf i).toNat)
      case atStart => exact ⟨0, Nat.zero_le _, rfl, hid (Below.refl _ _)⟩
      case round =>
        obtain ⟨k, hk, rfl, HW⟩ := hrel
        by_cases hlt : k < n
        · have hlt' : (k : Int) < n := by omega
          have hc1 := (HA.out _ HW.out).at (j := k) (by rw [HN.out]; exact hlt)
          have hc2 := (HB.out _ HW.out).at (j := k) (by rw [HN.out]; exact hlt)
          generalize xs.getD k 0 = xv at *
          go_wp2
          go_region
          go_wp2
          go_roundw
          case rel => exact ⟨k + 1, by omega, by go_num, hid HW.out.drew⟩
          case measure => simp [intOf]; omega
        · have hge : ¬ (k : Int) < n := by omega
          go_wp2
          go_ret
          exact ⟨rfl, HW.out⟩
end Go.Proofs.Ytekkbpaelojmeaa
