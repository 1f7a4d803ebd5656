/- ids: the ids of records, laid out. -/
import Derived.Test.YtekkbpaelojmeaaIds
import Derived.Maps.OwnSet
namespace Go.Proofs.Ytekkbpaelojmeaa
open Go.RowKit Go.Maps
set_option linter.unusedVariables false
set_option linter.unusedSimpArgs false
set_option maxRecDepth 100000
def IdsOut (base : Nat) (xs : List Int) (e : Ending) (w' : World) : Prop := ∃ o, e = .returned (.slice o xs.length xs.length) ∧ w'.ownsRow base 2 1 (.slice o xs.length xs.length) xs.length (xs.map (Value.int .i64))
/-- The row while it is filled: its first k cells are told. -/
structure Fill (W : World) (gm n : Nat) (xs : List Int) (k : Nat) (wr : World) : Prop where
  bel : Below W.heap.size W wr
  cur : ∃ cur : Array Value, wr.heap[gm]? = some (.cells cur 2 (0, 0)) ∧ cur.size = n ∧ ∀ j, j < k → cur[j]? = some (.int .i64 (xs.getD j 0))
theorem Fill.start {W : World} {gm n : Nat} (hg : gm = W.heap.size) (xs : List Int) : Fill W gm n xs 0 (W.alloc (.cells (madeCells #[.int .i64 0] n) 2)) := by
  subst hg
  exact ⟨below_box W _, _, heap_alloc_new W _, by rw [size_madeCells], fun j hj => absurd hj (Nat.not_lt_zero _)⟩
theorem Fill.cell {W : World} {gm n k : Nat} {xs : List Int} {wr : World} (h : Fill W gm n xs k wr) (hk : k < n) (o : Obj) : (∃ u, (wr.alloc o).cell? ⟨gm, k, none⟩ = some u) ∧ (wr.alloc o).frozen? ⟨gm, k, none⟩ = false := by
  obtain ⟨cur, h1, h2, _⟩ := h.cur
  have h3 : (wr.alloc o).heap[gm]? = some (.cells cur 2 (0, 0)) := ((below_box wr o).block gm (lt_of_blk h1)).trans h1
  exact ⟨⟨cur[k]'(by omega), by rw [row_cell h3, Array.getElem?_eq_getElem (by omega)]⟩, row_frozen h3 k⟩
theorem Fill.step {W : World} {gm n k : Nat} {xs : List Int} {wr : World} (h : Fill W gm n xs k wr) (hg : gm = W.heap.size) (hk : k < n) (o : Obj) : Fill W gm n xs (k + 1) ((wr.alloc o).setCell ⟨gm, k, none⟩ (.int .i64 (xs.getD k 0))) := by
  obtain ⟨cur, h1, h2, h4⟩ := h.cur
  have h3 : (wr.alloc o).heap[gm]? = some (.cells cur 2 (0, 0)) := ((below_box wr o).block gm (lt_of_blk h1)).trans h1
  refine ⟨?_, _, heap_set_row h3 _, by simpa using h2, fun j hj => ?_⟩
  · have hb := h.bel.trans ((below_box wr o).mono h.bel.size)
    exact ⟨hb.os, hb.tape, hb.output, by simpa [World.setCell] using hb.size, fun g hgl => (heap_other _ _ (by omega)).trans (hb.block g hgl)⟩
  · by_cases e : j = k
    · subst e
      rw [Array.getElem?_setIfInBounds_self, if_pos (by omega)]
    · rw [Array.getElem?_setIfInBounds_ne (fun e2 => e e2.symm)]
      exact h4 j (by omega)
theorem Fill.done {W : World} {gm n : Nat} {xs : List Int} {wr : World} (h : Fill W gm n xs n wr) (hg : gm = W.heap.size) (hn : xs.length = n) (hN : n ≤ 100000000) : wr.ownsRow W.heap.size 2 1 (.slice (some ⟨gm, 0, none⟩) n n) n (xs.map (Value.int .i64)) := by
  obtain ⟨cur, h1, h2, h4⟩ := h.cur
  refine own_mk (by omega) h1 (Nat.le_refl _) (by unfold maxLen; omega) h2 ?_
  apply List.ext_getElem?
  intro j
  by_cases hj : j < n
  · rw [List.getElem?_take_of_lt hj, Array.getElem?_toList, h4 j hj, List.getElem?_map, List.getElem?_eq_getElem (by omega), List.getD_eq_getElem?_getD, List.getElem?_eq_getElem (by omega)]
    rfl
  · rw [List.getElem?_eq_none (by simp; omega), List.getElem?_eq_none (by simp; omega)]
set_option maxHeartbeats 4000000 in
theorem ids20 {W : World} {a : Option Addr} {n c : Nat} {rs : List Rc} (hx : Rcs W a rs) (hn : rs.length = n) (hN : n ≤ 1000000) :
    Calls Try.prog 20 #[.slice a n c] W fun e w' => IdsOut W.heap.size (rs.map (fun r => r.k.id)) e w' ∧ Below W.heap.size W w' := by
  have HX := hid (fun X (hX : Below W.heap.size W X) => hx.below hX)
  have HN := hid hn
  have sh : Hid (n = 0) ∨ ∃ b off, a = some ⟨b, off, none⟩ := by
    rcases hx.shape with h | h
    · left; rw [hn] at h; exact h
    · exact .inr h
  obtain ⟨xs, hxs⟩ : ∃ xs, rs.map (fun r => r.k.id) = xs := ⟨_, rfl⟩
  have HL := hid (show xs.length = n by rw [← hxs, List.length_map, hn])
  have HAT := hid (fun j (hj : j < rs.length) => show rs[j].k.id = xs.getD j 0 by rw [← hxs, List.getD_eq_getElem?_getD, List.getElem?_map, List.getElem?_eq_getElem hj]; rfl)
  rw [hxs]
  clear hx hn hxs
  obtain ⟨i0, hi, hz⟩ := Option.map_eq_some_iff.1 info2
  simp only [Prod.mk.injEq] at hz
  have hmk := fun W => run_makeSlice (P := Try.prog) W 32 2 i0 (.int .i64 0) Try.underlying32 hi hz.1 .i64 .i64 (n : Int) (n : Int) (by omega) (Int.le_refl _) (by rw [hz.2.1]; omega) (by rw [hz.2.2]; omega) (by omega)
  simp only [hz.2.1, Nat.mul_one, Int.toNat_natCast] at hmk
  clear hi hz
  rcases sh with Z | ⟨b, off, rfl⟩
  all_goals
    go_enter Try.func20, Try.ntmps20
    go_wp2_with fail
    obtain ⟨gm, hgm⟩ : ∃ gm, gm = W.heap.size := ⟨_, rfl⟩
    have HS := hid (Fill.start (n := n) hgm xs)
    rw [← hgm]
    have HG := hid hgm
    clear hgm hmk
    change Code.wp _ _ _ _ (W.alloc (.cells (madeCells #[.int .i64 0] n) 2))
    generalize W.alloc (.cells (madeCells #[.int .i64 0] n) 2) = X at *
    go_loopw [11] (fun iv wr => ∃ k : Nat, k ≤ n ∧ iv = .int .i64 k ∧ Hid (Fill W gm n xs k wr)) (fun iv _ => n - (intOf iv).toNat)
    case atStart => exact ⟨0, Nat.zero_le _, rfl, HS⟩
    case round =>
      obtain ⟨k, hk, rfl, HF⟩ := hrel
      by_cases hlt : k < n
      · first
        | (exfalso; have := Z.out; omega)
        | (have hlt' : (k : Int) < n := by omega
           have hkx : k < rs.length := by rw [HN.out]; exact hlt
           obtain ⟨hok, x0, x1, x2, x3, x4⟩ := (HX.out wr HF.out.bel).at hkx
           have hat := HAT.out k hkx
           generalize rs[k] = r at *
           obtain ⟨⟨id, lb, sz, us⟩, lk⟩ := r
           dsimp only at x0 x1 x2 x3 x4 hat
           have hst := HF.out.step HG.out hlt (.cells #[.int .i64 id, .int .i64 lb, .int .i64 sz, .int .i64 us, .bool lk] 29)
           rw [← hat] at hst
           have HST := hid hst
           obtain ⟨⟨u, hu⟩, hf⟩ := HF.out.cell hlt (.cells #[.int .i64 id, .int .i64 lb, .int .i64 sz, .int .i64 us, .bool lk] 29)
           clear hst hat hok HF
           go_wp2_with fail
           go_roundw
           case rel => exact ⟨k + 1, by omega, by go_num, HST⟩
           case measure => simp [intOf]; omega)
      · have hge : ¬ (k : Int) < n := by omega
        have hkn : k = n := by omega
        subst hkn
        have HO := hid (HF.out.done HG.out HL.out (by omega))
        have HB := hid HF.out.bel
        have HL2 := hid HL.out
        clear HF
        go_wp2
        go_ret
        exact ⟨⟨_, by rw [HL2.out]; rfl, by rw [HL2.out]; exact HO.out⟩, HB.out⟩
end Go.Proofs.Ytekkbpaelojmeaa
