/- The document's queue: a new one. -/
import Derived.Test.YtjnifadfcnpdoaaDf
namespace Go.Proofs.Ytjnifadfcnpdoaa
open Go.RowKit Go.Maps
set_option linter.unusedVariables false
set_option linter.unusedSimpArgs false
set_option maxRecDepth 100000
theorem new11_no (n : Int) (W : World) (hn : n < 0 ∨ 1048576 < n) : Calls Try.prog 11 #[.int .i64 n] W fun e w' => e = .returned (.tuple #[.pointer none, .int .i64 2]) ∧ w' = W := by
  rcases hn with h | h
  · go_enter Try.func11, Try.ntmps11
    go_wp2
    go_ret2
    exact ⟨rfl, rfl⟩
  · have h2 : ¬ n < 0 := by omega
    go_enter Try.func11, Try.ntmps11
    go_wp2
    go_ret2
    exact ⟨rfl, rfl⟩
/-- 0 to j, as stamps. -/
def sj (j : Nat) : List Int := (List.range (j + 1)).map (fun v : Nat => (v : Int))
theorem sj_snoc (j : Nat) : sj (j + 1) = sj j ++ [((j + 1 : Nat) : Int)] := by
  unfold sj
  rw [List.range_succ (n := j + 1), List.map_append]; rfl
theorem sj_st (n : Nat) : sj n = Qp.stN n n := by
  unfold sj Qp.stN
  exact List.map_congr_left (fun v hv => by rw [if_pos (by have := List.mem_range.1 hv; omega)])
/-- While it is made: i variables are in the row, stamps go up to j. -/
def Nd (N q i j : Nat) (W0 W : World) : Prop :=
  ∃ vR vS, W.heap[q]? = some (.cells #[vR, vS, .int .i64 0] 56 (0, 0)) ∧ W.ownsRow N 3 1 vR i (inn (Qp.rowN i)) ∧ W.ownsRow N 2 1 vS (j + 1) (iss (sj j)) ∧ Below N W0 W ∧ N ≤ W.heap.size
theorem bel_set {N q : Nat} {W0 W : World} (h : Below N W0 W) (hq : N ≤ q) (k : Nat) (v : Value) : Below N W0 (W.setCell ⟨q, k, none⟩ v) :=
  ⟨h.os, h.tape, h.output, by have := h.size; simpa [World.setCell] using this, fun g hg => (heap_other W _ (by omega)).trans (h.block g hg)⟩
theorem size_set (W : World) (q k : Nat) (v : Value) : (W.setCell ⟨q, k, none⟩ v).heap.size = W.heap.size := by simp [World.setCell]
theorem Nd.step1 {N q i j m : Nat} {W0 W : World} (H : Nd N q i j W0 W) (hq : N ≤ q) (hi : i ≤ 1048576) (hm : i + 1 = m) :
    ∃ (o : Option Addr) (c : Nat) (o2 : Option Addr) (c2 : Nat) (B : World), W.cell? ⟨q, 0, none⟩ = some (.slice o i c) ∧
      (Builtin.append_ #[32, 32] 32 #[.slice o i c, .slice (some ⟨W.heap.size, 0, none⟩) 1 1]).run Try.prog (W.alloc (.cells #[.int .i64 (m : Int)] 3)) = .ok (.slice o2 m c2) B ∧ B.cell? ⟨q, 0, none⟩ = some (.slice o i c) ∧ B.frozen? ⟨q, 0, none⟩ = false
      ∧ Nd N q m j W0 (B.setCell ⟨q, 0, none⟩ (.slice o2 m c2)) := by
  obtain ⟨vR, vS, h1, h2, h3, h4, h5⟩ := H
  obtain ⟨o, c, rfl⟩ := own_slc h2
  have bx := below_box W (.cells #[.int .i64 (m : Int)] 3)
  have gx := heap_alloc_new W (.cells #[.int .i64 (m : Int)] 3)
  have h2x := own_below h2 bx
  have h3x := own_below h3 bx
  have h1x := (bx.block q (lt_of_blk h1)).trans h1
  have sx := bx.size
  have hx0 := row_cell gx 0
  generalize W.alloc (.cells #[.int .i64 (m : Int)] 3) = X at *
  obtain ⟨o2, c2, B, r, w, f, b, hg⟩ := appX (t := 32) Try.underlying32 info3 rfl (by decide) h2x (by omega) (a := W.heap.size) (off := 0) (m := 1) (c := 1) (ys := inn [m]) rfl (fun k hk => by
    obtain rfl : k = 0 := by omega
    exact hx0) (inn_one' _) (by omega)
  have e : inn (Qp.rowN i) ++ inn [m] = inn (Qp.rowN m) := by rw [← hm, Qp.rowN_snoc]; simp [inn]
  rw [e] at w
  rw [hm] at w r
  have hqo : some q ≠ (Value.slice o i c).ownBlock := own_type h2x h1x (by decide)
  have h1B : B.heap[q]? = some (.cells #[.slice o i c, vS, .int .i64 0] 56 (0, 0)) := f.block _ _ h1x (fun e => hqo e.symm)
  have hq2 : some q ≠ (Value.slice o2 m c2).ownBlock := own_type w h1B (by decide)
  have h3B : B.ownsRow N 2 1 vS (j + 1) (iss (sj j)) := own_fq h3x f (fun g e e2 => by
    obtain ⟨_, c1, k1⟩ := own_blk h3x e
    obtain ⟨_, c2, k2⟩ := own_blk h2x e2
    exact ty_ne k1 k2 (by decide) rfl)
  have hq3 : some q ≠ vS.ownBlock := own_type h3B h1B (by decide)
  refine ⟨o, c, o2, c2, B, row_cell h1 0, r, row_cell h1B 0, row_frozen h1B 0, _, _, by rw [heap_set_row h1B]; rfl, own_keep w hq2.symm _, own_keep h3B hq3.symm _, bel_set ((h4.trans (bx.mono h5)).trans b) hq _ _, ?_⟩
  have := b.size
  rw [size_set]
  omega
theorem Nd.step2 {N q i j m z : Nat} {W0 W : World} (H : Nd N q i j W0 W) (hz : W.heap.size = z) (hq : N ≤ q) (hi : j ≤ 1048576) (hm : j + 1 = m) :
    ∃ (o : Option Addr) (c : Nat) (o2 : Option Addr) (c2 : Nat) (B : World), W.cell? ⟨q, 1, none⟩ = some (.slice o m c) ∧
      (Builtin.append_ #[51, 51] 51 #[.slice o m c, .slice (some ⟨z, 0, none⟩) 1 1]).run Try.prog (W.alloc (.cells #[.int .i64 (m : Int)] 2)) = .ok (.slice o2 (m + 1) c2) B ∧ B.cell? ⟨q, 1, none⟩ = some (.slice o m c) ∧ B.frozen? ⟨q, 1, none⟩ = false
      ∧ Nd N q i m W0 (B.setCell ⟨q, 1, none⟩ (.slice o2 (m + 1) c2)) := by
  subst hz
  obtain ⟨vR, vS, h1, h2, h3, h4, h5⟩ := H
  rw [hm] at h3
  obtain ⟨o, c, rfl⟩ := own_slc h3
  have bx := below_box W (.cells #[.int .i64 (m : Int)] 2)
  have gx := heap_alloc_new W (.cells #[.int .i64 (m : Int)] 2)
  have h2x := own_below h2 bx
  have h3x := own_below h3 bx
  have h1x := (bx.block q (lt_of_blk h1)).trans h1
  have sx := bx.size
  have hx0 := row_cell gx 0
  generalize W.alloc (.cells #[.int .i64 (m : Int)] 2) = X at *
  obtain ⟨o2, c2, B, r, w, f, b, hg⟩ := appX (t := 51) Try.underlying51 info2 rfl (by decide) h3x (by omega) (a := W.heap.size) (off := 0) (m := 1) (c := 1) (ys := iss [(m : Int)]) rfl (fun k hk => by
    obtain rfl : k = 0 := by omega
    exact hx0) (iss_one' _) (by omega)
  have e : iss (sj j) ++ iss [(m : Int)] = iss (sj m) := by rw [← hm, sj_snoc]; simp [iss]
  rw [e] at w
  have hqo : some q ≠ (Value.slice o m c).ownBlock := own_type h3x h1x (by decide)
  have h1B : B.heap[q]? = some (.cells #[vR, .slice o m c, .int .i64 0] 56 (0, 0)) := f.block _ _ h1x (fun e => hqo e.symm)
  have hq2 : some q ≠ (Value.slice o2 (m + 1) c2).ownBlock := own_type w h1B (by decide)
  have h2B : B.ownsRow N 3 1 vR i (inn (Qp.rowN i)) := own_fq h2x f (fun g e e2 => by
    obtain ⟨_, c1, k1⟩ := own_blk h2x e
    obtain ⟨_, c2, k2⟩ := own_blk h3x e2
    exact ty_ne k1 k2 (by decide) rfl)
  have hq3 : some q ≠ vR.ownBlock := own_type h2B h1B (by decide)
  refine ⟨o, c, o2, c2, B, row_cell h1 1, r, row_cell h1B 1, row_frozen h1B 1, _, _, by rw [heap_set_row h1B]; rfl, own_keep h2B hq3.symm _, own_keep w hq2.symm _, bel_set ((h4.trans (bx.mono h5)).trans b) hq _ _, ?_⟩
  have := b.size
  rw [size_set]
  omega
def MadeD (n : Nat) (W : World) (e : Ending) (w' : World) : Prop :=
  ∃ D : Da, e = .returned (.tuple #[.pointer (some ⟨D.qb, 0, none⟩), .int .i64 0]) ∧ Dq D n (Qp.rowN n) (Qp.stN n n) 0 w' ∧ W.heap.size ≤ D.qb ∧ W.heap.size ≤ D.gs ∧ (∀ x, D.aR = some x → W.heap.size ≤ x.block) ∧ Below W.heap.size W w'
theorem measN {j m n : Nat} (h : j + 1 = m) (hj : j < n) : n + 1 - ((m : Int) + 1).toNat < n + 1 - (m : Int).toNat := by omega
set_option maxHeartbeats 4000000 in
theorem new11 (n : Nat) (W : World) (hn : n ≤ 1048576) :
    Calls Try.prog 11 #[.int .i64 (n : Int)] W fun e w' => MadeD n W e w' := by
  have h1 : ¬ (n : Int) < 0 := by omega
  have h2 : ¬ 1048576 < (n : Int) := by omega
  have HN := hid hn
  clear hn
  have b1 := below_box W (.cells #[.int .i64 0] 2)
  have g1 := heap_alloc_new W (.cells #[.int .i64 0] 2)
  have z1 : (W.alloc (.cells #[.int .i64 0] 2)).heap.size = W.heap.size + 1 := by simp
  have H0 := hid (show Nd W.heap.size (W.heap.size + 1) 0 0 W ((W.alloc (.cells #[.int .i64 0] 2)).alloc (.cells #[.slice none 0 0, .slice (some ⟨W.heap.size, 0, none⟩) 1 1, .int .i64 0] 56)) from by
    have b2 := below_box (W.alloc (.cells #[.int .i64 0] 2)) (.cells #[.slice none 0 0, .slice (some ⟨W.heap.size, 0, none⟩) 1 1, .int .i64 0] 56)
    have g2 := heap_alloc_new (W.alloc (.cells #[.int .i64 0] 2)) (.cells #[.slice none 0 0, .slice (some ⟨W.heap.size, 0, none⟩) 1 1, .int .i64 0] 56)
    rw [z1] at g2
    refine ⟨_, _, g2, World.ownsRow_nil _ _ _ _, own_mk (Nat.le_refl _) ((b2.block _ (by omega)).trans g1) (Nat.le_refl _) (by decide) rfl rfl, b1.trans (b2.mono b1.size), ?_⟩
    have := b2.size
    omega)
  clear b1 g1 z1
  go_enter Try.func11, Try.ntmps11
  go_wp2_with (fail)
  have HNZ := hid (Nat.le_refl W.heap.size)
  obtain ⟨q, hq⟩ : ∃ q, W.heap.size + 1 = q := ⟨_, rfl⟩
  have HQ := hid hq
  obtain ⟨W2, hW2⟩ : ∃ W2, (W.alloc (.cells #[.int .i64 0] 2)).alloc (.cells #[.slice none 0 0, .slice (some ⟨W.heap.size, 0, none⟩) 1 1, .int .i64 0] 56) = W2 := ⟨_, rfl⟩
  rw [hW2] at H0 ⊢
  rw [hq] at H0 ⊢
  clear hq hW2
  generalize hN0 : W.heap.size = N0 at *
  have HN0 := hid hN0
  clear hN0 HNZ
  go_loopw [5] (fun i wr => ∃ j m : Nat, Hid (j + 1 = m) ∧ j ≤ n ∧ i = .int .i64 (m : Nat) ∧ Hid (Nd N0 q j j W wr)) (fun i _ => n + 1 - (intOf i).toNat)
  case atStart => exact ⟨0, 1, hid rfl, Nat.zero_le _, rfl, H0⟩
  case round =>
    obtain ⟨j, m, HM, hj, rfl, HI⟩ := hrel
    by_cases hjm : j < n
    · have hle : (m : Int) ≤ n := by have := HM.out; omega
      have hwm : wrap64 ((m : Int) + 1) = (m : Int) + 1 := by have := HN.out; have := HM.out; unfold wrap64; omega
      obtain ⟨o, c, o2, c2, B, x0, r1, y0, f0, n1⟩ := HI.out.step1 (by have := HQ.out; omega) (by have := HN.out; omega) HM.out
      obtain ⟨p, d, p2, d2, E, x1, r2, y1, f1, n2⟩ := n1.step2 (size_set B q 0 _) (by have := HQ.out; omega) (by have := HN.out; omega) HM.out
      have HR1 := hid r1
      have HR2 := hid r2
      have HI2 := hid n2
      clear HI r1 r2 n1 n2 H0
      have HWM := hid hwm
      clear hwm
      go_wp2_with (first
        | (at_builtin; refine wpList_append_run rfl (.tmp 24) (.tmp 26) 32 32 rfl rfl rfl HR1.out ?_; clear HR1)
        | (at_builtin; refine wpList_append_run rfl (.tmp 34) (.tmp 36) 51 51 rfl rfl rfl HR2.out ?_; clear HR2))
      try rw [HWM.out]
      exact ⟨⟨m, m + 1, hid rfl, by have := HM.out; omega, rfl, HI2⟩, by simp only [intOf]; exact measN HM.out hjm⟩
    · have hge : ¬ (m : Int) ≤ n := by have := HM.out; omega
      have hjn : j = n := by omega
      have HO := hid (show MadeD n W (.returned (.tuple #[.pointer (some ⟨q, 0, none⟩), .int .i64 0])) wr from by
        have hq := HQ.out
        have hN0 := HN0.out
        obtain ⟨vR, vS, a1, a2, a3, a4, a5⟩ := HI.out
        rw [hjn] at a2 a3
        obtain ⟨o, c, rfl⟩ := own_slc a2
        obtain ⟨g, c2, cur, e, hg, _⟩ := own_some a3 (by omega)
        subst e
        rw [sj_st] at a3
        refine ⟨⟨q, o, c, g, c2⟩, rfl, ⟨a1, own_base a2 (Nat.zero_le _), own_base a3 (Nat.zero_le _), HN.out⟩, by show W.heap.size ≤ q; omega, by rw [hN0]; exact hg, fun x hx => by rw [hN0]; exact own_new a2 x hx, by rw [hN0]; exact a4⟩)
      clear HI H0
      go_wp2
      go_ret2
      exact HO.out
end Go.Proofs.Ytjnifadfcnpdoaa
