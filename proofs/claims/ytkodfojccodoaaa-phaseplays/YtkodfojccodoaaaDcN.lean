/- The document's New. -/
import Derived.Test.YtkodfojccodoaaaDcG
namespace Go.Proofs.Ytkodfojccodoaaa
open Go.RowKit Go.Maps
set_option linter.unusedVariables false
set_option linter.unusedSimpArgs false
set_option maxRecDepth 100000
theorem new11_no (n : Int) (st : Bool) (seed : Int) (W : World) (hn : n < 0 ∨ 1048576 < n) : Calls Try.prog 11 #[.int .i64 n, .bool st, .int .u64 seed] W fun e w' => e = .returned (.tuple #[.pointer none, .int .i64 2]) ∧ w' = W := by
  by_cases h1 : n < 0
  · clear hn
    go_enter Try.func11, Try.ntmps11
    go_wp2
    go_ret2
    exact ⟨rfl, rfl⟩
  · have h2 : 1048576 < n := by omega
    clear hn
    go_enter Try.func11, Try.ntmps11
    go_wp2
    go_ret2
    exact ⟨rfl, rfl⟩
/-- In the midst: j values are there. -/
def NewD (N q : Nat) (st : Bool) (s : Int) (j : Nat) (W0 W : World) : Prop :=
  ∃ v : Value, W.heap[q]? = some (.cells #[v, .bool st, .int .i64 0, .slice none 0 0, .int .i64 0, .slice none 0 0, .int .u64 s, .int .i64 0] 68 (0, 0)) ∧ W.ownsRow N 4 1 v j (bls (List.replicate j st)) ∧ Below N W0 W
theorem newD_step {N q : Nat} {st : Bool} {s : Int} {j : Nat} {W0 W : World} (H : NewD N q st s j W0 W) (hN : N ≤ W.heap.size) (hq : N ≤ q) (hj : j ≤ 1048576) :
    ∃ (o : Option Addr) (c : Nat) (o2 : Option Addr) (c2 : Nat) (B : World), W.cell? ⟨q, 0, none⟩ = some (.slice o j c) ∧
      (Builtin.append_ #[45, 45] 45 #[.slice o j c, .slice (some ⟨W.heap.size, 0, none⟩) 1 1]).run Try.prog (W.alloc (.cells #[.bool st] 4)) = .ok (.slice o2 (j + 1) c2) B ∧ B.cell? ⟨q, 0, none⟩ = some (.slice o j c) ∧ B.frozen? ⟨q, 0, none⟩ = false
      ∧ NewD N q st s (j + 1) W0 (B.setCell ⟨q, 0, none⟩ (.slice o2 (j + 1) c2)) ∧ N ≤ (B.setCell ⟨q, 0, none⟩ (.slice o2 (j + 1) c2)).heap.size := by
  obtain ⟨v, h1, h2, h3⟩ := H
  obtain ⟨o, c, rfl⟩ := own_slc h2
  obtain ⟨i0, hi, hz⟩ := Option.map_eq_some_iff.1 info4
  simp only [Prod.mk.injEq] at hz
  have bx := below_box W (.cells #[.bool st] 4)
  have gx := heap_alloc_new W (.cells #[.bool st] 4)
  have h2x := own_below h2 bx
  have h1x := (bx.block q (lt_of_blk h1)).trans h1
  have sx := bx.size
  generalize W.alloc (.cells #[.bool st] 4) = X at *
  obtain ⟨v2, B, hr, ho2, hgb, hx4, hx5⟩ := run_append_own_at (P := Try.prog) X N 45 45 4 i0 _ 1 1 Try.underlying45 hi hz.1 hz.2.1 hz.2.2 rfl (by decide) (.slice o j c) j (bls (List.replicate j st)) h2x ⟨W.heap.size, 0, none⟩ 1 1 (bls [st]) rfl (fun k u hu => by
    rcases k with _ | k
    · have := row_cell gx 0
      rw [show (⟨W.heap.size, 0, none⟩ : Addr).add 0 = ⟨W.heap.size, 0, none⟩ by simp [Addr.add], this]
      exact hu
    · simp [bls] at hu) (by intro u hu; obtain ⟨w, _, rfl⟩ := List.mem_map.1 hu; rfl) (by simp [maxLen]; omega) (by omega) (by omega)
  obtain ⟨o2, c2, rfl⟩ := own_slc ho2
  have hqo : some q ≠ (Value.slice o j c).ownBlock := own_type h2x h1x (by decide)
  have h1B : B.heap[q]? = some (.cells #[.slice o j c, .bool st, .int .i64 0, .slice none 0 0, .int .i64 0, .slice none 0 0, .int .u64 s, .int .i64 0] 68 (0, 0)) := (hgb.block q (lt_of_blk h1x) hqo).trans h1x
  have hq2 : some q ≠ (Value.slice o2 (j + 1) c2).ownBlock := own_type ho2 h1B (by decide)
  have hbB : Below N X B := ⟨hgb.os, hgb.tape, hgb.output, hgb.size, fun g hg => hgb.block g (by omega) (fun e => by
    have := (own_blk h2x e.symm).1
    omega)⟩
  refine ⟨o, c, o2, c2, B, row_cell h1 0, hr, row_cell h1B 0, row_frozen h1B 0, ⟨_, by rw [heap_set_row h1B]; rfl, ?_, ?_⟩, ?_⟩
  · have e : bls (List.replicate j st) ++ bls [st] = bls (List.replicate (j + 1) st) := by rw [List.replicate_succ']; simp [bls]
    rw [e] at ho2
    exact own_keep ho2 hq2.symm _
  · have hb := (h3.trans (bx.mono hN)).trans hbB
    exact ⟨hb.os, hb.tape, hb.output, by have := hb.size; simpa [World.setCell] using this, fun g hg => (heap_other B _ (by omega)).trans (hb.block g hg)⟩
  · have := hgb.size
    simp [World.setCell]
    omega
def MadeD (n : Nat) (st : Bool) (seed : Int) (W : World) (e : Ending) (w' : World) : Prop :=
  ∃ D : Da, e = .returned (.tuple #[.pointer (some ⟨D.qb, 0, none⟩), .int .i64 0]) ∧ D.n = n ∧ Dm D (St0 n st seed) w' ∧ W.heap.size ≤ D.qb ∧ (∀ g, D.v.ownBlock = some g → W.heap.size ≤ g) ∧ D.aT = none ∧ D.aB = none ∧ Below W.heap.size W w'
set_option maxHeartbeats 4000000 in
theorem new11 (n : Nat) (st : Bool) (seed : Int) (W : World) (hn : n ≤ 1048576) (hs : 0 ≤ seed ∧ seed < 18446744073709551616) :
    Calls Try.prog 11 #[.int .i64 (n : Int), .bool st, .int .u64 seed] W fun e w' => MadeD n st seed W e w' := by
  have h1 : ¬ (n : Int) < 0 := by omega
  have h2 : ¬ 1048576 < (n : Int) := by omega
  have HN := hid hn
  obtain ⟨z, hz⟩ : ∃ z, sd seed = z := ⟨_, rfl⟩
  have HZ := hid hz
  have bx := below_box W (.cells #[.slice none 0 0, .bool st, .int .i64 0, .slice none 0 0, .int .i64 0, .slice none 0 0, .int .u64 z, .int .i64 0] 68)
  have H0 := hid (show NewD W.heap.size W.heap.size st z 0 W (W.alloc (.cells #[.slice none 0 0, .bool st, .int .i64 0, .slice none 0 0, .int .i64 0, .slice none 0 0, .int .u64 z, .int .i64 0] 68)) from ⟨_, heap_alloc_new W _, World.ownsRow_nil _ _ _ _, bx⟩)
  have HS0 := hid bx.size
  by_cases hz0 : seed = 0
  case' pos => have hlt : seed < 1 := by omega
  case' pos => have hsz : z = 1 := by rw [← hz, sd, if_pos hz0]
  case' neg => have hlt : ¬ seed < 1 := by omega
  case' neg => have hsz : z = seed := by rw [← hz, sd, if_neg hz0]
  all_goals
    clear hn hs hz bx hz0
    go_enter Try.func11, Try.ntmps11
    go_wp2_with (fail)
    go_loopw [9] (fun i wr => ∃ j : Nat, j ≤ n ∧ i = .int .i64 (j : Nat) ∧ Hid (NewD W.heap.size W.heap.size st z j W wr ∧ W.heap.size ≤ wr.heap.size)) (fun i _ => n - (intOf i).toNat)
    case atStart => exact ⟨0, Nat.zero_le _, rfl, by first | exact hid ⟨H0.out, HS0.out⟩ | (rw [← hsz]; exact hid ⟨H0.out, HS0.out⟩) | (subst hsz; exact hid ⟨H0.out, HS0.out⟩)⟩
    case round =>
      obtain ⟨j, hj, rfl, HI⟩ := hrel
      by_cases hjm : j < n
      · have hjm' : (j : Int) < n := by omega
        have hwj : wrap64 ((j : Int) + 1) = (j : Int) + 1 := by have := HN.out; unfold wrap64; omega
        obtain ⟨o, c, o2, c2, B, x0, hr, y0, f0, hn2, hs2⟩ := newD_step HI.out.1 HI.out.2 (Nat.le_refl _) (by have := HN.out; omega)
        have HR := hid hr
        have HI2 := hid (And.intro hn2 hs2)
        clear HI hr hn2 hs2 H0 HS0
        go_wp2_with (at_builtin; refine wpList_append_run rfl (.tmp 30) (.tmp 32) 45 45 rfl rfl rfl HR.out ?_)
        first
          | exact ⟨⟨j + 1, hjm, rfl, HI2⟩, by simp only [intOf]; exact meas hjm⟩
          | (rw [hwj]; exact ⟨⟨j + 1, hjm, rfl, HI2⟩, by simp only [intOf]; exact meas hjm⟩)
      · have hge : ¬ (j : Int) < n := by omega
        have hjn : j = n := by omega
        have HO := hid (show MadeD n st seed W (.returned (.tuple #[.pointer (some ⟨W.heap.size, 0, none⟩), .int .i64 0])) wr from by
          obtain ⟨⟨v, a1, a2, a3⟩, _⟩ := HI.out
          rw [hjn] at a2
          refine ⟨⟨W.heap.size, v, none, 0, none, 0, n⟩, rfl, rfl, ⟨?_, own_base a2 (Nat.zero_le _), World.ownsRow_nil _ _ _ _, World.ownsRow_nil _ _ _ _, (fun x hx => by cases hx), (fun x hx => by cases hx), HN.out, Nat.zero_le _, Nat.zero_le _⟩, Nat.le_refl _, fun g hg => (own_blk a2 hg).1, rfl, rfl, a3⟩
          show wr.heap[W.heap.size]? = some (.cells #[v, .bool st, .int .i64 0, .slice none 0 0, .int .i64 0, .slice none 0 0, .int .u64 (sd seed), .int .i64 0] 68 (0, 0))
          rw [HZ.out]
          exact a1)
        clear HI H0 HS0
        go_wp2
        go_ret2
        exact HO.out
end Go.Proofs.Ytkodfojccodoaaa
