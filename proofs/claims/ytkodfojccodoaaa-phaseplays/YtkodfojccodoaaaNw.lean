/- New. -/
import Derived.Test.YtkodfojccodoaaaRea
import Derived.Laws.EntriesVeiled
namespace Go.Proofs.Ytkodfojccodoaaa
open Go.RowKit Go.Maps
set_option linter.unusedVariables false
set_option linter.unusedSimpArgs false
set_option maxRecDepth 100000
theorem made_one (z : Value) (n : Nat) (h : z.cells = #[z]) : madeCells z.cells n = (List.replicate n z).toArray := by
  rw [h]
  apply Array.ext_getElem?
  intro k
  rw [madeCells, Array.getElem?_map, Array.getElem?_range]
  by_cases hk : k < n
  · rw [if_pos hk]
    simp [hk, Nat.mod_one]
  · rw [if_neg hk]
    simp [hk]
theorem info4 : (Try.prog.info? 4).map (fun i => (i.zero, i.size, i.bytes)) = some (some (.bool false), 1, 1) := by kernel_rfl
def RowOut (n : Nat) (W : World) (e : Ending) (w' : World) : Prop :=
  ∃ g, e = .returned (.agg #[.int .i64 0, .int .i64 0, sls g n n]) ∧ W.heap.size ≤ g ∧ w'.heap[g]? = some (.cells (Array.replicate n (Value.int .i64 0)) 2 (0, 0)) ∧ Below W.heap.size W w'
theorem newRow23 (n : Nat) (W : World) (hn : n ≤ 1048576) : Calls Try.prog 23 #[.int .i64 (n : Int)] W fun e w' => RowOut n W e w' := by
  obtain ⟨i0, hi, hz⟩ := Option.map_eq_some_iff.1 info2
  simp only [Prod.mk.injEq] at hz
  have hmk := fun W => run_makeSlice (P := Try.prog) W 57 2 i0 _ Try.underlying57 hi hz.1 .i64 .i64 (n : Int) (n : Int) (by omega) (Int.le_refl _) (by rw [hz.2.1]; omega) (by rw [hz.2.2]; omega) (by omega)
  simp only [hz.2.1, Int.toNat_natCast, Nat.mul_one, made_one (Value.int .i64 0) n rfl] at hmk
  clear hi hz
  go_enter Try.func23, Try.ntmps23
  go_wp2
  refine bodyPost_ret (results_cell_row rfl _ _ W.heap.size 59 _ (0, 0) _ rfl ((heap_alloc_old _ _ (by simp)).trans (heap_alloc_new _ _)) Try.underlying59 rfl (by kernel_rfl)) rfl ?_
  refine ⟨W.heap.size + 1, rfl, by omega, ?_, ?_⟩
  · show ((W.alloc _).alloc _).heap[W.heap.size + 1]? = _
    simp only [World.alloc, Array.size_push, Array.getElem?_push]
    rw [if_pos trivial]
  · exact (below_box W _).trans ((below_box _ _).mono (by simp))
/-- A seed's state. -/
def sd (s : Int) : Int := if s = 0 then 1 else s
theorem or24 {b : Nat} {s : Int} {W : World} (h : W.heap[b]? = some (.cells #[.int .u64 s, .int .u64 1] 22 (0, 0))) :
    Calls Try.prog 24 #[.slice (some ⟨b, 0, none⟩) 2 2] W fun e w' => e = .returned (.int .u64 (sd s)) ∧ w' = W := by
  have c0 : W.cell? ⟨b, 0, none⟩ = some (.int .u64 s) := row_cell h 0
  have c1 : W.cell? ⟨b, 1, none⟩ = some (.int .u64 1) := row_cell h 1
  obtain ⟨z, hz⟩ : ∃ z, sd s = z := ⟨_, rfl⟩
  have HZ := hid hz
  rw [hz]
  clear h hz
  go_enter Try.func24, Try.ntmps24
  go_wp2_with (fail)
  go_loopw [8] (fun i wr => ∃ k : Nat, k ≤ 1 ∧ i = .int .i64 (k : Nat) ∧ Hid (k = 1 → s = 0) ∧ Hid (wr = W)) (fun i _ => 2 - (intOf i).toNat)
  case atStart => exact ⟨0, Nat.zero_le _, rfl, hid (fun h => by omega), hid rfl⟩
  case round =>
    obtain ⟨k, hk, rfl, HI, HW⟩ := hrel
    rw [HW.out]
    clear HW
    by_cases h0 : k = 0
    · subst h0
      by_cases hs : s = 0
      · have hs' : (s != 0) = false := by rw [hs]; rfl
        have HS := hid hs
        clear hs HI
        go_wp2_with (fail)
        exact ⟨⟨1, Nat.le_refl _, rfl, hid (fun _ => HS.out), by first | exact hid rfl | exact hid trivial⟩, by simp [intOf]⟩
      · have hs' : (s != 0) = true := by simpa using hs
        have HO := hid (show s = z by rw [← HZ.out, sd, if_neg hs])
        clear hs HI
        go_wp2
        go_ret
        exact ⟨by rw [← HO.out]; rfl, rfl⟩
    · have hk1 : k = 1 := by omega
      subst hk1
      have HO := hid (show 1 = z by rw [← HZ.out, sd, if_pos (HI.out rfl)])
      clear HI h0
      go_wp2
      go_ret
      exact ⟨by rw [← HO.out]; rfl, rfl⟩
/-- A store that was made. -/
def St0 (n : Nat) (st : Bool) (seed : Int) : Ph.St := ⟨st, List.replicate n st, [], [], sd seed, 0⟩
def MadeP (n : Nat) (st : Bool) (seed : Int) (W : World) (e : Ending) (w' : World) : Prop := ∃ A : Adr, e = .returned (.tuple #[.pointer (some ⟨A.pb, 0, none⟩), .int .i64 0]) ∧ A.n = n ∧ Px A (St0 n st seed) 0 w' ∧ Below W.heap.size W w' ∧ ∀ g, A.own g → W.heap.size ≤ g
theorem new10_no (n : Int) (st : Bool) (seed : Int) (W : World) (hn : n < 0 ∨ 1048576 < n) : Calls Try.prog 10 #[.int .i64 n, .bool st, .int .u64 seed] W fun e w' => e = .returned (.tuple #[.pointer none, .int .i64 2]) ∧ w' = W := by
  by_cases h1 : n < 0
  · clear hn
    go_enter Try.func10, Try.ntmps10
    go_wp2
    go_ret2
    exact ⟨rfl, rfl⟩
  · have h2 : 1048576 < n := by omega
    clear hn
    go_enter Try.func10, Try.ntmps10
    go_wp2
    go_ret2
    exact ⟨rfl, rfl⟩
theorem us_sd {s : Int} (h : 0 ≤ s ∧ s < 18446744073709551616) : Us (sd s) := by unfold sd Us; split <;> omega
theorem own_rep {X : World} {g n t : Nat} {z : Value} (h : X.heap[g]? = some (.cells (Array.replicate n z) t (0, 0))) (hn : n ≤ 1048576) : X.ownsRow 0 t 1 (sls g n n) n (List.replicate n z) :=
  own_mk (Nat.zero_le _) h (Nat.le_refl _) (by unfold maxLen; omega) (by simp) (by simp)
theorem newp {n : Nat} {st : Bool} {z : Int} {X : World} {pb gs gt gb : Nat} (hn : n ≤ 1048576)
    (hp : X.heap[pb]? = some (.cells #[.bool st, sls gs n n, .int .i64 0, .int .i64 0, sls gt n n, .int .i64 0, .int .i64 0, sls gb n n, .int .u64 z, .int .i64 0] 63 (0, 0)))
    (hs : X.heap[gs]? = some (.cells (Array.replicate n (Value.bool false)) 4 (0, 0))) (ht : X.heap[gt]? = some (.cells (Array.replicate n (Value.int .i64 0)) 2 (0, 0))) (hb : X.heap[gb]? = some (.cells (Array.replicate n (Value.int .i64 0)) 2 (0, 0))) (ne : gt ≠ gb) :
    Pr ⟨pb, gs, gt, gb, n, n, n, n⟩ st (List.replicate n false) 0 0 (List.replicate n 0) 0 0 (List.replicate n 0) z 0 X :=
  ⟨hp, fun _ => by have := own_rep hs hn; simpa [bls] using this, fun _ => by have := own_rep ht hn; simpa [iss] using this, fun _ => by have := own_rep hb hn; simpa [iss] using this, by simp, by simp, by simp, fun _ => ne, hn⟩
theorem new_at {Y : World} {g : Nat} {o : Obj} (h : Y.heap.size = g) : (Y.alloc o).heap[g]? = some o := by rw [← h]; exact heap_alloc_new _ _
theorem drew_heap (w : World) : w.drew.heap = w.heap := rfl
theorem lift_alloc {Y : World} {g : Nat} {o o' : Obj} (h : Y.heap[g]? = some o) : (Y.alloc o').heap[g]? = some o := (heap_alloc_old _ _ (lt_of_blk h)).trans h
theorem lift_drew {Y : World} {g : Nat} {o : Obj} (h : Y.heap[g]? = some o) : Y.drew.heap[g]? = some o := h
theorem lift_below {Y X : World} {g : Nat} {o : Obj} (b : Below Y.heap.size Y X) (h : Y.heap[g]? = some o) : X.heap[g]? = some o := (b.block g (lt_of_blk h)).trans h
theorem bel_alloc {W Y : World} {o : Obj} (h : Below W.heap.size W Y) : Below W.heap.size W (Y.alloc o) := h.trans ((below_box _ _).mono h.size)
theorem bel_call {W Y X : World} (b : Below Y.heap.size Y X) (h : Below W.heap.size W Y) : Below W.heap.size W X := h.trans (b.mono h.size)
theorem cutW {P : Program} {K : Exit → Act → World → Prop} {e : Exit} {a : Act} {X : World} {F : World → Prop} (h : F X) (k : ∀ Y, F Y → K e a Y) : K e a X := k X h
def NewP (n : Nat) (st : Bool) (z : Int) (W : World) (pb : Nat) (Y : World) : Prop :=
  ∃ A : Adr, A.pb = pb ∧ A.n = n ∧ Pr A st (List.replicate n false) 0 0 (List.replicate n 0) 0 0 (List.replicate n 0) z 0 Y ∧ Below W.heap.size W Y ∧ ∀ g, A.own g → W.heap.size ≤ g
theorem newP_of {n : Nat} {st : Bool} {z : Int} {W X : World} {pb gs g1 g2 : Nat} (hn : n ≤ 1048576)
    (hp : X.heap[pb]? = some (.cells #[.bool st, .slice (some ⟨gs, 0, none⟩) n n, .int .i64 0, .int .i64 0, sls g1 n n, .int .i64 0, .int .i64 0, sls g2 n n, .int .u64 z, .int .i64 0] 63 (0, 0)))
    (hs : X.heap[gs]? = some (.cells (Array.replicate n (Value.bool false)) 4 (0, 0))) (ht : X.heap[g1]? = some (.cells (Array.replicate n (Value.int .i64 0)) 2 (0, 0))) (hb : X.heap[g2]? = some (.cells (Array.replicate n (Value.int .i64 0)) 2 (0, 0))) (ne : g1 ≠ g2)
    (bel : Below W.heap.size W X) (l0 : W.heap.size ≤ pb) (l1 : W.heap.size ≤ gs) (l2 : W.heap.size ≤ g1) (l3 : W.heap.size ≤ g2) : NewP n st z W pb X :=
  ⟨⟨pb, gs, g1, g2, n, n, n, n⟩, rfl, rfl, newp hn hp hs ht hb ne, bel, by rintro g (h | ⟨_, h | h | h⟩) <;> (simp only at h; omega)⟩
set_option maxHeartbeats 8000000 in
theorem new10 (n : Nat) (st : Bool) (seed : Int) (W : World) (hn : n ≤ 1048576) (hs : 0 ≤ seed ∧ seed < 18446744073709551616) : Calls Try.prog 10 #[.int .i64 (n : Int), .bool st, .int .u64 seed] W fun e w' => MadeP n st seed W e w' := by
  obtain ⟨i0, hi, hz⟩ := Option.map_eq_some_iff.1 info4
  simp only [Prod.mk.injEq] at hz
  have hmk := fun W => run_makeSlice (P := Try.prog) W 45 4 i0 _ Try.underlying45 hi hz.1 .i64 .i64 (n : Int) (n : Int) (by omega) (Int.le_refl _) (by rw [hz.2.1]; omega) (by rw [hz.2.2]; omega) (by omega)
  simp only [hz.2.1, Int.toNat_natCast, Nat.mul_one, made_one (Value.bool false) n rfl] at hmk
  clear hi hz
  have h1 : ¬ (n : Int) < 0 := by omega
  have h2 : ¬ 1048576 < (n : Int) := by omega
  have C23 := hid (fun (X : World) => newRow23 n X hn)
  have C24 := hid (fun (X : World) (b : Nat) (h : X.heap[b]? = some (.cells #[.int .u64 seed, .int .u64 1] 22 (0, 0))) => or24 h)
  have HN := hid hn
  have HS := hid (us_sd hs)
  clear hn hs
  generalize hsd : sd seed = z at *
  go_enter Try.func10, Try.ntmps10
  go_wp2_with (fail)
  have D23 := C23
  go_region_held3 (fun _ => True) (trivial)
    (first
      | (go_at_call 24; refine (C24.out _ _ (by repeat (first | (with_reducible refine new_at ?_; simp only [drew_heap, World.alloc, Array.size_push]; done) | with_reducible refine lift_alloc ?_ | with_reducible refine lift_drew ?_ | with_reducible refine lift_below c2 ?_ | with_reducible refine lift_below c1 ?_))).mono ?_; rintro e w3 ⟨rfl, hw3⟩; rw [hw3]; clear hw3)
      | (go_at_call 23; refine (C23.out _).mono ?_; rintro e w1 ⟨g1, rfl, l1, o1, c1⟩; clear C23)
      | (go_at_call 23; refine (D23.out _).mono ?_; rintro e w2 ⟨g2, rfl, l2, o2, c2⟩))
  all_goals
    have s1 := c1.size
    have s2 := c2.size
    have t1 := lt_of_blk o1
    simp only [drew_heap, World.alloc, Array.size_push] at s1 s2 l1 l2
    have HN2 := HN.out
  all_goals
    first
      | (refine cutW (P := Try.prog) (K := Exit.then _ _) (F := NewP n st z W (w2.heap.size)) ?_ ?_
         · apply newP_of (g1 := g1) (g2 := g2) HN2
           · with_reducible refine new_at ?_
             simp only [drew_heap, World.alloc, Array.size_push]
             done
           · repeat (first | (with_reducible refine new_at ?_; simp only [drew_heap, World.alloc, Array.size_push]; done) | with_reducible refine lift_alloc ?_ | with_reducible refine lift_drew ?_ | with_reducible refine lift_below c2 ?_ | with_reducible refine lift_below c1 ?_)
           · repeat (first | with_reducible exact o1 | with_reducible refine lift_alloc ?_ | with_reducible refine lift_drew ?_ | with_reducible refine lift_below c2 ?_)
           · repeat (first | with_reducible exact o2 | with_reducible refine lift_alloc ?_ | with_reducible refine lift_drew ?_)
           · omega
           · repeat (first | with_reducible exact Below.refl _ _ | with_reducible refine bel_alloc ?_ | with_reducible refine Below.drew ?_ | with_reducible refine bel_call c2 ?_ | with_reducible refine bel_call c1 ?_)
           · omega
           · omega
           · omega
           · omega)
      | (refine cutW (P := Try.prog) (K := Exit.then _ _) (F := NewP n st z W (w2.heap.size + 1)) ?_ ?_
         · apply newP_of (g1 := g1) (g2 := g2) HN2
           · with_reducible refine new_at ?_
             simp only [drew_heap, World.alloc, Array.size_push]
             done
           · repeat (first | (with_reducible refine new_at ?_; simp only [drew_heap, World.alloc, Array.size_push]; done) | with_reducible refine lift_alloc ?_ | with_reducible refine lift_drew ?_ | with_reducible refine lift_below c2 ?_ | with_reducible refine lift_below c1 ?_)
           · repeat (first | with_reducible exact o1 | with_reducible refine lift_alloc ?_ | with_reducible refine lift_drew ?_ | with_reducible refine lift_below c2 ?_)
           · repeat (first | with_reducible exact o2 | with_reducible refine lift_alloc ?_ | with_reducible refine lift_drew ?_)
           · omega
           · repeat (first | with_reducible exact Below.refl _ _ | with_reducible refine bel_alloc ?_ | with_reducible refine Below.drew ?_ | with_reducible refine bel_call c2 ?_ | with_reducible refine bel_call c1 ?_)
           · omega
           · omega
           · omega
           · omega)
      | (refine cutW (P := Try.prog) (K := Exit.then _ _) (F := NewP n st z W (w2.heap.size + 1 + 1)) ?_ ?_
         · apply newP_of (g1 := g1) (g2 := g2) HN2
           · with_reducible refine new_at ?_
             simp only [drew_heap, World.alloc, Array.size_push]
             done
           · repeat (first | (with_reducible refine new_at ?_; simp only [drew_heap, World.alloc, Array.size_push]; done) | with_reducible refine lift_alloc ?_ | with_reducible refine lift_drew ?_ | with_reducible refine lift_below c2 ?_ | with_reducible refine lift_below c1 ?_)
           · repeat (first | with_reducible exact o1 | with_reducible refine lift_alloc ?_ | with_reducible refine lift_drew ?_ | with_reducible refine lift_below c2 ?_)
           · repeat (first | with_reducible exact o2 | with_reducible refine lift_alloc ?_ | with_reducible refine lift_drew ?_)
           · omega
           · repeat (first | with_reducible exact Below.refl _ _ | with_reducible refine bel_alloc ?_ | with_reducible refine Below.drew ?_ | with_reducible refine bel_call c2 ?_ | with_reducible refine bel_call c1 ?_)
           · omega
           · omega
           · omega
           · omega)
  clear hmk C24 D23 h1 h2
  all_goals
    rintro Y ⟨A, hq, hn, Q0, B0, O0⟩
    have HO := hid O0
    have HB := hid B0
    have C25 := hid (saveAll25 Q0 st)
    rw [← hq]
    rw [hn] at C25
    have HF := hid (fun (w : World) (q : Pr A st (List.replicate n st) 0 0 (List.replicate n 0) 0 0 (List.replicate n 0) z 0 w) (f : Fa A Y w) => show MadeP n st seed W (.returned (.tuple #[.pointer (some ⟨A.pb, 0, none⟩), .int .i64 0])) w from
      ⟨A, rfl, hn, ⟨0, List.replicate n 0, 0, List.replicate n 0, by rw [← hsd] at q; exact q, by rw [hn]; exact Ph.Mk.new n, by rw [hn]; exact Ph.Mk.new n, Int.le_refl _, Int.le_refl _, by omega, by rw [← hsd] at HS; exact HS.out⟩, B0.trans (f.below B0.size (fun g hg h => by have := O0 g h; omega)), O0⟩)
    clear O0 B0 Q0 hq
    go_wp2_with (go_at_call 25; refine C25.out.mono ?_; rintro e w4 ⟨rfl, q4, f4⟩)
    go_ret2
    exact HF.out _ q4 f4
end Go.Proofs.Ytkodfojccodoaaa
