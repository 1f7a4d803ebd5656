/- Copy. -/
import Derived.Test.YtkodfojccodoaaaCpy
namespace Go.Proofs.Ytkodfojccodoaaa
open Go.RowKit Go.Maps
set_option linter.unusedVariables false
set_option linter.unusedSimpArgs false
set_option maxRecDepth 100000
def CopyO (N : Nat) (n : Nat) (K : Int) (P : Ph.St) (W : World) (e : Ending) (w' : World) : Prop :=
  ∃ B : Adr, e = .returned (.pointer (some ⟨B.pb, 0, none⟩)) ∧ Pn N B n K P w' ∧ Below W.heap.size W w' ∧ ∀ g, B.own g → W.heap.size ≤ g
theorem own_sets {W : World} {base n e b : Nat} {g c : Nat} {xs : List Value} (h : W.ownsRow base e 1 (sls g n c) n xs) (hne : g ≠ b) (k : Nat) (v : Value) : (W.setCell ⟨b, k, none⟩ v).ownsRow base e 1 (sls g n c) n xs :=
  own_keep h (fun e => by injection e with e; exact hne e) _
set_option maxHeartbeats 8000000 in
theorem Pn.copy {N : Nat} {A : Adr} {n : Nat} {K : Int} {P : Ph.St} {W : World} (H : Pn N A n K P W) (hN : N ≤ W.heap.size) :
    Calls Try.prog 12 #[.pointer (some ⟨A.pb, 0, none⟩)] W fun e w' => CopyO N n K P W e w' := by
  obtain ⟨nt, mt, nb, mb, q, hT, hB, k1, k2, k3, k4⟩ := H.px
  have hn := H.hn
  obtain ⟨st, hst⟩ : ∃ st, P.st = st := ⟨_, rfl⟩
  obtain ⟨sv, hsv⟩ : ∃ sv, P.sv = sv := ⟨_, rfl⟩
  obtain ⟨lt, hlt⟩ : ∃ lt, P.T.length = lt := ⟨_, rfl⟩
  obtain ⟨lb, hlb⟩ : ∃ lb, P.B.length = lb := ⟨_, rfl⟩
  obtain ⟨s, hs⟩ : ∃ s, P.s = s := ⟨_, rfl⟩
  obtain ⟨k, hk⟩ : ∃ k, nx P.k = k := ⟨_, rfl⟩
  have HFIN := hid (fun (B : Adr) (w : World) (hB' : B.n = n) (q2 : Pr B st sv lt nt mt lb nb mb s k w) => show Px B P K w from
    ⟨nt, mt, nb, mb, by rw [hst, hsv, hlt, hlb, hs, hk]; exact q2, by rw [hB', ← hn]; exact hT, by rw [hB', ← hn]; exact hB, k1, k2, k3, k4⟩)
  rw [hst, hsv, hlt, hlb, hs, hk] at q
  clear hst hsv hlt hlb hs hk hT hB k1 k2 k3 k4 H
  have C26 := hid (fun (X : World) (hX : Below W.heap.size W X) => clone26p A.gs A.n A.cs (bls sv) X q.mx (fun h => own_below (q.rs h) hX) (by simp [bls, q.ls]) (bls_one sv))
  have C27T := hid (fun (X : World) (hX : Below W.heap.size W X) => copy27T (q.below hX))
  have C27B := hid (fun (X : World) (hX : Below W.heap.size W X) => copy27B (q.below hX))
  have HC := hid (fun (X : World) (hX : Below W.heap.size W X) => show X.cell? ⟨A.pb, 1, none⟩ = some (sls A.gs A.n A.cs) from row_cell (q.below hX).blk 1)
  have HL := hid (And.intro q.ls (And.intro q.lt' (And.intro q.lb' q.mx)))
  have ⟨c0, c1, c2, c3, c4, c5, c6, c7, c8, c9⟩ := q.cells
  rw [hn] at C26 C27T C27B HC HL c1 c4 c7
  have bx := below_box W (.cells #[.bool st, sls A.gs n A.cs, .int .i64 (lt : Int), .int .i64 nt, sls A.gt n A.ct, .int .i64 (lb : Int), .int .i64 nb, sls A.gb n A.cb, .int .u64 s, .int .i64 (k : Int)] 63)
  have g0 := heap_alloc_new W (.cells #[.bool st, sls A.gs n A.cs, .int .i64 (lt : Int), .int .i64 nt, sls A.gt n A.ct, .int .i64 (lb : Int), .int .i64 nb, sls A.gb n A.cb, .int .u64 s, .int .i64 (k : Int)] 63)
  have C1 := hid (C26.out _ bx)
  have d1 := HC.out _ bx
  have HN := hid hN
  have HB1 := hid bx
  have HG1 := hid g0
  have hn' := hn
  clear q hn hN bx g0
  go_enter Try.func12, Try.ntmps12
  go_wp2_with (fail)
  go_at_call 26
  refine C1.out.mono ?_
  rintro e w2 ⟨ga, ka, rfl, la, oa, b2⟩
  have HB2 := hid (HB1.out.trans (b2.mono HB1.out.size))
  have G2 := (b2.block W.heap.size (lt_of_blk HG1.out)).trans HG1.out
  have f2 := row_frozen G2 1
  have y2 : w2.cell? ⟨W.heap.size, 1, none⟩ = some (sls A.gs n A.cs) := row_cell G2 1
  have HW3 := hid (bel_set (b := W.heap.size) (k := 1) HB2.out (Nat.le_refl _) (sls ga n ka))
  have G3 := heap_set_row G2 (k := 1) (sls ga n ka)
  have hga : ga ≠ W.heap.size := by have := lt_of_blk HG1.out; omega
  have HOA := hid (fun (h : 0 < n) => own_sets (oa h) hga 1 (sls ga n ka))
  have HLA := hid (show W.heap.size ≤ ga by have := HB1.out.size; omega)
  have HG3 := hid G3
  obtain ⟨W3, hW3⟩ : ∃ W3, w2.setCell ⟨W.heap.size, 1, none⟩ (sls ga n ka) = W3 := ⟨_, rfl⟩
  rw [hW3] at HW3 HOA HG3
  have C2 := hid (C27T.out W3 HW3.out)
  clear C26 C1 la oa b2 G2 G3 HB2 HB1 HG1 c0 c1 c2 c3 c4 c5 c6 c7 c8 c9 d1 HC
  go_wp2_with (fail)
  go_at_call 27
  refine C2.out.mono ?_
  rintro e w4 ⟨gb, kb, rfl, lb', ob, b4⟩
  have HB4 := hid (HW3.out.trans (b4.mono HW3.out.size))
  have G4 := (b4.block W.heap.size (lt_of_blk HG3.out)).trans HG3.out
  have y2 : w4.cell? ⟨W.heap.size, 2, none⟩ = some (.int .i64 (lt : Int)) := row_cell G4 2
  have z2 := row_frozen G4 2
  have y3 : (w4.setCell ⟨W.heap.size, 2, none⟩ (.int .i64 (lt : Int))).cell? ⟨W.heap.size, 3, none⟩ = some (.int .i64 nt) := row_cell (heap_set_row G4 (k := 2) (.int .i64 (lt : Int))) 3
  have y4 : ((w4.setCell ⟨W.heap.size, 2, none⟩ (.int .i64 (lt : Int))).setCell ⟨W.heap.size, 3, none⟩ (.int .i64 nt)).cell? ⟨W.heap.size, 4, none⟩ = some (sls A.gt n A.ct) := row_cell (heap_set_row (heap_set_row G4 (k := 2) (.int .i64 (lt : Int))) (k := 3) (.int .i64 nt)) 4
  have z3 : (w4.setCell ⟨W.heap.size, 2, none⟩ (.int .i64 (lt : Int))).frozen? ⟨W.heap.size, 3, none⟩ = false := row_frozen (heap_set_row G4 (k := 2) (.int .i64 (lt : Int))) 3
  have z4 : ((w4.setCell ⟨W.heap.size, 2, none⟩ (.int .i64 (lt : Int))).setCell ⟨W.heap.size, 3, none⟩ (.int .i64 nt)).frozen? ⟨W.heap.size, 4, none⟩ = false := row_frozen (heap_set_row (heap_set_row G4 (k := 2) (.int .i64 (lt : Int))) (k := 3) (.int .i64 nt)) 4
  have hgb : gb ≠ W.heap.size := by have := lt_of_blk HG3.out; omega
  have HOA4 := hid (fun (h : 0 < n) => own_sets (own_sets (own_sets (own_below (HOA.out h) b4) hga 2 (.int .i64 (lt : Int))) hga 3 (.int .i64 nt)) hga 4 (sls gb n kb))
  have HOB4 := hid (fun (h : 0 < n) => own_sets (own_sets (own_sets (ob h) hgb 2 (.int .i64 (lt : Int))) hgb 3 (.int .i64 nt)) hgb 4 (sls gb n kb))
  have HG5 := hid (heap_set_row (heap_set_row (heap_set_row G4 (k := 2) (.int .i64 (lt : Int))) (k := 3) (.int .i64 nt)) (k := 4) (sls gb n kb))
  have HW5 := hid (bel_set (b := W.heap.size) (k := 4) (bel_set (b := W.heap.size) (k := 3) (bel_set (b := W.heap.size) (k := 2) HB4.out (Nat.le_refl _) (.int .i64 (lt : Int))) (Nat.le_refl _) (.int .i64 nt)) (Nat.le_refl _) (sls gb n kb))
  have HLB := hid (show W.heap.size ≤ gb by have := HW3.out.size; omega)
  have HAB := hid (show 0 < n → ga < gb from fun h => by obtain ⟨cu, hcu⟩ := own_hp (HOA.out h); have := lt_of_blk hcu; omega)
  obtain ⟨W5, hW5⟩ : ∃ W5, ((w4.setCell ⟨W.heap.size, 2, none⟩ (.int .i64 (lt : Int))).setCell ⟨W.heap.size, 3, none⟩ (.int .i64 nt)).setCell ⟨W.heap.size, 4, none⟩ (sls gb n kb) = W5 := ⟨_, rfl⟩
  rw [hW5] at HOA4 HOB4 HG5 HW5
  have C3 := hid (C27B.out W5 HW5.out)
  have HSZ4 := hid (show 0 < n → gb < W5.heap.size from fun h => by obtain ⟨cu, hcu⟩ := own_hp (HOB4.out h); exact lt_of_blk hcu)
  clear C27T C27B C2 lb' ob b4 G4 HB4 HW3 HG3 HOA hW3 f2
  go_wp2_with (fail)
  go_at_call 27
  refine C3.out.mono ?_
  rintro e w6 ⟨gc, kc, rfl, lc, oc, b6⟩
  have HB6 := hid (HW5.out.trans (b6.mono HW5.out.size))
  have G6 := (b6.block W.heap.size (lt_of_blk HG5.out)).trans HG5.out
  have x5 : w6.cell? ⟨W.heap.size, 5, none⟩ = some (.int .i64 (lb : Int)) := row_cell G6 5
  have v5 := row_frozen G6 5
  have x6 : (w6.setCell ⟨W.heap.size, 5, none⟩ (.int .i64 (lb : Int))).cell? ⟨W.heap.size, 6, none⟩ = some (.int .i64 nb) := row_cell (heap_set_row G6 (k := 5) (.int .i64 (lb : Int))) 6
  have x7 : ((w6.setCell ⟨W.heap.size, 5, none⟩ (.int .i64 (lb : Int))).setCell ⟨W.heap.size, 6, none⟩ (.int .i64 nb)).cell? ⟨W.heap.size, 7, none⟩ = some (sls A.gb n A.cb) := row_cell (heap_set_row (heap_set_row G6 (k := 5) (.int .i64 (lb : Int))) (k := 6) (.int .i64 nb)) 7
  have v6 : (w6.setCell ⟨W.heap.size, 5, none⟩ (.int .i64 (lb : Int))).frozen? ⟨W.heap.size, 6, none⟩ = false := row_frozen (heap_set_row G6 (k := 5) (.int .i64 (lb : Int))) 6
  have v7 : ((w6.setCell ⟨W.heap.size, 5, none⟩ (.int .i64 (lb : Int))).setCell ⟨W.heap.size, 6, none⟩ (.int .i64 nb)).frozen? ⟨W.heap.size, 7, none⟩ = false := row_frozen (heap_set_row (heap_set_row G6 (k := 5) (.int .i64 (lb : Int))) (k := 6) (.int .i64 nb)) 7
  have hgc : gc ≠ W.heap.size := by have := lt_of_blk HG5.out; omega
  have HOA7 := hid (fun (h : 0 < n) => own_sets (own_sets (own_sets (own_below (HOA4.out h) b6) hga 5 (.int .i64 (lb : Int))) hga 6 (.int .i64 nb)) hga 7 (sls gc n kc))
  have HOB7 := hid (fun (h : 0 < n) => own_sets (own_sets (own_sets (own_below (HOB4.out h) b6) hgb 5 (.int .i64 (lb : Int))) hgb 6 (.int .i64 nb)) hgb 7 (sls gc n kc))
  have HOC7 := hid (fun (h : 0 < n) => own_sets (own_sets (own_sets (oc h) hgc 5 (.int .i64 (lb : Int))) hgc 6 (.int .i64 nb)) hgc 7 (sls gc n kc))
  have HG7 := hid (heap_set_row (heap_set_row (heap_set_row G6 (k := 5) (.int .i64 (lb : Int))) (k := 6) (.int .i64 nb)) (k := 7) (sls gc n kc))
  have HW7 := hid (bel_set (b := W.heap.size) (k := 7) (bel_set (b := W.heap.size) (k := 6) (bel_set (b := W.heap.size) (k := 5) HB6.out (Nat.le_refl _) (.int .i64 (lb : Int))) (Nat.le_refl _) (.int .i64 nb)) (Nat.le_refl _) (sls gc n kc))
  have HLC := hid (show W.heap.size ≤ gc by have := HW5.out.size; omega)
  have HBC := hid (show 0 < n → gb ≠ gc from fun h => by have := HSZ4.out h; omega)
  obtain ⟨W7, hW7⟩ : ∃ W7, ((w6.setCell ⟨W.heap.size, 5, none⟩ (.int .i64 (lb : Int))).setCell ⟨W.heap.size, 6, none⟩ (.int .i64 nb)).setCell ⟨W.heap.size, 7, none⟩ (sls gc n kc) = W7 := ⟨_, rfl⟩
  rw [hW7] at HOA7 HOB7 HOC7 HG7 HW7
  have HO := hid (show CopyO N n K P W (.returned (.pointer (some ⟨W.heap.size, 0, none⟩))) W7 from by
    have q2 : Pr ⟨W.heap.size, ga, gb, gc, ka, kb, kc, n⟩ st sv lt nt mt lb nb mb s k W7 :=
      ⟨HG7.out, HOA7.out, HOB7.out, HOC7.out, HL.out.1, HL.out.2.1, HL.out.2.2.1, HBC.out, HL.out.2.2.2⟩
    have hown : ∀ g, (⟨W.heap.size, ga, gb, gc, ka, kb, kc, n⟩ : Adr).own g → W.heap.size ≤ g := by
      rintro g (h | ⟨_, h | h | h⟩)
      · exact Nat.le_of_eq h.symm
      · rw [h]; exact HLA.out
      · rw [h]; exact HLB.out
      · rw [h]; exact HLC.out
    exact ⟨_, rfl, ⟨HFIN.out _ _ rfl q2, fun g hg => Nat.le_trans HN.out (hown g hg), rfl⟩, HW7.out, hown⟩)
  clear C3 lc oc b6 G6 HB6 HW5 HG5 HOA4 HOB4 hW5 HOA7 HOB7 HOC7 HG7 HW7 HLA HLB HLC HBC HFIN HL
  go_wp2_with (fail)
  go_ret
  exact HO.out
end Go.Proofs.Ytkodfojccodoaaa
