/- Copy. -/
import Derived.Test.YtjnifadfcnpdoaaCln
namespace Go.Proofs.Ytjnifadfcnpdoaa
open Go.RowKit Go.Maps
set_option linter.unusedVariables false
set_option maxRecDepth 100000

theorem inn_one (L : List Nat) : ∀ u ∈ inn L, u.oneCell' = true := by
  intro u hu
  obtain ⟨v, _, rfl⟩ := List.mem_map.1 hu
  rfl
theorem iss_one (L : List Int) : ∀ u ∈ iss L, u.oneCell' = true := by
  intro u hu
  obtain ⟨v, _, rfl⟩ := List.mem_map.1 hu
  rfl
/-- A row cloned at a later world. -/
def ClO (el : TypeId) (W : World) (xs : List Value) (n : Nat) (X : World) (e : Ending) (w' : World) : Prop := ∃ g k, e = .returned (.slice (some ⟨g, 0, none⟩) n k) ∧ X.heap.size ≤ g ∧ w'.ownsRow 0 el 1 (.slice (some ⟨g, 0, none⟩) n k) n xs ∧ Below X.heap.size X w' ∧ Below W.heap.size W w'
theorem cl25 {W : World} {g c n : Nat} {xs : List Value} (hn : n ≤ 1048577) (h0 : 0 < n) (h : W.ownsRow 0 3 1 (.slice (some ⟨g, 0, none⟩) n c) n xs) (h1 : ∀ u ∈ xs, u.oneCell' = true) (X : World) (hX : Below W.heap.size W X) :
    Calls Try.prog 25 #[.slice (some ⟨g, 0, none⟩) n c] X fun e w' => ClO 3 W xs n X e w' := by
  refine (clone25 _ n c xs X (by omega) (own_below h hX) h1).mono ?_
  rintro e w' ⟨o, k, rfl, ho, hb⟩
  obtain ⟨g', c', cur, e1, h2, _⟩ := own_some ho h0
  cases e1
  exact ⟨g', k, rfl, h2, own_base ho (Nat.zero_le _), hb, hX.trans (hb.mono hX.size)⟩
theorem cl26 {W : World} {g c n : Nat} {xs : List Value} (hn : n ≤ 1048577) (h0 : 0 < n) (h : W.ownsRow 0 2 1 (.slice (some ⟨g, 0, none⟩) n c) n xs) (h1 : ∀ u ∈ xs, u.oneCell' = true) (X : World) (hX : Below W.heap.size W X) :
    Calls Try.prog 26 #[.slice (some ⟨g, 0, none⟩) n c] X fun e w' => ClO 2 W xs n X e w' := by
  refine (clone26 _ n c xs X (by omega) (own_below h hX) h1).mono ?_
  rintro e w' ⟨o, k, rfl, ho, hb⟩
  obtain ⟨g', c', cur, e1, h2, _⟩ := own_some ho h0
  cases e1
  exact ⟨g', k, rfl, h2, own_base ho (Nat.zero_le _), hb, hX.trans (hb.mono hX.size)⟩
def CopyOut (n : Nat) (K : Int) (L : List Nat) (st : List Int) (W : World) (e : Ending) (w' : World) : Prop := ∃ B : Adr, e = .returned (.pointer (some ⟨B.qb, 0, none⟩)) ∧ Qx B n K L st w' ∧ Below W.heap.size W w' ∧ ∀ g, B.own g → W.heap.size ≤ g
theorem copyEnd {n m : Nat} {K : Int} {L ah bh : List Nat} {rk st : List Int} {lk g1 g2 g3 g4 k1 k2 k3 k4 : Nat} {W w1 w2 w3 w4 : World} (hm : n + 1 = m) (hg : Qg n K L ah bh rk st lk)
    (o1 : w1.ownsRow 0 3 1 (.slice (some ⟨g1, 0, none⟩) m k1) m (inn ah)) (o2 : w2.ownsRow 0 3 1 (.slice (some ⟨g2, 0, none⟩) m k2) m (inn bh)) (o3 : w3.ownsRow 0 2 1 (.slice (some ⟨g3, 0, none⟩) m k3) m (iss rk)) (o4 : w4.ownsRow 0 2 1 (.slice (some ⟨g4, 0, none⟩) m k4) m (iss st))
    (l1 : W.heap.size ≤ g1) (l2 : w1.heap.size ≤ g2) (l3 : w2.heap.size ≤ g3) (l4 : w3.heap.size ≤ g4) (b2 : Below w1.heap.size w1 w2) (b3 : Below w2.heap.size w2 w3) (b4 : Below w3.heap.size w3 w4) (B1 : Below W.heap.size W w1) (B4 : Below W.heap.size W w4) :
    CopyOut n K L st W (.returned (.pointer (some ⟨w4.heap.size, 0, none⟩))) (w4.alloc (.cells #[.slice (some ⟨g1, 0, none⟩) m k1, .slice (some ⟨g2, 0, none⟩) m k2, .slice (some ⟨g3, 0, none⟩) m k3, .slice (some ⟨g4, 0, none⟩) m k4, .int .i64 (lk : Int)] 53)) := by
  subst hm
  have bx := below_box w4 (.cells #[.slice (some ⟨g1, 0, none⟩) (n + 1) k1, .slice (some ⟨g2, 0, none⟩) (n + 1) k2, .slice (some ⟨g3, 0, none⟩) (n + 1) k3, .slice (some ⟨g4, 0, none⟩) (n + 1) k4, .int .i64 (lk : Int)] 53)
  obtain ⟨_, e1⟩ := own_hp o1
  obtain ⟨_, e3⟩ := own_hp o3
  have := lt_of_blk e1
  have := lt_of_blk e3
  have := B1.size
  have := b2.size
  have := b3.size
  have := b4.size
  refine ⟨⟨w4.heap.size, g1, g2, g3, g4, k1, k2, k3, k4⟩, rfl, ⟨ah, bh, rk, lk, ⟨heap_alloc_new w4 _, ?_, ?_, ?_, own_below o4 bx, ?_, ?_⟩, hg⟩, B4.trans (bx.mono B4.size), ?_⟩
  · exact own_below (own_below (own_below (own_below o1 b2) b3) b4) bx
  · exact own_below (own_below (own_below o2 b3) b4) bx
  · exact own_below (own_below o3 b4) bx
  · show g1 ≠ g2; omega
  · show g3 ≠ g4; omega
  · have := B4.size
    rintro g (h | h | h | h | h) <;> (simp only at h; omega)
set_option maxHeartbeats 4000000 in
theorem copy12 {A : Adr} {n : Nat} {K : Int} {L : List Nat} {st : List Int} {W : World} (H : Qx A n K L st W) :
    Calls Try.prog 12 #[.pointer (some ⟨A.qb, 0, none⟩)] W fun e w' => CopyOut n K L st W e w' := by
  obtain ⟨ah, bh, rk, lk, h1, h2⟩ := H
  have hmx := h2.mx
  have CA := hid (cl25 (W := W) (by omega) (by omega) h1.ahs (inn_one ah))
  have CB := hid (cl25 (W := W) (by omega) (by omega) h1.bhs (inn_one bh))
  have CR := hid (cl26 (W := W) (by omega) (by omega) h1.rks (iss_one rk))
  have CS := hid (cl26 (W := W) (by omega) (by omega) h1.sts (iss_one st))
  have HG := hid h2
  obtain ⟨m, hm⟩ : ∃ m, n + 1 = m := ⟨_, rfl⟩
  have HM := hid hm
  rw [hm] at CA CB CR CS
  have HC := hid (fun (w : World) (hb : Below W.heap.size W w) => show w.cell? ⟨A.qb, 0, none⟩ = some (.slice (some ⟨A.ga, 0, none⟩) m A.ca) ∧ w.cell? ⟨A.qb, 1, none⟩ = some (.slice (some ⟨A.gb, 0, none⟩) m A.cb) ∧ w.cell? ⟨A.qb, 2, none⟩ = some (.slice (some ⟨A.gr, 0, none⟩) m A.cr) ∧ w.cell? ⟨A.qb, 3, none⟩ = some (.slice (some ⟨A.gs, 0, none⟩) m A.cs) ∧ w.cell? ⟨A.qb, 4, none⟩ = some (.int .i64 (lk : Int)) from hm ▸
    ⟨row_cell (h1.below hb).blk 0, row_cell (h1.below hb).blk 1, row_cell (h1.below hb).blk 2, row_cell (h1.below hb).blk 3, row_cell (h1.below hb).blk 4⟩)
  have ⟨c0, c1, c2, c3, c4⟩ := HC.out W (Below.refl _ _)
  clear h1 h2 hmx hm
  go_enter Try.func12, Try.ntmps12
  go_wp2_with (fail)
  have HSX := hid (fun (X : World) (hX : Below W.heap.size W X) => show X.cell? ⟨A.qb, 0, none⟩ = some (.slice (some ⟨A.ga, 0, none⟩) m A.ca) ∧ X.cell? ⟨A.qb, 1, none⟩ = some (.slice (some ⟨A.gb, 0, none⟩) m A.cb) ∧ X.cell? ⟨A.qb, 2, none⟩ = some (.slice (some ⟨A.gr, 0, none⟩) m A.cr) ∧ X.cell? ⟨A.qb, 3, none⟩ = some (.slice (some ⟨A.gs, 0, none⟩) m A.cs) ∧ X.cell? ⟨A.qb, 4, none⟩ = some (.int .i64 (lk : Int)) ∧ Below W.heap.size W X from by
    obtain ⟨a0, a1, a2, a3, a4⟩ := HC.out X hX
    exact ⟨a0, a1, a2, a3, a4, hX⟩)
  clear c0 c1 c2 c3 c4 HC
  go_region_held3 (fun X => X.cell? ⟨A.qb, 0, none⟩ = some (.slice (some ⟨A.ga, 0, none⟩) m A.ca) ∧ X.cell? ⟨A.qb, 1, none⟩ = some (.slice (some ⟨A.gb, 0, none⟩) m A.cb) ∧ X.cell? ⟨A.qb, 2, none⟩ = some (.slice (some ⟨A.gr, 0, none⟩) m A.cr) ∧ X.cell? ⟨A.qb, 3, none⟩ = some (.slice (some ⟨A.gs, 0, none⟩) m A.cs) ∧ X.cell? ⟨A.qb, 4, none⟩ = some (.int .i64 (lk : Int)) ∧ Below W.heap.size W X)
    (first | exact HSX.out _ (Below.refl _ _).drew | exact HSX.out _ HB1 | exact HSX.out _ HB2 | exact HSX.out _ HB3 | exact HSX.out _ HB4 | exact HSX.out _ (HB4.trans ((below_box _ _).mono HB4.size)))
    (first
      | (go_at_call 25; refine (CA.out _ (Below.refl _ _).drew).mono ?_; rintro e w1 ⟨g1, k1, rfl, l1, ow1, hb1, HB1⟩; clear CA)
      | (go_at_call 25; refine (CB.out _ HB1).mono ?_; rintro e w2 ⟨g2, k2, rfl, l2, ow2, hb2, HB2⟩; clear CB)
      | (go_at_call 26; refine (CR.out _ HB2).mono ?_; rintro e w3 ⟨g3, k3, rfl, l3, ow3, hb3, HB3⟩; clear CR)
      | (go_at_call 26; refine (CS.out _ HB3).mono ?_; rintro e w4 ⟨g4, k4, rfl, l4, ow4, hb4, HB4⟩; clear CS))
  all_goals
    have HO := hid (copyEnd (W := W) HM.out HG.out ow1 ow2 ow3 ow4 l1 l2 l3 l4 hb2 hb3 hb4 HB1 HB4)
    clear ow1 ow2 ow3 ow4 l1 l2 l3 l4 hb1 hb2 hb3 hb4 HB1 HB2 HB3 HB4
    go_wp2
    go_ret
    exact HO.out
end Go.Proofs.Ytjnifadfcnpdoaa
