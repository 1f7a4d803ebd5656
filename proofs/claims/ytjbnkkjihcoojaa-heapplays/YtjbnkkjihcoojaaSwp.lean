/- Two variables of the row change places. -/
import Derived.Test.YtjbnkkjihcoojaaCmp
namespace Go.Proofs.Ytjbnkkjihcoojaa
open Go.RowKit Go.Maps
set_option linter.unusedVariables false
set_option maxRecDepth 100000

theorem own_setc {W : World} {base n e g c : Nat} {xs : List Value} (h : W.ownsRow base e 1 (.slice (some ⟨g, 0, none⟩) n c) n xs) (k : Nat) (u : Value) : (W.setCell ⟨g, k, none⟩ u).ownsRow base e 1 (.slice (some ⟨g, 0, none⟩) n c) n (xs.set k u) := by
  rcases h.2 with ⟨e1, _⟩ | ⟨g', c', cur, e1, h1, h2, h3, h4, h5, h6⟩
  · cases e1
  · cases e1
    rw [Nat.mul_one] at h5 h6
    refine own_mk h1 (heap_set_row h2 u) h3 h4 (by simpa using h5) ?_
    rw [Array.toList_setIfInBounds, List.take_set, h6]
theorem iss_set (sc : List Int) (k : Nat) (x : Int) : (iss sc).set k (.int .i64 x) = iss (sc.set k x) := by unfold iss; rw [List.map_set]
theorem ivs_set (vs : List Nat) (k : Nat) (u : Nat) : (ivs vs).set k (.int .i64 ((u : Int) + 1)) = ivs (vs.set k u) := by unfold ivs; rw [List.map_set]
/-- The worlds of a swap. -/
def swW (W : World) (gl gp i j a b : Nat) : World :=
  (((W.setCell ⟨gl, i, none⟩ (.int .i64 ((b : Int) + 1))).setCell ⟨gl, j, none⟩ (.int .i64 ((a : Int) + 1))).setCell ⟨gp, b, none⟩ (.int .i64 i)).setCell ⟨gp, a, none⟩ (.int .i64 j)
theorem Hp.swap {Q : Nat → Prop} {hb gp gl cp cl : Nat} {sv : Value} {n : Nat} {sc : List Int} {vs : List Nat} {pl : List Int} {W : World} (H : Hp Q hb sv (.slice (some ⟨gp, 0, none⟩) n cp) (.slice (some ⟨gl, 0, none⟩) vs.length cl) n sc vs pl W) (i j : Nat) :
    Hp Q hb sv (.slice (some ⟨gp, 0, none⟩) n cp) (.slice (some ⟨gl, 0, none⟩) vs.length cl) n sc (Hpp.swp vs i j) ((pl.set (vs.getD j 0) i).set (vs.getD i 0) j) (swW W gl gp i j (vs.getD i 0) (vs.getD j 0)) ∧ Fq Q W (swW W gl gp i j (vs.getD i 0) (vs.getD j 0)) := by
  obtain ⟨n1, n2, n3, n4, n5⟩ := H.apart
  have hlp : gl ≠ gp := fun e => H.lp gl rfl (by rw [e]; rfl)
  have hgl : gl ≠ hb := fun e => n3 (by rw [e]; rfl)
  have hgp : gp ≠ hb := fun e => n2 (by rw [e]; rfl)
  have nl := H.nl gl rfl
  have np := H.np gp rfl
  unfold swW
  refine ⟨⟨fun g hg => by simpa [World.setCell] using H.lt g hg, H.nh, H.ns, H.np, H.nl, H.lp, ?_, ?_, ?_, ?_⟩, ?_⟩
  · rw [heap_other _ _ (fun e => hgp e.symm), heap_other _ _ (fun e => hgp e.symm), heap_other _ _ (fun e => hgl e.symm), heap_other _ _ (fun e => hgl e.symm)]
    exact H.blk
  · refine own_keep (own_keep (own_keep (own_keep H.scs ?_ _) ?_ _) ?_ _) ?_ _
    · exact fun e => n5 gl e rfl
    · exact fun e => n5 gl e rfl
    · exact fun e => n4 gp e rfl
    · exact fun e => n4 gp e rfl
  · have h2 := own_keep (own_keep H.pls (tb := gl) (t := i) (fun e => by cases e; exact hlp rfl) (.int .i64 ((vs.getD j 0 : Nat) + 1 : Int))) (tb := gl) (t := j) (fun e => by cases e; exact hlp rfl) (.int .i64 ((vs.getD i 0 : Nat) + 1 : Int))
    have h4 := own_setc (own_setc h2 (vs.getD j 0) (.int .i64 i)) (vs.getD i 0) (.int .i64 j)
    rw [iss_set, iss_set] at h4
    exact h4
  · have h2 := own_setc (own_setc H.row i (.int .i64 ((vs.getD j 0 : Nat) + 1 : Int))) j (.int .i64 ((vs.getD i 0 : Nat) + 1 : Int))
    rw [ivs_set, ivs_set] at h2
    have h4 := own_keep (own_keep h2 (tb := gp) (t := vs.getD j 0) (fun e => by cases e; exact hlp rfl) (.int .i64 i)) (tb := gp) (t := vs.getD i 0) (fun e => by cases e; exact hlp rfl) (.int .i64 j)
    rw [Hpp.swp_len]
    exact h4
  · exact (((Fq.set W _ nl).trans (Fq.set _ _ nl)).trans (Fq.set _ _ np)).trans (Fq.set _ _ np)
/-- Places in memory. -/
theorem Hp.pat {Q : Nat → Prop} {hb : Nat} {sv pv lv : Value} {n : Nat} {sc : List Int} {vs : List Nat} {pl : List Int} {W : World} (H : Hp Q hb sv pv lv n sc vs pl W) (h0 : 0 < n) :
    ∃ g c, pv = .slice (some ⟨g, 0, none⟩) n c ∧ (∀ k, k < n → W.cell? ⟨g, k, none⟩ = some (.int .i64 (pl.getD k 0))) ∧ (∀ k, W.frozen? ⟨g, k, none⟩ = false) := by
  obtain ⟨g, c, cur, e1, _, hg, _⟩ := own_some H.pls h0
  have hr := H.pls
  have hl := iss_len hr
  subst e1
  refine ⟨g, c, rfl, fun k hk => ?_, fun k => row_frozen hg k⟩
  have := World.ownsRow.cellAt hr k (by omega)
  rw [this, iss_at (by omega)]
/-- What is left of the row, with its value. -/
def SwO (Q : Nat → Prop) (hb : Nat) (sv pv lv : Value) (n : Nat) (sc : List Int) (vs : List Nat) (pl : List Int) (W w' : World) : Prop := Hp Q hb sv pv lv n sc vs pl w' ∧ Fq Q W w'
theorem set_get {W : World} {b k j : Nat} {v u : Value} (h : ∃ x, W.cell? ⟨b, k, none⟩ = some x) (hj : ∃ x, W.cell? ⟨b, j, none⟩ = some x) : ∃ x, (W.setCell ⟨b, k, none⟩ v).cell? ⟨b, j, none⟩ = some x := by
  obtain ⟨x, hx⟩ := h
  obtain ⟨y, hy⟩ := hj
  by_cases e : k = j
  · subst e; exact ⟨v, World.cell?_setCell_same _ _ _ hx⟩
  · exact ⟨y, (World.cell?_setCell_other _ _ _ _ (by intro e'; simp only [Addr.mk.injEq] at e'; omega)).trans hy⟩
set_option maxHeartbeats 2000000 in
theorem swap99 {Q : Nat → Prop} {hb : Nat} {sv pv lv : Value} {n : Nat} {sc : List Int} {vs : List Nat} {pl : List Int} {W : World} (H : Hp Q hb sv pv lv n sc vs pl W) (hp : Hpp.Pl n vs pl) (hn : n ≤ 1048576) {i j : Nat} (hi : i < vs.length) (hj : j < vs.length) :
    Calls Try.prog 99 #[.pointer (some ⟨hb, 1, none⟩), .int .i64 i, .int .i64 j] W fun e w' => e = .returned (.tuple #[]) ∧ SwO Q hb sv pv lv n sc (Hpp.swp vs i j) ((pl.set (vs.getD j 0) i).set (vs.getD i 0) j) W w' := by
  have ai := (hp.at_ i hi).1
  have aj := (hp.at_ j hj).1
  obtain ⟨gl, cl, rfl, hc, hz⟩ := H.at (by omega)
  obtain ⟨gp, cp, rfl, pc, pz⟩ := H.pat (by omega)
  have HS := hid (fun q => (H.below (Drawn.below ⟨q, rfl⟩)).swap (W := W.drewN q) i j)
  have HAP := hid (show gp ≠ hb ∧ gl ≠ hb ∧ gl ≠ gp from ⟨fun e => H.apart.2.1 (by rw [e]; rfl), fun e => H.apart.2.2.1 (by rw [e]; rfl), fun e => H.lp gl rfl (by rw [e]; rfl)⟩)
  have c1 := row_cell H.blk 1
  have c2 := row_cell H.blk 2
  have ci := hc i hi
  have cj := hc j hj
  have pi := pc _ ai
  have pj := pc _ aj
  have HAB := hid (show (i = j → vs.getD i 0 = vs.getD j 0) ∧ (i ≠ j → vs.getD i 0 ≠ vs.getD j 0) from ⟨fun e => by rw [e], fun e k => e (hp.inj hi hj k)⟩)
  have hi' : (i : Int) < vs.length := by omega
  have hj' : (j : Int) < vs.length := by omega
  have hi0 : (0 : Int) ≤ i := by omega
  have hj0 : (0 : Int) ≤ j := by omega
  have hi2 : ((vs.getD i 0 : Nat) : Int) < n := by omega
  have hj2 : ((vs.getD j 0 : Nat) : Int) < n := by omega
  have hi3 : (0 : Int) ≤ (vs.getD i 0 : Nat) := by omega
  have hj3 : (0 : Int) ≤ (vs.getD j 0 : Nat) := by omega
  generalize Hpp.swp vs i j = vs' at *
  generalize (pl.set (vs.getD j 0) i).set (vs.getD i 0) j = pl' at *
  generalize vs.getD i 0 = a at *
  generalize vs.getD j 0 = b at *
  generalize pl.getD a 0 = pa at *
  generalize pl.getD b 0 = pb at *
  generalize vs.length = m at *
  clear H hp hc pc
  have hlh : gl ≠ hb := by rintro rfl; exact HAP.out.2.1 rfl
  have hph : gp ≠ hb := by rintro rfl; exact HAP.out.1 rfl
  have hlp : gl ≠ gp := by rintro rfl; exact HAP.out.2.2 rfl
  go_enter Try.func99, Try.ntmps99
  go_wp2_with (fail)
  go_quiet (fail)
  by_cases hij : i = j
  · subst hij
    have fi := hz i
    go_wp2_with (fail)
    go_region
    all_goals
      have d2 : (((W.drewN (nq + 1)).setCell ⟨gl, i, none⟩ (.int .i64 ((b : Int) + 1))).setCell ⟨gl, i, none⟩ (.int .i64 ((a : Int) + 1))).cell? ⟨hb, 2, none⟩ = some (.slice (some ⟨gp, 0, none⟩) n cp) := by
        rw [World.cell?_setCell_other _ _ _ _ (by intro e'; simp only [Addr.mk.injEq] at e'; exact hlh e'.1), World.cell?_setCell_other _ _ _ _ (by intro e'; simp only [Addr.mk.injEq] at e'; exact hlh e'.1)]; exact c2
      have da : (((W.drewN (nq + 1)).setCell ⟨gl, i, none⟩ (.int .i64 ((b : Int) + 1))).setCell ⟨gl, i, none⟩ (.int .i64 ((a : Int) + 1))).cell? ⟨gp, a, none⟩ = some (.int .i64 pa) := by
        rw [World.cell?_setCell_other _ _ _ _ (by intro e'; simp only [Addr.mk.injEq] at e'; exact hlp e'.1), World.cell?_setCell_other _ _ _ _ (by intro e'; simp only [Addr.mk.injEq] at e'; exact hlp e'.1)]; exact pi
      have db : (((W.drewN (nq + 1)).setCell ⟨gl, i, none⟩ (.int .i64 ((b : Int) + 1))).setCell ⟨gl, i, none⟩ (.int .i64 ((a : Int) + 1))).cell? ⟨gp, b, none⟩ = some (.int .i64 pb) := by
        rw [World.cell?_setCell_other _ _ _ _ (by intro e'; simp only [Addr.mk.injEq] at e'; exact hlp e'.1), World.cell?_setCell_other _ _ _ _ (by intro e'; simp only [Addr.mk.injEq] at e'; exact hlp e'.1)]; exact pj
      have fa : (((W.drewN (nq + 1)).setCell ⟨gl, i, none⟩ (.int .i64 ((b : Int) + 1))).setCell ⟨gl, i, none⟩ (.int .i64 ((a : Int) + 1))).frozen? ⟨gp, a, none⟩ = false := by
        rw [World.frozen?_setCell, World.frozen?_setCell]; exact pz a
      have fb : (((W.drewN (nq + 1)).setCell ⟨gl, i, none⟩ (.int .i64 ((b : Int) + 1))).setCell ⟨gl, i, none⟩ (.int .i64 ((a : Int) + 1))).frozen? ⟨gp, b, none⟩ = false := by
        rw [World.frozen?_setCell, World.frozen?_setCell]; exact pz b
      obtain ⟨W2, hW2⟩ : ∃ W2, (((W.drewN (nq + 1)).setCell ⟨gl, i, none⟩ (.int .i64 ((b : Int) + 1))).setCell ⟨gl, i, none⟩ (.int .i64 ((a : Int) + 1))) = W2 := ⟨_, rfl⟩
      rw [hW2] at d2 da db fa fb ⊢
      have HW2 := hid hW2
      clear hW2 ci cj c1 c2 pi pj hz pz
      obtain rfl : a = b := HAB.out.1 (by trivial)
      obtain rfl : pa = pb := by rw [da] at db; cases db; rfl
      go_wp2_with (fail)
      go_region
      all_goals
        go_end0
        refine ⟨rfl, ?_⟩
        rw [← HW2.out]
        exact ⟨(HS.out (nq + 2)).1, (show Fq Q W (W.drewN (nq + 2)) from Fq.of_below (Drawn.below ⟨_, rfl⟩)).trans (HS.out (nq + 2)).2⟩
  · have hij2 : ¬ j = i := fun e => hij e.symm
    have fi := hz i
    have fj := hz j
    go_wp2_with (fail)
    go_region
    all_goals
      have d2 : (((W.drewN (nq + 1)).setCell ⟨gl, i, none⟩ (.int .i64 ((b : Int) + 1))).setCell ⟨gl, j, none⟩ (.int .i64 ((a : Int) + 1))).cell? ⟨hb, 2, none⟩ = some (.slice (some ⟨gp, 0, none⟩) n cp) := by
        rw [World.cell?_setCell_other _ _ _ _ (by intro e'; simp only [Addr.mk.injEq] at e'; exact hlh e'.1), World.cell?_setCell_other _ _ _ _ (by intro e'; simp only [Addr.mk.injEq] at e'; exact hlh e'.1)]; exact c2
      have da : (((W.drewN (nq + 1)).setCell ⟨gl, i, none⟩ (.int .i64 ((b : Int) + 1))).setCell ⟨gl, j, none⟩ (.int .i64 ((a : Int) + 1))).cell? ⟨gp, a, none⟩ = some (.int .i64 pa) := by
        rw [World.cell?_setCell_other _ _ _ _ (by intro e'; simp only [Addr.mk.injEq] at e'; exact hlp e'.1), World.cell?_setCell_other _ _ _ _ (by intro e'; simp only [Addr.mk.injEq] at e'; exact hlp e'.1)]; exact pi
      have db : (((W.drewN (nq + 1)).setCell ⟨gl, i, none⟩ (.int .i64 ((b : Int) + 1))).setCell ⟨gl, j, none⟩ (.int .i64 ((a : Int) + 1))).cell? ⟨gp, b, none⟩ = some (.int .i64 pb) := by
        rw [World.cell?_setCell_other _ _ _ _ (by intro e'; simp only [Addr.mk.injEq] at e'; exact hlp e'.1), World.cell?_setCell_other _ _ _ _ (by intro e'; simp only [Addr.mk.injEq] at e'; exact hlp e'.1)]; exact pj
      have fa : (((W.drewN (nq + 1)).setCell ⟨gl, i, none⟩ (.int .i64 ((b : Int) + 1))).setCell ⟨gl, j, none⟩ (.int .i64 ((a : Int) + 1))).frozen? ⟨gp, a, none⟩ = false := by
        rw [World.frozen?_setCell, World.frozen?_setCell]; exact pz a
      have fb : (((W.drewN (nq + 1)).setCell ⟨gl, i, none⟩ (.int .i64 ((b : Int) + 1))).setCell ⟨gl, j, none⟩ (.int .i64 ((a : Int) + 1))).frozen? ⟨gp, b, none⟩ = false := by
        rw [World.frozen?_setCell, World.frozen?_setCell]; exact pz b
      obtain ⟨W2, hW2⟩ : ∃ W2, (((W.drewN (nq + 1)).setCell ⟨gl, i, none⟩ (.int .i64 ((b : Int) + 1))).setCell ⟨gl, j, none⟩ (.int .i64 ((a : Int) + 1))) = W2 := ⟨_, rfl⟩
      rw [hW2] at d2 da db fa fb ⊢
      have HW2 := hid hW2
      clear hW2 ci cj c1 c2 pi pj hz pz
      have hab : ¬ a = b := HAB.out.2 hij
      have hab2 : ¬ b = a := fun e => hab e.symm
      go_wp2_with (fail)
      go_region
      all_goals
        go_end0
        refine ⟨rfl, ?_⟩
        rw [← HW2.out]
        exact ⟨(HS.out (nq + 2)).1, (show Fq Q W (W.drewN (nq + 2)) from Fq.of_below (Drawn.below ⟨_, rfl⟩)).trans (HS.out (nq + 2)).2⟩
end Go.Proofs.Ytjbnkkjihcoojaa
