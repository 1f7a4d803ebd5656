/- The statement's own function CnfClauses answers true: the walk. -/
import Derived.Test.YtccbcijkahnkkaaRefR
import Derived.Deep.DeepCutAuto
namespace Go.Proofs.Ytccbcijkahnkkaa
open Go.RowKit
set_option linter.unusedVariables false

/-- A row of the call's own that may be written over: it lies in a block from lo on, ahead of hi. -/
def Blk (lo hi : Nat) (w : World) (v : Value) (n : Nat) : Prop :=
  n = 0 ∨ ∃ g cap cur, v = .slice (some ⟨g, 0, none⟩) n cap ∧ lo ≤ g ∧ g < hi ∧ w.heap[g]? = some (.cells cur 40 (0, 0)) ∧ n ≤ cur.size

theorem blk_of_own {w : World} {base : Nat} {v : Value} {n : Nat} {xs : List Value} (h : w.ownsRow base 40 1 v n xs) : Blk base w.heap.size w v n := by
  rcases h.2 with ⟨_, h0⟩ | ⟨g, cap, cur, hv, hg, hh, hn, _, hs, _⟩
  · exact .inl h0
  · exact .inr ⟨g, cap, cur, hv, hg, (Array.getElem?_eq_some_iff.1 hh).1, hh, by omega⟩

theorem Blk.below {lo hi : Nat} {w w' : World} {v : Value} {n : Nat} (h : Blk lo hi w v n) (hb : Below hi w w') : Blk lo hi w' v n := by
  rcases h with h0 | ⟨g, cap, cur, hv, hg, hl, hh, hn⟩
  · exact .inl h0
  · exact .inr ⟨g, cap, cur, hv, hg, hl, by rw [hb.block g hl]; exact hh, hn⟩

theorem Blk.lo {lo lo' hi : Nat} {w : World} {v : Value} {n : Nat} (h : Blk lo hi w v n) (hl : lo' ≤ lo) : Blk lo' hi w v n := by
  rcases h with h0 | ⟨g, cap, cur, hv, hg, r⟩
  · exact .inl h0
  · exact .inr ⟨g, cap, cur, hv, Nat.le_trans hl hg, r⟩

theorem heap_set (w : World) (g k : Nat) (x : Value) (cur : Array Value) (e : TypeId) (fr : Nat × Nat) (h : w.heap[g]? = some (.cells cur e fr)) : (w.setCell ⟨g, k, none⟩ x).heap[g]? = some (.cells (cur.setIfInBounds k x) e fr) := by
  simp [World.setCell, Array.getElem?_modify, h]

theorem Blk.at {lo hi : Nat} {w : World} {v : Value} {n k : Nat} (h : Blk lo hi w v n) (hk : k < n) :
    ∃ g cap u, v = .slice (some ⟨g, 0, none⟩) n cap ∧ lo ≤ g ∧ g < hi ∧ w.cell? ⟨g, k, none⟩ = some u ∧ w.frozen? ⟨g, k, none⟩ = false ∧ ∀ x, Blk lo hi (w.setCell ⟨g, k, none⟩ x) v n := by
  rcases h with h0 | ⟨g, cap, cur, hv, hg, hl, hh, hn⟩
  · omega
  · have hk' : k < cur.size := by omega
    refine ⟨g, cap, cur[k], hv, hg, hl, ?_, ?_, fun x => .inr ⟨g, cap, _, hv, hg, hl, heap_set w g k x cur _ _ hh, by simpa using hn⟩⟩
    · simp [World.cell?, hh, hk']
    · simp [World.frozen?, hh]

theorem Blk.other {lo hi : Nat} {w : World} {v : Value} {n : Nat} (h : Blk lo hi w v n) {g k : Nat} (hg : g < lo ∨ hi ≤ g) (x : Value) : Blk lo hi (w.setCell ⟨g, k, none⟩ x) v n := by
  rcases h with h0 | ⟨g', cap, cur, hv, hg', hl, hh, hn⟩
  · exact .inl h0
  · exact .inr ⟨g', cap, cur, hv, hg', hl, by rw [Below.heap_setCell _ _ _ _ (by show g' ≠ g; omega)]; exact hh, hn⟩

set_option maxHeartbeats 8000000 in
set_option maxRecDepth 100000 in
theorem clauses4_small (a b : Option Addr) (na ca nb cb : Nat) (xa xb : List Int) (v : Int) (w : World) (hna : xa.length = na) (hnb : xb.length = nb) (ha : Lits w a xa) (hb : Lits w b xb)
    (h1 : ¬ (300 : Int) < (na : Int)) (h2 : ¬ (300 : Int) < (nb : Int)) :
    Calls Try.prog 4 #[.slice a na ca, .slice b nb cb, .int .i64 v] w fun e w' => e = .returned (.bool true) ∧ Below w.heap.size w w' := by
  have HA := hid ha
  have HB := hid hb
  have HNA := hid hna
  have HNB := hid hnb
  clear ha hb hna hnb
  go_enter Try.func4, Try.ntmps4
  go_wp2_with fail
  refine (own15 a na ca xa w HNA.out (by omega) HA.out).mono ?_
  rintro e w1 ⟨vc, rfl, o1, b1⟩
  obtain ⟨ac, cc, rfl, lc1⟩ := own_at HA.out.1 o1
  have B1 := hid b1
  have LC1 := hid lc1
  clear o1 b1 lc1
  go_wp2_with fail
  refine (own15 b nb cb xb w1 HNB.out (by omega) (HB.out.below B1.out)).mono ?_
  rintro e w2 ⟨vd, rfl, o2, b2⟩
  obtain ⟨ad, cd, rfl, ld2⟩ := own_at HB.out.1 o2
  have B2 := hid (B1.out.trans (b2.mono B1.out.size))
  have LC := hid (LC1.out.below b2)
  have LD := hid ld2
  have LA := hid (HA.out.below B2.out)
  have LB := hid (HB.out.below B2.out)
  clear o2 b2 ld2 LC1 B1 HA HB
  -- from here on all is told from w2
  go_wp2_with fail
  refine (normal16 ac na cc xa w2 HNA.out (by omega) LC.out).mono ?_
  rintro e w3 ⟨v3, ys, rfl, n3, o3, b3, l3⟩
  obtain ⟨a3, c3, rfl, lx3⟩ := own_at (fun x hx => LA.out.1 x ((n3.2 x).1 hx)) o3
  have X3 := hid (blk_of_own o3)
  have B3 := hid b3
  have N3 := hid n3
  have LX3 := hid lx3
  have hs3 := b3.size
  clear o3 b3 n3 lx3
  go_wp2_with fail
  refine (normal17 a na ca xa w3 HNA.out (by omega) (LA.out.below B3.out)).mono ?_
  rintro e w4 ⟨v4, ys', rfl, n4, o4, b4, l4⟩
  obtain rfl : ys' = ys := n4.unique N3.out
  obtain ⟨a4, c4, rfl, ly4⟩ := own_at (fun x hx => LA.out.1 x ((n4.2 x).1 hx)) o4
  have B4 := hid (B3.out.trans (b4.mono hs3))
  have X4 := hid (X3.out.below b4)
  have LX4 := hid (LX3.out.below b4)
  have LY4 := hid ly4
  have hs4 := b4.size
  clear o4 b4 n4 ly4 LX3 X3 N3 B3
  go_wp2_with fail
  refine (resolve18 ac ad na cc nb cd xa xb v w4 HNA.out HNB.out (by omega) (by omega) (LC.out.below B4.out) (LD.out.below B4.out)).mono ?_
  rintro e w5 ⟨v5, zs, rfl, n5, o5, b5, l5⟩
  have HRB : Hid (∀ x ∈ Cnf.rest xa xb v, -2147483648 ≤ x ∧ x ≤ 2147483647) := by
    intro x hx
    unfold Cnf.rest at hx
    split at hx
    · rcases List.mem_append.1 hx with h | h
      · exact LA.out.1 x ((Cnf.mem_but _ _ _).1 h).1
      · exact LB.out.1 x ((Cnf.mem_but _ _ _).1 h).1
    · simp at hx
  obtain ⟨a5, c5, rfl, lp5⟩ := own_at (fun x hx => HRB.out x ((n5.2 x).1 hx)) o5
  have P5 := hid (blk_of_own o5)
  have B5 := hid (B4.out.trans (b5.mono (by omega)))
  have X5 := hid (X4.out.below (b5.mono hs4))
  have LX5 := hid (LX4.out.below b5)
  have LY5 := hid (LY4.out.below b5)
  have LP5 := hid lp5
  have N5 := hid n5
  have hs5 := b5.size
  clear o5 b5 n5 lp5 LX4 LY4 X4 B4
  go_wp2_with fail
  refine (resolve19 a b na ca nb cb xa xb v w5 HNA.out HNB.out (by omega) (by omega) (LA.out.below B5.out) (LB.out.below B5.out)).mono ?_
  rintro e w6 ⟨v6, zs', rfl, n6, o6, b6, l6⟩
  obtain rfl : zs' = zs := n6.unique N5.out
  obtain ⟨a6, c6, rfl, lq6⟩ := own_at (fun x hx => HRB.out x ((n6.2 x).1 hx)) o6
  have B6 := hid (B5.out.trans (b6.mono (by omega)))
  have X6 := hid ((X5.out.below (b6.mono (by omega))))
  have P6 := hid (P5.out.below b6)
  have LX6 := hid (LX5.out.below b6)
  have LY6 := hid (LY5.out.below b6)
  have LP6 := hid (LP5.out.below b6)
  have LQ6 := hid lq6
  have hs6 := b6.size
  clear o6 b6 n6 lq6 LX5 LY5 LP5 X5 P5 N5 B5 HRB
  have S1 : Hid (Calls Try.prog 20 #[.slice a3 ys'.length c3, .slice a4 ys'.length c4] w6 fun e w' => e = .returned (.bool true) ∧ Below w6.heap.size w6 w') :=
    (same20 a3 a4 ys'.length c3 ys'.length c4 ys' ys' w6 rfl rfl (by omega) (by omega) LX6.out LY6.out).mono fun _ _ ⟨he, hd⟩ => ⟨by rw [he]; simp, hd.below'⟩
  have S2 : Hid (∀ W, Below w6.heap.size w6 W → Calls Try.prog 20 #[.slice a5 zs'.length c5, .slice a6 zs'.length c6] W fun e w' => e = .returned (.bool true) ∧ Below w6.heap.size w6 w') := fun W hW =>
    (same20 a5 a6 zs'.length c5 zs'.length c6 zs' zs' W rfl rfl (by omega) (by omega) (LP6.out.below hW) (LQ6.out.below hW)).mono fun _ _ ⟨he, hd⟩ => ⟨by rw [he]; simp, hd.below hW⟩
  have T1 : Hid (∀ W, Below w6.heap.size w6 W → Calls Try.prog 21 #[.slice ac na cc, .slice ad nb cd] W fun e w' => e = .returned (.bool (Cnf.sub xa xb && Cnf.sub xb xa)) ∧ Below w6.heap.size w6 w') := fun W hW =>
    (same21 ac ad na cc nb cd xa xb W HNA.out HNB.out (by omega) (by omega) ((LC.out.below B6.out).below hW) ((LD.out.below B6.out).below hW)).mono fun _ _ ⟨he, hb⟩ => ⟨he, hW.trans (hb.mono hW.size)⟩
  have T2 : Hid (∀ W, Below w6.heap.size w6 W → Calls Try.prog 22 #[.slice a na ca, .slice b nb cb] W fun e w' => e = .returned (.bool (Cnf.sub xa xb && Cnf.sub xb xa)) ∧ w' = W) := fun W hW =>
    same22 a b na ca nb cb xa xb W HNA.out HNB.out (by omega) (by omega) ((LA.out.below B6.out).below hW) ((LB.out.below B6.out).below hW)
  have U1 : Hid (∀ W, Below w6.heap.size w6 W → Calls Try.prog 23 #[.slice ac na cc, .slice ad nb cd] W fun e w' => e = .returned (.bool (Cnf.sub xa xb)) ∧ Below w6.heap.size w6 w') := fun W hW =>
    (subsumes23 ac ad na cc nb cd xa xb W HNA.out HNB.out (by omega) (by omega) ((LC.out.below B6.out).below hW) ((LD.out.below B6.out).below hW)).mono fun _ _ ⟨he, hb⟩ => ⟨he, hW.trans (hb.mono hW.size)⟩
  have U2 : Hid (∀ W, Below w6.heap.size w6 W → Calls Try.prog 24 #[.slice a na ca, .slice b nb cb] W fun e w' => e = .returned (.bool (Cnf.sub xa xb)) ∧ w' = W) := fun W hW =>
    sub24 a b na ca nb cb xa xb W HNA.out HNB.out (by omega) (by omega) ((LA.out.below B6.out).below hW) ((LB.out.below B6.out).below hW)
  have V1 : Hid (∀ W, Below w2.heap.size w2 W → Calls Try.prog 20 #[.slice a na ca, .slice ac na cc] W fun e w' => e = .returned (.bool true) ∧ Below w2.heap.size w2 w') := fun W hW =>
    (same20 a ac na ca na cc xa xa W HNA.out HNA.out (by omega) (by omega) (LA.out.below hW) (LC.out.below hW)).mono fun _ _ ⟨he, hd⟩ => ⟨by rw [he]; simp, hd.below hW⟩
  have V2 : Hid (∀ W, Below w2.heap.size w2 W → Calls Try.prog 20 #[.slice b nb cb, .slice ad nb cd] W fun e w' => e = .returned (.bool true) ∧ Below w2.heap.size w2 w') := fun W hW =>
    (same20 b ad nb cb nb cd xb xb W HNB.out HNB.out (by omega) (by omega) (LB.out.below hW) (LD.out.below hW)).mono fun _ _ ⟨he, hd⟩ => ⟨by rw [he]; simp, hd.below hW⟩
  clear LX6 LY6 LP6 LQ6 LA LB LC LD
  generalize Cnf.both xa = bo1 at *
  generalize Cnf.both (Cnf.rest xa xb v) = bo2 at *
  generalize Cnf.errRes xa xb v = er at *
  generalize Cnf.sub xa xb = s1 at *
  generalize (s1 && Cnf.sub xb xa) = s2 at *
  generalize ys'.length = ny at *
  generalize zs'.length = nz at *
  have q1 : (bo1 == bo1) = true := by cases bo1 <;> rfl
  have q2 : (bo2 == bo2) = true := by cases bo2 <;> rfl
  have q3 : (er == er) = true := by simp
  have q4 : (s1 == s1) = true := by cases s1 <;> rfl
  have q5 : (s2 == s2) = true := by cases s2 <;> rfl
  go_wp2_with fail
  refine S1.out.mono ?_
  rintro e w7 ⟨rfl, g7⟩
  have G7 := hid g7
  clear g7
  go_wp2_with fail
  refine (S2.out _ G7.out).mono ?_
  rintro e w8 ⟨rfl, g8⟩
  have G8 := hid g8
  clear g8
  go_wp2_with fail
  refine (T1.out _ G8.out).mono ?_
  rintro e w9 ⟨rfl, g9⟩
  have G9 := hid g9
  clear g9
  go_wp2_with fail
  refine (T2.out _ G9.out).mono ?_
  rintro e w' ⟨rfl, hw⟩
  obtain rfl := hw.symm
  go_wp2_with fail
  refine (U1.out _ G9.out).mono ?_
  rintro e w10 ⟨rfl, g10⟩
  have G10 := hid g10
  clear g10
  go_wp2_with fail
  refine (U2.out _ G10.out).mono ?_
  rintro e w' ⟨rfl, hw⟩
  obtain rfl := hw.symm
  have BB := hid (B6.out.trans (G10.out.mono (by omega)))
  have XX := hid (X6.out.below (G10.out.mono (by omega)))
  have PP := hid (P6.out.below (G10.out.mono (by omega)))
  clear S1 S2 T1 T2 U1 U2 G7 G8 G9 G10 B6 X6 P6 q1 q2 q3 q4 q5
  go_wp2_with fail
  go_loopw [20] (fun i wr => ∃ k : Nat, k ≤ ny ∧ i = .int .i64 k ∧ Blk w2.heap.size w3.heap.size wr (.slice a3 ny c3) ny ∧ Blk w4.heap.size w5.heap.size wr (.slice a5 nz c5) nz ∧ Below w2.heap.size w2 wr) (fun i _ => ny - (intOf i).toNat)
  case atStart => exact ⟨0, Nat.zero_le _, rfl, XX.out, PP.out, BB.out⟩
  case round =>
    clear XX PP BB
    obtain ⟨k, hk, rfl, hX, hP, hBB⟩ := hrel
    by_cases hlt : k < ny
    · obtain ⟨g, cg, u, ev, hg1, hg2, hcell, hfz, hnx⟩ := hX.at hlt
      simp only [Value.slice.injEq, true_and] at ev
      obtain ⟨rfl, rfl⟩ := ev
      have HX := hid (hnx (.int .i32 7))
      have HP := hid (hP.other (g := g) (k := k) (by omega) (.int .i32 7))
      have HBB := hid (hBB.setCell (p := ⟨g, k, none⟩) hg1 (.int .i32 7))
      clear hX hP hBB hnx
      go_wp2
      go_roundw
      case rel => exact ⟨k + 1, by omega, by go_num, HX.out, HP.out, HBB.out⟩
      case measure => simp [intOf]; omega
    · have PP := hid hP
      have BB := hid hBB
      clear hX hP hBB
      go_wp2
      clear hlt hk
      go_loopw [21] (fun i wr => ∃ k : Nat, k ≤ nz ∧ i = .int .i64 k ∧ Blk w4.heap.size w5.heap.size wr (.slice a5 nz c5) nz ∧ Below w2.heap.size w2 wr) (fun i _ => nz - (intOf i).toNat)
      case atStart => exact ⟨0, Nat.zero_le _, rfl, PP.out, BB.out⟩
      case round =>
        clear PP BB
        obtain ⟨k, hk, rfl, hP, hBB⟩ := hrel
        by_cases hlt : k < nz
        · obtain ⟨g, cg, u, ev, hg1, hg2, hcell, hfz, hnx⟩ := hP.at hlt
          simp only [Value.slice.injEq, true_and] at ev
          obtain ⟨rfl, rfl⟩ := ev
          have HP := hid (hnx (.int .i32 7))
          have HBB := hid (hBB.setCell (p := ⟨g, k, none⟩) (by show w2.heap.size ≤ g; omega) (.int .i32 7))
          clear hP hBB hnx
          go_wp2
          go_roundw
          case rel => exact ⟨k + 1, by omega, by go_num, HP.out, HBB.out⟩
          case measure => simp [intOf]; omega
        · have BB := hid hBB
          clear hP hBB
          go_wp2_with fail
          refine (V1.out _ BB.out).mono ?_
          rintro e x1 ⟨rfl, g1⟩
          have G1 := hid g1
          clear g1
          go_wp2_with fail
          refine (V2.out _ G1.out).mono ?_
          rintro e x2 ⟨rfl, g2⟩
          have G2 := hid g2
          clear g2
          go_wp2_with fail
          refine (works14 _).mono ?_
          rintro e x3 ⟨rfl, g3⟩
          have G3 := hid ((B2.out.trans (G2.out.mono B2.out.size)).trans (g3.mono (Nat.le_trans B2.out.size G2.out.size)))
          clear g3
          go_wp2
          go_ret
          exact ⟨rfl, G3.out⟩

set_option maxHeartbeats 1000000 in
theorem clauses4_great (a b : Option Addr) (na ca nb cb : Nat) (v : Int) (w : World) (h : (300 : Int) < (na : Int) ∨ (300 : Int) < (nb : Int)) :
    Calls Try.prog 4 #[.slice a na ca, .slice b nb cb, .int .i64 v] w fun e w' => e = .returned (.bool true) ∧ Below w.heap.size w w' := by
  by_cases h1 : (300 : Int) < (na : Int)
  · clear h
    go_enter Try.func4, Try.ntmps4
    go_wp2
    go_ret
    exact ⟨rfl, Below.refl _ _⟩
  have h3 : (300 : Int) < (nb : Int) := by omega
  clear h
  go_enter Try.func4, Try.ntmps4
  go_wp2
  go_ret
  exact ⟨rfl, Below.refl _ _⟩

theorem clauses4 (a b : Option Addr) (na ca nb cb : Nat) (xa xb : List Int) (v : Int) (w : World) (hna : xa.length = na) (hnb : xb.length = nb) (ha : Lits w a xa) (hb : Lits w b xb) :
    Calls Try.prog 4 #[.slice a na ca, .slice b nb cb, .int .i64 v] w fun e w' => e = .returned (.bool true) ∧ Below w.heap.size w w' := by
  by_cases h : (300 : Int) < (na : Int) ∨ (300 : Int) < (nb : Int)
  · exact clauses4_great a b na ca nb cb v w h
  · exact clauses4_small a b na ca nb cb xa xb v w hna hnb ha hb (by omega) (by omega)

end Go.Proofs.Ytccbcijkahnkkaa
