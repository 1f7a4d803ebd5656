/- The document's own Resolve. -/
import Derived.Test.YtccbcijkahnkkaaRefN
namespace Go.Proofs.Ytccbcijkahnkkaa
open Go.RowKit
set_option linter.unusedVariables false

set_option maxHeartbeats 1000000 in
theorem resolve19_range (va vb : Value) (v : Int) (w : World) (hv : v < 1 ∨ 2147483647 < v) :
    Calls Try.prog 19 #[va, vb, .int .i64 v] w fun e w' => e = .returned (.tuple #[.slice none 0 0, .bool false, .int .i64 2]) ∧ w' = w := by
  rcases hv with h | h
  · go_enter Try.func19, Try.ntmps19
    go_wp2
    go_ret3
    exact ⟨tup3 rfl rfl rfl, rfl⟩
  · have h' : ¬ v < 1 := by omega
    go_enter Try.func19, Try.ntmps19
    go_wp2
    go_ret3
    exact ⟨tup3 rfl rfl rfl, rfl⟩

set_option maxHeartbeats 2000000 in
theorem resolve19_has (a b : Option Addr) (na ca nb cb : Nat) (xa xb : List Int) (v : Int) (w : World) (h1 : 1 ≤ v) (h2 : v ≤ 2147483647) (hna : xa.length = na) (hnb : xb.length = nb) (hN : na ≤ 1099511627776) (hN' : nb ≤ 1099511627776)
    (ha : Lits w a xa) (hb : Lits w b xb) (hh : Cnf.has xa v = false ∨ Cnf.has xb (-v) = false) :
    Calls Try.prog 19 #[.slice a na ca, .slice b nb cb, .int .i64 v] w fun e w' => e = .returned (.tuple #[.slice none 0 0, .bool false, .int .i64 2]) ∧ w' = w := by
  have A := hid (has30 a na ca xa v w hna hN ha)
  have B := hid (has30 b nb cb xb (-v) w hnb hN' hb)
  clear ha hb hna hnb
  generalize Cnf.has xa v = p at *
  generalize Cnf.has xb (-v) = q at *
  cases p
  · clear hh
    go_enter Try.func19, Try.ntmps19
    go_wp2_with fail
    refine A.out.mono ?_
    rintro e w' ⟨rfl, rfl⟩
    go_wp2_with fail
    go_ret3
    exact ⟨tup3 rfl rfl rfl, rfl⟩
  · have hq : q = false := by simpa using hh
    subst hq
    clear hh
    go_enter Try.func19, Try.ntmps19
    go_wp2_with fail
    refine A.out.mono ?_
    rintro e w' ⟨rfl, rfl⟩
    go_wp2_with fail
    refine B.out.mono ?_
    rintro e w' ⟨rfl, rfl⟩
    go_wp2_with fail
    go_ret3
    exact ⟨tup3 rfl rfl rfl, rfl⟩

set_option maxHeartbeats 4000000 in
set_option maxRecDepth 100000 in
theorem resolve19_ok (a b : Option Addr) (na ca nb cb : Nat) (xa xb : List Int) (v : Int) (w : World) (h1 : 1 ≤ v) (h2 : v ≤ 2147483647) (hna : xa.length = na) (hnb : xb.length = nb) (hN : na ≤ 549755813888) (hN' : nb ≤ 549755813888)
    (ha : Lits w a xa) (hb : Lits w b xb) (hA : Cnf.has xa v = true) (hB : Cnf.has xb (-v) = true) :
    Calls Try.prog 19 #[.slice a na ca, .slice b nb cb, .int .i64 v] w fun e w' => ∃ v' ys, e = .returned (.tuple #[v', .bool (Cnf.both (Cnf.but xa v ++ Cnf.but xb (-v))), .int .i64 0]) ∧ Cnf.Nrm (Cnf.but xa v ++ Cnf.but xb (-v)) ys ∧
      w'.ownsRow w.heap.size 40 1 v' ys.length (ys.map (Value.int .i32)) ∧ Below w.heap.size w w' ∧ ys.length ≤ na + nb := by
  obtain ⟨i0, hi, hz0, hz1, hz2⟩ := info_parts info40
  have A := has30 a na ca xa v w hna (by omega) ha
  have B := has30 b nb cb xb (-v) w hnb (by omega) hb
  rw [hA] at A
  rw [hB] at B
  have A := hid A
  have B := hid B
  have HRB : Hid (∀ x ∈ Cnf.but xa v ++ Cnf.but xb (-v), -2147483648 ≤ x ∧ x ≤ 2147483647) := by
    intro x hx
    rcases List.mem_append.1 hx with h | h
    · exact ha.1 x ((Cnf.mem_but _ _ _).1 h).1
    · exact hb.1 x ((Cnf.mem_but _ _ _).1 h).1
  have HXA : Hid (∀ W, Below w.heap.size w W → Lits W a xa) := fun W hW => ha.below hW
  have HXB : Hid (∀ W, Below w.heap.size w W → Lits W b xb) := fun W hW => hb.below hW
  have HNA := hid hna
  have HNB := hid hnb
  clear ha hb hna hnb hA hB
  go_enter Try.func19, Try.ntmps19
  go_wp2_with fail
  refine A.out.mono ?_
  rintro e w' ⟨rfl, hw⟩
  obtain rfl := hw.symm
  go_wp2_with fail
  refine B.out.mono ?_
  rintro e w' ⟨rfl, hw⟩
  obtain rfl := hw.symm
  go_wp2_with fail
  go_loopw [9, 10] (fun u i wr => ∃ k : Nat, k ≤ na ∧ i = .int .i64 k ∧ wr.ownsRow w.heap.size 40 1 u (Cnf.but (xa.take k) v).length ((Cnf.but (xa.take k) v).map (Value.int .i32)) ∧ Below w.heap.size w wr)
    (fun _ i _ => na - (intOf i).toNat)
  case atStart => exact ⟨0, Nat.zero_le _, rfl, by simpa [Cnf.but] using World.ownsRow_nil w w.heap.size 40 1, Below.refl _ _⟩
  case round =>
    obtain ⟨k, hk, rfl, hown, hbel⟩ := hrel
    have hsz : w.heap.size ≤ wr.heap.size := hbel.size
    have HBel := hid hbel
    have HO := hid hown
    have hlen : (Cnf.but (xa.take k) v).length ≤ na := by
      have h1 := Cnf.but_len (xa.take k) v
      have h3 := HNA.out
      rw [List.length_take] at h1
      omega
    by_cases hlt : k < na
    · obtain ⟨b1, off1, e1, hc, hx1, hx2⟩ := (HXA.out _ hbel).at (k := k) (by rw [HNA.out]; exact hlt)
      subst e1
      have HS := hid (Cnf.but_take xa v k (by rw [HNA.out]; exact hlt))
      generalize xa.getD k 0 = x at hc hx1 hx2 HS
      by_cases e : x = v
      · have hne : (x != v) = false := by simp [e]
        have HS' : Hid (Cnf.but (xa.take (k + 1)) v = Cnf.but (xa.take k) v) := by
          have h := HS.out
          rw [hne] at h
          show _ = _
          simpa using h
        clear hown hbel e HS
        go_wp2
        go_roundw
        case rel => exact ⟨k + 1, by omega, by go_num, by rw [HS'.out]; exact HO.out, HBel.out⟩
        case measure => simp [intOf]; omega
      · have hne : (x != v) = true := by simp [e]
        have HS' : Hid (Cnf.but (xa.take (k + 1)) v = (Cnf.but (xa.take k) v) ++ [x]) := by
          have h := HS.out
          rw [hne] at h
          show _ = _
          rw [h]; simp
        clear hbel e HS HO
        generalize Cnf.but (xa.take k) v = ys at hown hlen HS'
        generalize hm : ys.length = m at hown hlen
        have HM := hid hm
        have hO := hid hown
        clear hm hown
        go_wp2_with (first
          | (at_builtin; refine wpList_append_own _ rfl _ _ 33 rfl w.heap.size 40 i0 (.int .i32 0) 1 4 Try.underlying33 hi hz0 hz1 hz2 rfl (by decide) _ m (ys.map (Value.int .i32)) rfl (hO.out.alloc _) ⟨wr.heap.size, 0, none⟩ 1 1 [.int .i32 x] rfl rfl ?c1 ?c2 ?c3 ?c4 ?c5 ?_))
        case c1 =>
          intro j u hj
          match j, hj with
          | 0, hj => simp at hj; subst hj; simp [Addr.add]
        case c2 => intro u hu; simp at hu; subst hu; rfl
        case c3 => unfold maxLen; omega
        case c4 => omega
        case c5 => simp; omega
        intro v' w1 hown' hgrow hnil'
        have hb1 : Below w.heap.size w w1 := (HBel.out.alloc hsz _).grown hgrow (by simp; omega) (fun g hg => (hO.out.lt g hg).1)
        have HB1 := hid hb1
        have HO1 : Hid (w1.ownsRow w.heap.size 40 1 v' (ys ++ [x]).length ((ys ++ [x]).map (Value.int .i32))) := by
          show w1.ownsRow w.heap.size 40 1 v' (ys ++ [x]).length ((ys ++ [x]).map (Value.int .i32))
          have e2 : (ys ++ [x]).length = m + 1 := by simp [HM.out]
          rw [e2, List.map_append]; exact hown'
        clear hown' hgrow hnil' hb1
        go_wp2
        go_roundw
        case rel => exact ⟨k + 1, by omega, by go_num, by rw [HS'.out]; exact HO1.out, HB1.out⟩
        case measure => simp [intOf]; omega
    · have e0 : xa.take k = xa := List.take_of_length_le (by rw [HNA.out]; omega)
      rw [e0] at HO hlen
      clear hown hbel e0
      have HLA := hid hlen
      clear hlen hsz
      go_wp2
      clear hlt hk
      go_loopw [9, 11] (fun u i wr => ∃ k : Nat, k ≤ nb ∧ i = .int .i64 k ∧ wr.ownsRow w.heap.size 40 1 u (Cnf.but xa v ++ Cnf.but (xb.take k) (-v)).length ((Cnf.but xa v ++ Cnf.but (xb.take k) (-v)).map (Value.int .i32)) ∧ Below w.heap.size w wr)
        (fun _ i _ => nb - (intOf i).toNat)
      case atStart => exact ⟨0, Nat.zero_le _, rfl, by simpa [Cnf.but] using HO.out, HBel.out⟩
      case round =>
        obtain ⟨k, hk, rfl, hown, hbel⟩ := hrel
        have hsz : w.heap.size ≤ wr.heap.size := hbel.size
        have HBel := hid hbel
        have HO := hid hown
        have hlen : (Cnf.but xa v ++ Cnf.but (xb.take k) (-v)).length ≤ na + nb := by
          have h1 := Cnf.but_len (xb.take k) (-v)
          have h3 := HNB.out
          have h4 := HLA.out
          simp only [List.length_append, List.length_take] at h1 ⊢
          omega
        by_cases hlt : k < nb
        · obtain ⟨b1, off1, e1, hc, hx1, hx2⟩ := (HXB.out _ hbel).at (k := k) (by rw [HNB.out]; exact hlt)
          subst e1
          have HS := hid (Cnf.but_take xb (-v) k (by rw [HNB.out]; exact hlt))
          generalize xb.getD k 0 = x at hc hx1 hx2 HS
          by_cases e : x = (-v)
          · have hne : (x != (-v)) = false := by simp [e]
            have HS' : Hid (Cnf.but (xb.take (k + 1)) (-v) = Cnf.but (xb.take k) (-v)) := by
              have h := HS.out
              rw [hne] at h
              show _ = _
              simpa using h
            clear hown hbel e HS
            go_wp2
            go_roundw
            case rel => exact ⟨k + 1, by omega, by go_num, by rw [HS'.out]; exact HO.out, HBel.out⟩
            case measure => simp [intOf]; omega
          · have hne : (x != (-v)) = true := by simp [e]
            have HS' : Hid (Cnf.but xa v ++ Cnf.but (xb.take (k + 1)) (-v) = (Cnf.but xa v ++ Cnf.but (xb.take k) (-v)) ++ [x]) := by
              have h := HS.out
              rw [hne] at h
              show _ = _
              rw [h]; simp
            clear hbel e HS HO
            generalize Cnf.but xa v ++ Cnf.but (xb.take k) (-v) = ys at hown hlen HS'
            generalize hm : ys.length = m at hown hlen
            have HM := hid hm
            have hO := hid hown
            clear hm hown
            go_wp2_with (first
              | (at_builtin; refine wpList_append_own _ rfl _ _ 33 rfl w.heap.size 40 i0 (.int .i32 0) 1 4 Try.underlying33 hi hz0 hz1 hz2 rfl (by decide) _ m (ys.map (Value.int .i32)) rfl (hO.out.alloc _) ⟨wr.heap.size, 0, none⟩ 1 1 [.int .i32 x] rfl rfl ?c1 ?c2 ?c3 ?c4 ?c5 ?_))
            case c1 =>
              intro j u hj
              match j, hj with
              | 0, hj => simp at hj; subst hj; simp [Addr.add]
            case c2 => intro u hu; simp at hu; subst hu; rfl
            case c3 => unfold maxLen; omega
            case c4 => omega
            case c5 => simp; omega
            intro v' w1 hown' hgrow hnil'
            have hb1 : Below w.heap.size w w1 := (HBel.out.alloc hsz _).grown hgrow (by simp; omega) (fun g hg => (hO.out.lt g hg).1)
            have HB1 := hid hb1
            have HO1 : Hid (w1.ownsRow w.heap.size 40 1 v' (ys ++ [x]).length ((ys ++ [x]).map (Value.int .i32))) := by
              show w1.ownsRow w.heap.size 40 1 v' (ys ++ [x]).length ((ys ++ [x]).map (Value.int .i32))
              have e2 : (ys ++ [x]).length = m + 1 := by simp [HM.out]
              rw [e2, List.map_append]; exact hown'
            clear hown' hgrow hnil' hb1
            go_wp2
            go_roundw
            case rel => exact ⟨k + 1, by omega, by go_num, by rw [HS'.out]; exact HO1.out, HB1.out⟩
            case measure => simp [intOf]; omega
        · have e0 : xb.take k = xb := List.take_of_length_le (by rw [HNB.out]; omega)
          rw [e0] at HO hlen
          clear hown hbel e0
          obtain ⟨a2, cap2, e2, hL2⟩ := own_at HRB.out HO.out
          subst e2
          have CN := hid (normal17 a2 (Cnf.but xa v ++ Cnf.but xb (-v)).length cap2 (Cnf.but xa v ++ Cnf.but xb (-v)) wr rfl (by omega) hL2)
          clear hL2
          generalize hln : (Cnf.but xa v ++ Cnf.but xb (-v)).length = ln at *
          clear hln
          go_wp2_with fail
          refine CN.out.mono ?_
          rintro e w3 ⟨v3, ys, rfl, g1, g2, g3, g4⟩
          have G := hid (And.intro g1 (And.intro (owns_base g2 hsz) (And.intro (HBel.out.trans (g3.mono hsz)) (Nat.le_trans g4 hlen))))
          clear g1 g2 g3 g4 CN
          go_wp2
          go_ret3
          exact ⟨v3, ys, tup3 rfl rfl rfl, G.out.1, G.out.2.1, G.out.2.2.1, G.out.2.2.2⟩

theorem resolve19 (a b : Option Addr) (na ca nb cb : Nat) (xa xb : List Int) (v : Int) (w : World) (hna : xa.length = na) (hnb : xb.length = nb) (hN : na ≤ 549755813888) (hN' : nb ≤ 549755813888)
    (ha : Lits w a xa) (hb : Lits w b xb) :
    Calls Try.prog 19 #[.slice a na ca, .slice b nb cb, .int .i64 v] w fun e w' => ∃ v' ys, e = .returned (.tuple #[v', .bool (Cnf.both (Cnf.rest xa xb v)), .int .i64 (Cnf.errRes xa xb v)]) ∧ Cnf.Nrm (Cnf.rest xa xb v) ys ∧
      w'.ownsRow w.heap.size 40 1 v' ys.length (ys.map (Value.int .i32)) ∧ Below w.heap.size w w' ∧ ys.length ≤ na + nb := by
  cases hc : Cnf.canRes xa xb v
  · have e1 : Cnf.rest xa xb v = [] := by simp [Cnf.rest, hc]
    have e2 : Cnf.errRes xa xb v = 2 := by simp [Cnf.errRes, hc]
    rw [e1, e2]
    have hcall : Calls Try.prog 19 #[.slice a na ca, .slice b nb cb, .int .i64 v] w fun e w' => e = .returned (.tuple #[.slice none 0 0, .bool false, .int .i64 2]) ∧ w' = w := by
      by_cases h1 : v < 1 ∨ 2147483647 < v
      · exact resolve19_range _ _ v w h1
      · refine resolve19_has a b na ca nb cb xa xb v w (by omega) (by omega) hna hnb (by omega) (by omega) ha hb ?_
        have g1 : 1 ≤ v := by omega
        have g2 : v ≤ 2147483647 := by omega
        simp only [Cnf.canRes, g1, g2, decide_true, Bool.true_and, Bool.and_eq_false_iff] at hc
        exact hc
    refine hcall.mono ?_
    rintro e w' ⟨rfl, rfl⟩
    exact ⟨_, [], rfl, ⟨List.Pairwise.nil, fun x => Iff.rfl⟩, World.ownsRow_nil _ _ _ _, Below.refl _ _, Nat.zero_le _⟩
  · have e1 : Cnf.rest xa xb v = Cnf.but xa v ++ Cnf.but xb (-v) := by simp [Cnf.rest, hc]
    have e2 : Cnf.errRes xa xb v = 0 := by simp [Cnf.errRes, hc]
    rw [e1, e2]
    simp only [Cnf.canRes, Bool.and_eq_true, decide_eq_true_iff] at hc
    exact resolve19_ok a b na ca nb cb xa xb v w hc.1 hc.2.1 hna hnb hN hN' ha hb hc.2.2.1 hc.2.2.2

end Go.Proofs.Ytccbcijkahnkkaa
