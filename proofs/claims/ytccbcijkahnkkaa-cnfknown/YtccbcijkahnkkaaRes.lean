/- Two clauses resolved. -/
import Derived.Test.YtccbcijkahnkkaaBut
namespace Go.Proofs.Ytccbcijkahnkkaa
open Go.RowKit Go.Lib Go.Sort Go.Shelf
set_option linter.unusedVariables false

theorem tup3 {a b c d e f : Value} (h1 : a = d) (h2 : b = e) (h3 : c = f) : Ending.returned (.tuple #[a, b, c]) = .returned (.tuple #[d, e, f]) := by rw [h1, h2, h3]

set_option maxHeartbeats 1000000 in
theorem resolve18_range (va vb : Value) (v : Int) (w : World) (hv : v < 1 ∨ 2147483647 < v) :
    Calls Try.prog 18 #[va, vb, .int .i64 v] w fun e w' => e = .returned (.tuple #[.slice none 0 0, .bool false, .int .i64 2]) ∧ w' = w := by
  rcases hv with h | h
  · go_enter Try.func18, Try.ntmps18
    go_wp2
    go_ret3
    exact ⟨tup3 rfl rfl rfl, rfl⟩
  · have h' : ¬ v < 1 := by omega
    go_enter Try.func18, Try.ntmps18
    go_wp2
    go_ret3
    exact ⟨tup3 rfl rfl rfl, rfl⟩

set_option maxHeartbeats 2000000 in
theorem resolve18_has (a b : Option Addr) (na ca nb cb : Nat) (xa xb : List Int) (v : Int) (w : World) (h1 : 1 ≤ v) (h2 : v ≤ 2147483647) (hna : xa.length = na) (hnb : xb.length = nb) (hN : na ≤ 1099511627776) (hN' : nb ≤ 1099511627776)
    (ha : Lits w a xa) (hb : Lits w b xb) (hh : Cnf.has xa v = false ∨ Cnf.has xb (-v) = false) :
    Calls Try.prog 18 #[.slice a na ca, .slice b nb cb, .int .i64 v] w fun e w' => e = .returned (.tuple #[.slice none 0 0, .bool false, .int .i64 2]) ∧ w' = w := by
  have A := hid (holds32 a na ca xa v w hna hN ha)
  have B := hid (holds32 b nb cb xb (-v) w hnb hN' hb)
  clear ha hb hna hnb
  generalize Cnf.has xa v = p at *
  generalize Cnf.has xb (-v) = q at *
  cases p
  · clear hh
    go_enter Try.func18, Try.ntmps18
    go_wp2_with fail
    refine A.out.mono ?_
    rintro e w' ⟨rfl, rfl⟩
    go_wp2_with fail
    go_ret3
    exact ⟨tup3 rfl rfl rfl, rfl⟩
  · have hq : q = false := by simpa using hh
    subst hq
    clear hh
    go_enter Try.func18, Try.ntmps18
    go_wp2_with fail
    refine A.out.mono ?_
    rintro e w' ⟨rfl, rfl⟩
    go_wp2_with fail
    refine B.out.mono ?_
    rintro e w' ⟨rfl, rfl⟩
    go_wp2_with fail
    go_ret3
    exact ⟨tup3 rfl rfl rfl, rfl⟩

set_option maxHeartbeats 2000000 in
theorem resolve18_ok (a b : Option Addr) (na ca nb cb : Nat) (xa xb : List Int) (v : Int) (w : World) (h1 : 1 ≤ v) (h2 : v ≤ 2147483647) (hna : xa.length = na) (hnb : xb.length = nb) (hN : na ≤ 549755813888) (hN' : nb ≤ 549755813888)
    (ha : Lits w a xa) (hb : Lits w b xb) (hA : Cnf.has xa v = true) (hB : Cnf.has xb (-v) = true) :
    Calls Try.prog 18 #[.slice a na ca, .slice b nb cb, .int .i64 v] w fun e w' => ∃ v' ys, e = .returned (.tuple #[v', .bool (Cnf.both (Cnf.but xa v ++ Cnf.but xb (-v))), .int .i64 0]) ∧ Cnf.Nrm (Cnf.but xa v ++ Cnf.but xb (-v)) ys ∧
      w'.ownsRow w.heap.size 40 1 v' ys.length (ys.map (Value.int .i32)) ∧ Below w.heap.size w w' ∧ ys.length ≤ na + nb := by
  obtain ⟨i0, hi, hz0, hz1, hz2⟩ := info_parts info40
  have A := holds32 a na ca xa v w hna (by omega) ha
  have B := holds32 b nb cb xb (-v) w hnb (by omega) hb
  rw [hA] at A
  rw [hB] at B
  have A := hid A
  have B := hid B
  have hpa : 1 ≤ na := by
    rw [← hna]
    have := (Cnf.has_iff xa v).1 hA
    cases xa with
    | nil => simp at this
    | cons => simp
  have hpb : 1 ≤ nb := by
    rw [← hnb]
    have := (Cnf.has_iff xb (-v)).1 hB
    cases xb with
    | nil => simp at this
    | cons => simp
  have hbd : ∀ x ∈ Cnf.but xa v ++ Cnf.but xb (-v), -2147483648 ≤ x ∧ x ≤ 2147483647 := by
    intro x hx
    rcases List.mem_append.1 hx with h | h
    · exact ha.1 x ((Cnf.mem_but _ _ _).1 h).1
    · exact hb.1 x ((Cnf.mem_but _ _ _).1 h).1
  have hl1 : (Cnf.but xa v).length ≤ na := by rw [← hna]; exact Cnf.but_len _ _
  have hl2 : (Cnf.but xa v ++ Cnf.but xb (-v)).length ≤ na + nb := by
    have := Cnf.but_len xa v
    have := Cnf.but_len xb (-v)
    simp only [List.length_append]
    omega
  -- the three calls that follow, in whatever worlds
  have C1 : Hid (∀ w0, w0.ownsRow w.heap.size 40 1 (.slice (some ⟨w.heap.size, 0, none⟩) 0 (na + nb - 2)) 0 [] → Below w.heap.size w w0 →
      Calls Try.prog 33 #[.slice (some ⟨w.heap.size, 0, none⟩) 0 (na + nb - 2), .slice a na ca, .int .i32 v] w0 fun e w' => ∃ v', e = .returned v' ∧ w'.ownsRow w.heap.size 40 1 v' (Cnf.but xa v).length ((Cnf.but xa v).map (Value.int .i32)) ∧ Below w.heap.size w w') := by
    intro w0 ho hbel
    refine (but33 _ 0 w.heap.size [] a na ca xa v w0 hna (by omega) hbel.size ho (fun w' hb' => ha.below (hbel.trans hb'))).mono ?_
    rintro e w' ⟨v', rfl, h1, h2⟩
    exact ⟨v', rfl, by simpa using h1, hbel.trans h2⟩
  have C2 : Hid (∀ v1 w0, w0.ownsRow w.heap.size 40 1 v1 (Cnf.but xa v).length ((Cnf.but xa v).map (Value.int .i32)) → Below w.heap.size w w0 →
      Calls Try.prog 33 #[v1, .slice b nb cb, .int .i32 (-v)] w0 fun e w' => ∃ v', e = .returned v' ∧ w'.ownsRow w.heap.size 40 1 v' (Cnf.but xa v ++ Cnf.but xb (-v)).length ((Cnf.but xa v ++ Cnf.but xb (-v)).map (Value.int .i32)) ∧ Below w.heap.size w w') := by
    intro v1 w0 ho hbel
    refine (but33 v1 _ w.heap.size (Cnf.but xa v) b nb cb xb (-v) w0 hnb (by omega) hbel.size ho (fun w' hb' => hb.below (hbel.trans hb'))).mono ?_
    rintro e w' ⟨v', rfl, h1, h2⟩
    exact ⟨v', rfl, h1, hbel.trans h2⟩
  have C3 : Hid (∀ v1 w0, w0.ownsRow w.heap.size 40 1 v1 (Cnf.but xa v ++ Cnf.but xb (-v)).length ((Cnf.but xa v ++ Cnf.but xb (-v)).map (Value.int .i32)) → Below w.heap.size w w0 →
      Calls Try.prog 29 #[v1] w0 fun e w' => ∃ v' ys, e = .returned (.tuple #[v', .bool (Cnf.both (Cnf.but xa v ++ Cnf.but xb (-v)))]) ∧ Cnf.Nrm (Cnf.but xa v ++ Cnf.but xb (-v)) ys ∧ w'.ownsRow w.heap.size 40 1 v' ys.length (ys.map (Value.int .i32)) ∧ Below w.heap.size w w' ∧ ys.length ≤ na + nb) := by
    intro v1 w0 ho hbel
    refine (settle29 v1 _ w.heap.size _ w0 hbd (by omega) hbel.size ho).mono ?_
    rintro e w' ⟨v', ys, rfl, h1, h2, h3, h4⟩
    exact ⟨v', ys, rfl, h1, h2, hbel.trans h3, by omega⟩
  clear ha hb hna hnb hA hB hbd hl1 hl2
  go_enter Try.func18, Try.ntmps18
  go_wp2_with fail
  refine A.out.mono ?_
  rintro e w' ⟨rfl, rfl⟩
  go_wp2_with fail
  refine B.out.mono ?_
  rintro e w' ⟨rfl, rfl⟩
  go_wp2_with (at_make; refine wpList_make_own _ rfl _ _ 33 rfl w'.heap.size 40 i0 (.int .i32 0) 1 Try.underlying33 hi hz0 hz1 _ _ _ (na + nb - 2) rfl rfl (by omega) ?b2 ?b3 (Nat.le_refl _) ?_)
  case b2 => rw [hz2]; omega
  case b3 => unfold maxLen; omega
  intro w0 hown0 hgrow0
  have D1 := hid (C1.out w0 hown0 ((Below.refl _ _).grown hgrow0 (Nat.le_refl _) (fun k h => by cases h)))
  clear hown0 hgrow0 C1 A B
  go_wp2_with fail
  refine D1.out.mono ?_
  rintro e w1 ⟨v1, rfl, ho1, hb1⟩
  have D2 := hid (C2.out v1 w1 ho1 hb1)
  clear ho1 hb1 C2 D1
  go_wp2_with fail
  refine D2.out.mono ?_
  rintro e w2 ⟨v2, rfl, ho2, hb2⟩
  have D3 := hid (C3.out v2 w2 ho2 hb2)
  clear ho2 hb2 C3 D2
  go_wp2_with fail
  refine D3.out.mono ?_
  rintro e w3 ⟨v3, ys, rfl, g1, g2, g3, g4⟩
  have G := hid (And.intro g1 (And.intro g2 (And.intro g3 g4)))
  clear g1 g2 g3 g4 D3
  go_wp2
  go_ret3
  exact ⟨v3, ys, tup3 rfl rfl rfl, G.out.1, G.out.2.1, G.out.2.2.1, G.out.2.2.2⟩

end Go.Proofs.Ytccbcijkahnkkaa
