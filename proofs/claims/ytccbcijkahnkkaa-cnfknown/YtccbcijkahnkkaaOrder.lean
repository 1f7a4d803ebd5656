/- Clauses put in order: settle at every row of the call's own, and Normal at every clause. -/
import Derived.Test.YtccbcijkahnkkaaNormal
namespace Go.Proofs.Ytccbcijkahnkkaa
open Go.RowKit Go.Lib Go.Sort Go.Shelf
set_option linter.unusedVariables false

theorem info40 : (Try.prog.info? 40).map (fun i => (i.zero, i.size, i.bytes)) = some (some (.int .i32 0), 1, 4) := by kernel_rfl

set_option maxHeartbeats 1000000 in
theorem settle29_none (w : World) :
    Calls Try.prog 29 #[.slice none 0 0] w fun e w' => e = .returned (.tuple #[.slice none 0 0, .bool false]) ∧ w' = w := by
  go_enter Try.func29, Try.ntmps29
  go_wp2_with fail
  refine (order37 _).mono ?_
  rintro e w' ⟨rfl, rfl⟩
  go_wp2_with fail
  refine (sort36_none _ _ _).mono ?_
  rintro e w' ⟨rfl, rfl⟩
  go_wp2_with fail
  refine (compact38_none _ _ _).mono ?_
  rintro e w' ⟨rfl, rfl⟩
  go_wp2
  go_loop [4] (fun i => i = .int .i64 1) (fun _ => 0)
  case atStart => rfl
  case round =>
    subst hrel
    go_wp2
    go_ret2
    exact ⟨tup2 rfl rfl, rfl⟩

theorem settle29 (v : Value) (n base : Nat) (xs : List Int) (w : World) (hb : ∀ x ∈ xs, -2147483648 ≤ x ∧ x ≤ 2147483647) (hn : n ≤ 1099511627776) (hbase : base ≤ w.heap.size)
    (hown : w.ownsRow base 40 1 v n (xs.map (Value.int .i32))) :
    Calls Try.prog 29 #[v] w fun e w' => ∃ v' ys, e = .returned (.tuple #[v', .bool (Cnf.both xs)]) ∧ Cnf.Nrm xs ys ∧ w'.ownsRow base 40 1 v' ys.length (ys.map (Value.int .i32)) ∧ Below base w w' ∧ ys.length ≤ n := by
  rcases hown.2 with ⟨rfl, rfl⟩ | ⟨g, cap, cur, rfl, h⟩
  · have hx : xs = [] := by
      have := hown.1
      simp at this
      exact this
    subst hx
    refine (settle29_none w).mono ?_
    rintro e w' ⟨rfl, rfl⟩
    exact ⟨_, [], rfl, ⟨List.Pairwise.nil, fun x => Iff.rfl⟩, World.ownsRow_nil _ _ _ _, Below.refl _ _, Nat.le_refl _⟩
  · exact settle29_some g cap n base xs w hb hn hbase hown

/-- The cells of a row of literals, as append asks for them. -/
theorem Lits.news {w : World} {ad : Addr} {xs : List Int} (hx : Lits w (some ad) xs) : ∀ j u, (xs.map (Value.int .i32))[j]? = some u → w.cell? (ad.add j) = some u := by
  intro j u hj
  rw [List.getElem?_map] at hj
  cases hq : xs[j]? with
  | none => rw [hq] at hj; simp at hj
  | some y =>
    rw [hq] at hj
    simp at hj
    have hjl : j < xs.length := by
      rcases Nat.lt_or_ge j xs.length with h | h
      · exact h
      · rw [List.getElem?_eq_none h] at hq; cases hq
    obtain ⟨b, off, e, hc, _⟩ := hx.at hjl
    simp only [Option.some.injEq] at e
    subst e
    have hadd : (⟨b, off, none⟩ : Addr).add j = ⟨b, off + j, none⟩ := by unfold Addr.add; split <;> simp_all
    rw [hadd, hc, ← hj]
    simp [List.getD, hq]
theorem lits_one (xs : List Int) : ∀ u ∈ xs.map (Value.int .i32), u.oneCell' = true := by
  intro u hu
  obtain ⟨y, _, rfl⟩ := List.mem_map.1 hu
  rfl

set_option maxHeartbeats 1000000 in
/-- Normal: the set in order, each once, in new memory; and whether a literal and its negation are in it. -/
theorem normal16 (a : Option Addr) (n cap : Nat) (xs : List Int) (w : World) (hn : xs.length = n) (hN : n ≤ 1099511627776) (hx : Lits w a xs) :
    Calls Try.prog 16 #[.slice a n cap] w fun e w' => ∃ v' ys, e = .returned (.tuple #[v', .bool (Cnf.both xs)]) ∧ Cnf.Nrm xs ys ∧ w'.ownsRow w.heap.size 40 1 v' ys.length (ys.map (Value.int .i32)) ∧ Below w.heap.size w w' ∧ ys.length ≤ n := by
  have hb := hx.1
  have HB : Hid (∀ x ∈ xs, -2147483648 ≤ x ∧ x ≤ 2147483647) := hb
  clear hb
  cases a with
  | none =>
    have hxs : xs = [] := by
      rcases hx.2 with h | ⟨b, off, e, _⟩
      · exact h
      · cases e
    subst hxs
    have h0 : n = 0 := by simpa using hn.symm
    subst h0
    clear hx hn
    go_enter Try.func16, Try.ntmps16
    go_wp2_with fail
    refine (settle29 _ 0 w.heap.size [] _ HB.out (by omega) (Nat.le_refl _) (World.ownsRow_nil _ _ _ _)).mono ?_
    rintro e w' ⟨v', ys, rfl, h1, h2, h3, h4⟩
    have H := hid (And.intro h1 (And.intro h2 (And.intro h3 h4)))
    clear h1 h2 h3 h4
    go_wp2
    go_ret2
    exact ⟨v', ys, tup2 rfl rfl, H.out.1, H.out.2.1, H.out.2.2.1, H.out.2.2.2⟩
  | some ad =>
    obtain ⟨i0, hi, hz0, hz1, hz2⟩ := info_parts info40
    have hlen : (xs.map (Value.int .i32)).length = n * 1 := by simp [hn]
    have HA := hid (And.intro hlen (And.intro hx.news (lits_one xs)))
    clear hlen hx
    have HN := hid hn
    clear hn
    go_enter Try.func16, Try.ntmps16
    go_wp2_with (first
      | (at_builtin; refine wpList_append_own _ rfl _ _ 33 rfl w.heap.size 40 i0 (.int .i32 0) 1 4 Try.underlying33 hi hz0 hz1 hz2 rfl (by decide) _ _ _ rfl (World.ownsRow_nil _ _ _ _) ad n cap (xs.map (Value.int .i32)) rfl HA.out.1 HA.out.2.1 HA.out.2.2 ?c3 ?c4 ?c5 ?_))
    case c3 => unfold maxLen; omega
    case c4 => omega
    case c5 => exact Nat.le_refl _
    intro v' w1 hown' hgrow hnil'
    clear hnil'
    have hbel : Below w.heap.size w w1 := (Below.refl _ _).grown hgrow (Nat.le_refl _) (fun k hk => by cases hk)
    have hsz := hbel.size
    have HS := hid (settle29 v' n w.heap.size xs w1 HB.out hN hsz hown')
    have HBel := hid hbel
    clear hown' hgrow hbel hsz HA
    go_wp2_with fail
    refine HS.out.mono ?_
    rintro e w' ⟨v', ys, rfl, h1, h2, h3, h4⟩
    have H := hid (And.intro h1 (And.intro h2 (And.intro (HBel.out.trans h3) h4)))
    clear h1 h2 h3 h4
    go_wp2
    go_ret2
    exact ⟨v', ys, tup2 rfl rfl, H.out.1, H.out.2.1, H.out.2.2.1, H.out.2.2.2⟩

end Go.Proofs.Ytccbcijkahnkkaa
