/- The document's own functions on clauses: Has, before, Subsumes, Same; and a clause of its own. -/
import Derived.Test.YtccbcijkahnkkaaFind
namespace Cnf

def ltB (a b : Int) : Bool := decide (vr a < vr b) || (decide (vr a = vr b) && decide (a < b))
theorem ltB_iff (a b : Int) : ltB a b = true ↔ LtL a b := by simp [ltB, LtL]

end Cnf
namespace Go.Proofs.Ytccbcijkahnkkaa
open Go.RowKit
set_option linter.unusedVariables false

theorem has_at (xs : List Int) (x : Int) (k : Nat) (h : k < xs.length) (e : xs.getD k 0 = x) : Cnf.has xs x = true := by
  rw [Cnf.has_iff, ← e]; exact Cnf.getD_mem xs k h
theorem has_take (xs : List Int) (x : Int) (k : Nat) (h : k < xs.length) : Cnf.has (xs.take (k + 1)) x = (Cnf.has (xs.take k) x || (x == xs.getD k 0)) := by
  rw [Cnf.take_snoc xs k h]; simp [Cnf.has]

set_option maxHeartbeats 1000000 in
theorem has30 (a : Option Addr) (n cap : Nat) (xs : List Int) (x : Int) (w : World) (hn : xs.length = n) (hN : n ≤ 1099511627776) (hx : Lits w a xs) :
    Calls Try.prog 30 #[.slice a n cap, .int .i32 x] w fun e w' => e = .returned (.bool (Cnf.has xs x)) ∧ w' = w := by
  have HX := hid hx
  have HN := hid hn
  clear hx hn
  go_enter Try.func30, Try.ntmps30
  go_wp2
  go_loop [5] (fun i => ∃ k : Nat, k ≤ n ∧ i = .int .i64 k ∧ Cnf.has (xs.take k) x = false) (fun i => n - (intOf i).toNat)
  case atStart => exact ⟨0, Nat.zero_le _, rfl, rfl⟩
  case round =>
    obtain ⟨k, hk, rfl, hv⟩ := hrel
    have HV := hid hv
    clear hv
    by_cases hlt : k < n
    · obtain ⟨b, off, rfl, hc, hx1, hx2⟩ := HX.out.at (k := k) (by rw [HN.out]; exact hlt)
      have HS := hid (has_take xs x k (by rw [HN.out]; exact hlt))
      have HT := hid (has_at xs x k (by rw [HN.out]; exact hlt))
      generalize xs.getD k 0 = y at hc hx1 hx2 HS HT
      by_cases e : y = x
      · have hh : (y == x) = true := by simp [e]
        have HF := hid (HT.out e)
        clear e HT HS
        go_wp2
        go_ret
        exact ⟨ret_bool HF.out.symm, rfl⟩
      · have hh : (y == x) = false := by simp [e]
        have HF : Hid (Cnf.has (xs.take (k + 1)) x = false) := by
          show _ = _
          rw [HS.out, HV.out]
          simp
          exact fun h => e h.symm
        clear e HT HS
        go_wp2
        go_round
        case rel => exact ⟨k + 1, by omega, by go_num, HF.out⟩
        case measure => simp [intOf]; omega
    · go_wp2
      go_ret
      have e : xs.take k = xs := List.take_of_length_le (by rw [HN.out]; omega)
      exact ⟨ret_bool (by have h := HV.out; rw [e] at h; exact h.symm), rfl⟩

set_option maxHeartbeats 1000000 in
theorem before31 (x y : Int) (w : World) (hx1 : -2147483648 ≤ x) (hx2 : x ≤ 2147483647) (hy1 : -2147483648 ≤ y) (hy2 : y ≤ 2147483647) :
    Calls Try.prog 31 #[.int .i32 x, .int .i32 y] w fun e w' => e = .returned (.bool (Cnf.ltB x y)) ∧ w' = w := by
  have A : Hid (∀ w, Calls Try.prog 26 #[.int .i32 x] w fun e w' => e = .returned (.int .i64 (Cnf.vr x)) ∧ w' = w) := fun w => var26 x w hx1 hx2
  have B : Hid (∀ w, Calls Try.prog 26 #[.int .i32 y] w fun e w' => e = .returned (.int .i64 (Cnf.vr y)) ∧ w' = w) := fun w => var26 y w hy1 hy2
  have E : Hid (Cnf.ltB x y = (decide (Cnf.vr x < Cnf.vr y) || (decide (Cnf.vr x = Cnf.vr y) && decide (x < y)))) := rfl
  generalize Cnf.vr x = p at *
  generalize Cnf.vr y = q at *
  generalize Cnf.ltB x y = r at *
  by_cases h1 : p < q
  · have E' : Hid (r = true) := by show _ = _; rw [E.out]; simp [h1]
    clear E
    go_enter Try.func31, Try.ntmps31
    go_wp2_with fail
    refine (A.out _).mono ?_
    rintro e w' ⟨rfl, rfl⟩
    go_wp2_with fail
    refine (B.out _).mono ?_
    rintro e w' ⟨rfl, rfl⟩
    go_wp2_with fail
    go_ret
    exact ⟨ret_bool E'.out.symm, rfl⟩
  · by_cases h2 : p = q
    · have hh : (p == q) = true := by simp [h2]
      by_cases h3 : x < y
      · have E' : Hid (r = true) := by show _ = _; rw [E.out]; simp [h2, h3]
        clear E h2
        go_enter Try.func31, Try.ntmps31
        go_wp2_with fail
        refine (A.out _).mono ?_
        rintro e w' ⟨rfl, rfl⟩
        go_wp2_with fail
        refine (B.out _).mono ?_
        rintro e w' ⟨rfl, rfl⟩
        go_wp2_with fail
        refine (A.out _).mono ?_
        rintro e w' ⟨rfl, rfl⟩
        go_wp2_with fail
        refine (B.out _).mono ?_
        rintro e w' ⟨rfl, rfl⟩
        go_wp2_with fail
        go_ret
        exact ⟨ret_bool E'.out.symm, rfl⟩
      · have hd : decide (x < y) = false := by simp; omega
        have E' : Hid (r = false) := by show _ = _; rw [E.out]; simp [h1, h3]
        clear E h2
        go_enter Try.func31, Try.ntmps31
        go_wp2_with fail
        refine (A.out _).mono ?_
        rintro e w' ⟨rfl, rfl⟩
        go_wp2_with fail
        refine (B.out _).mono ?_
        rintro e w' ⟨rfl, rfl⟩
        go_wp2_with fail
        refine (A.out _).mono ?_
        rintro e w' ⟨rfl, rfl⟩
        go_wp2_with fail
        refine (B.out _).mono ?_
        rintro e w' ⟨rfl, rfl⟩
        go_wp2_with fail
        go_ret
        refine ⟨ret_bool ?_, rfl⟩
        rw [E'.out]
        simp; omega
    · have hh : (p == q) = false := by simp [h2]
      have E' : Hid (r = false) := by show _ = _; rw [E.out]; simp [h1, h2]
      clear E h2
      go_enter Try.func31, Try.ntmps31
      go_wp2_with fail
      refine (A.out _).mono ?_
      rintro e w' ⟨rfl, rfl⟩
      go_wp2_with fail
      refine (B.out _).mono ?_
      rintro e w' ⟨rfl, rfl⟩
      go_wp2_with fail
      refine (A.out _).mono ?_
      rintro e w' ⟨rfl, rfl⟩
      go_wp2_with fail
      refine (B.out _).mono ?_
      rintro e w' ⟨rfl, rfl⟩
      go_wp2_with fail
      go_ret
      refine ⟨ret_bool ?_, rfl⟩
      rw [E'.out]
      simp; omega

set_option maxHeartbeats 1000000 in
theorem sub24 (a b : Option Addr) (n ca m cb : Nat) (xs ys : List Int) (w : World) (hn : xs.length = n) (hm : ys.length = m) (hN : n ≤ 1099511627776) (hM : m ≤ 1099511627776) (hx : Lits w a xs) (hy : Lits w b ys) :
    Calls Try.prog 24 #[.slice a n ca, .slice b m cb] w fun e w' => e = .returned (.bool (Cnf.sub xs ys)) ∧ w' = w := by
  have HX := hid hx
  have HN := hid hn
  have HC : Hid (∀ x, Calls Try.prog 30 #[.slice b m cb, .int .i32 x] w fun e w' => e = .returned (.bool (Cnf.has ys x)) ∧ w' = w) := fun x => has30 b m cb ys x w hm hM hy
  clear hx hy hn hm
  go_enter Try.func24, Try.ntmps24
  go_wp2
  go_loop [5] (fun i => ∃ k : Nat, k ≤ n ∧ i = .int .i64 k ∧ Cnf.sub (xs.take k) ys = true) (fun i => n - (intOf i).toNat)
  case atStart => exact ⟨0, Nat.zero_le _, rfl, rfl⟩
  case round =>
    obtain ⟨k, hk, rfl, hv⟩ := hrel
    have HV := hid hv
    clear hv
    by_cases hlt : k < n
    · obtain ⟨b1, o1, rfl, hc, hx1, hx2⟩ := HX.out.at (k := k) (by rw [HN.out]; exact hlt)
      have HS := hid (Cnf.sub_take xs ys k (by rw [HN.out]; exact hlt))
      have HF := hid (Cnf.sub_false xs ys k (by rw [HN.out]; exact hlt))
      generalize xs.getD k 0 = x at hc hx1 hx2 HS HF
      have C := hid (HC.out x)
      generalize Cnf.has ys x = r at C HS HF
      cases r
      · go_wp2_with (go_at_call 30; refine C.out.mono ?_; rintro e w' ⟨rfl, rfl⟩)
        go_ret
        exact ⟨ret_bool (HF.out (by simp)).symm, rfl⟩
      · go_wp2_with (go_at_call 30; refine C.out.mono ?_; rintro e w' ⟨rfl, rfl⟩)
        go_round
        case rel => exact ⟨k + 1, by omega, by go_num, by rw [HS.out, HV.out]; rfl⟩
        case measure => simp [intOf]; omega
    · go_wp2
      go_ret
      have e : xs.take k = xs := List.take_of_length_le (by rw [HN.out]; omega)
      exact ⟨ret_bool (by have h := HV.out; rw [e] at h; exact h.symm), rfl⟩

set_option maxHeartbeats 1000000 in
theorem same22 (a b : Option Addr) (n ca m cb : Nat) (xs ys : List Int) (w : World) (hn : xs.length = n) (hm : ys.length = m) (hN : n ≤ 1099511627776) (hM : m ≤ 1099511627776) (hx : Lits w a xs) (hy : Lits w b ys) :
    Calls Try.prog 22 #[.slice a n ca, .slice b m cb] w fun e w' => e = .returned (.bool (Cnf.sub xs ys && Cnf.sub ys xs)) ∧ w' = w := by
  have A := hid (sub24 a b n ca m cb xs ys w hn hm hN hM hx hy)
  have B := hid (sub24 b a m cb n ca ys xs w hm hn hM hN hy hx)
  clear hx hy hn hm
  generalize Cnf.sub xs ys = p at *
  generalize Cnf.sub ys xs = q at *
  cases p
  · go_enter Try.func22, Try.ntmps22
    go_wp2_with fail
    refine A.out.mono ?_
    rintro e w1 ⟨rfl, rfl⟩
    go_wp2
    go_ret
    exact ⟨rfl, rfl⟩
  · go_enter Try.func22, Try.ntmps22
    go_wp2_with fail
    refine A.out.mono ?_
    rintro e w1 ⟨rfl, rfl⟩
    go_wp2_with fail
    refine B.out.mono ?_
    rintro e w2 ⟨rfl, rfl⟩
    go_wp2
    go_ret
    exact ⟨by simp, rfl⟩

set_option maxHeartbeats 1000000 in
theorem own15 (a : Option Addr) (n cap : Nat) (xs : List Int) (w : World) (hn : xs.length = n) (hN : n ≤ 1099511627776) (hx : Lits w a xs) :
    Calls Try.prog 15 #[.slice a n cap] w fun e w' => ∃ v', e = .returned v' ∧ w'.ownsRow w.heap.size 40 1 v' n (xs.map (Value.int .i32)) ∧ Below w.heap.size w w' := by
  cases a with
  | none =>
    have hxs : xs = [] := by
      rcases hx.2 with h | ⟨b, off, e, _⟩
      · exact h
      · cases e
    subst hxs
    have h0 : n = 0 := by simpa using hn.symm
    subst h0
    clear hx hn
    go_enter Try.func15, Try.ntmps15
    go_wp2
    go_ret
    exact ⟨_, rfl, World.ownsRow_nil _ _ _ _, Below.refl _ _⟩
  | some ad =>
    obtain ⟨i0, hi, hz0, hz1, hz2⟩ := info_parts info40
    have hlen : (xs.map (Value.int .i32)).length = n * 1 := by simp [hn]
    have HA := hid (And.intro hlen (And.intro hx.news (lits_one xs)))
    clear hlen hx
    have HN := hid hn
    clear hn
    go_enter Try.func15, Try.ntmps15
    go_wp2_with (first
      | (at_builtin; refine wpList_append_own _ rfl _ _ 33 rfl w.heap.size 40 i0 (.int .i32 0) 1 4 Try.underlying33 hi hz0 hz1 hz2 rfl (by decide) _ _ _ rfl (World.ownsRow_nil _ _ _ _) ad n cap (xs.map (Value.int .i32)) rfl HA.out.1 HA.out.2.1 HA.out.2.2 ?c3 ?c4 ?c5 ?_))
    case c3 => unfold maxLen; omega
    case c4 => omega
    case c5 => exact Nat.le_refl _
    intro v' w1 hown' hgrow hnil'
    have HO := hid hown'
    have HBel := hid ((Below.refl w.heap.size w).grown hgrow (Nat.le_refl _) (fun k hk => by cases hk))
    clear hown' hgrow hnil' HA
    go_wp2
    go_ret
    exact ⟨_, rfl, by simpa using HO.out, HBel.out⟩

end Go.Proofs.Ytccbcijkahnkkaa
