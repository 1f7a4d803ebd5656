/- What comes before, as the program asks it. -/
import Derived.Test.YtjbnkkjihcoojaaHpM
namespace Hpp
def cmp3 (x y : Int) : Int := if x < y then -1 else if y < x then 1 else 0
def cf (s : List Int) (a b : Nat) : Int := if s.getD a 0 ≠ s.getD b 0 then cmp3 (s.getD b 0) (s.getD a 0) else cmp3 ((a : Int) + 1) ((b : Int) + 1)
theorem cf_lt (s : List Int) (a b : Nat) : cf s a b < 0 ↔ bef s a b := by
  unfold cf cmp3 bef
  split
  · split
    · omega
    · split <;> omega
  · split
    · omega
    · split <;> omega
end Hpp
namespace Go.Proofs.Ytjbnkkjihcoojaa
open Go.RowKit Go.Maps
set_option linter.unusedVariables false
set_option maxRecDepth 100000

theorem cmp56 (x y : Int) (w : World) : Calls Try.prog 56 #[.int .i64 x, .int .i64 y] w fun e w' => e = .returned (.int .i64 (Hpp.cmp3 x y)) ∧ w' = w := by
  by_cases h1 : x < y
  · rw [show Hpp.cmp3 x y = -1 by simp [Hpp.cmp3, h1]]
    go_enter Try.func56, Try.ntmps56
    go_wp2
    go_ret
    exact ⟨rfl, rfl⟩
  · by_cases h2 : y < x
    · rw [show Hpp.cmp3 x y = 1 by simp [Hpp.cmp3, h1, h2]]
      go_enter Try.func56, Try.ntmps56
      go_wp2
      go_ret
      exact ⟨rfl, rfl⟩
    · rw [show Hpp.cmp3 x y = 0 by simp [Hpp.cmp3, h1, h2]]
      go_enter Try.func56, Try.ntmps56
      go_wp2
      go_ret
      exact ⟨rfl, rfl⟩
theorem cmp57 (x y : Int) (w : World) : Calls Try.prog 57 #[.int .i64 x, .int .i64 y] w fun e w' => e = .returned (.int .i64 (Hpp.cmp3 x y)) ∧ w' = w := by
  by_cases h1 : x < y
  · rw [show Hpp.cmp3 x y = -1 by simp [Hpp.cmp3, h1]]
    go_enter Try.func57, Try.ntmps57
    go_wp2
    go_ret
    exact ⟨rfl, rfl⟩
  · by_cases h2 : y < x
    · rw [show Hpp.cmp3 x y = 1 by simp [Hpp.cmp3, h1, h2]]
      go_enter Try.func57, Try.ntmps57
      go_wp2
      go_ret
      exact ⟨rfl, rfl⟩
    · rw [show Hpp.cmp3 x y = 0 by simp [Hpp.cmp3, h1, h2]]
      go_enter Try.func57, Try.ntmps57
      go_wp2
      go_ret
      exact ⟨rfl, rfl⟩
/-- Scores in memory. -/
def Sc (sv : Value) (n : Nat) (sc : List Int) (W : World) : Prop := W.ownsRow 0 2 1 sv n (iss sc)
theorem Sc.below {sv : Value} {n : Nat} {sc : List Int} {W W' : World} (h : Sc sv n sc W) (hb : Below W.heap.size W W') : Sc sv n sc W' := own_below h hb
theorem Sc.at {sv : Value} {n : Nat} {sc : List Int} {W : World} (h : Sc sv n sc W) {u : Nat} (hu : u < n) :
    ∃ g c, sv = .slice (some ⟨g, 0, none⟩) n c ∧ ∀ u, u < n → W.cell? ⟨g, u, none⟩ = some (.int .i64 (sc.getD u 0)) := by
  have hl := iss_len h
  obtain ⟨g, c, cur, e1, _⟩ := own_some h (by omega)
  subst e1
  refine ⟨g, c, rfl, fun u hu => ?_⟩
  have := World.ownsRow.cellAt h u (by omega)
  rw [this, iss_at (by omega)]
set_option maxHeartbeats 1000000 in
theorem compare46 {sv : Value} {n : Nat} {sc : List Int} {W : World} (H : Sc sv n sc W) (hn : n ≤ 1048576) {a b : Nat} (ha : a < n) (hb : b < n) :
    Calls Try.prog 46 #[sv, .int .i64 ((a : Int) + 1), .int .i64 ((b : Int) + 1)] W fun e w' => e = .returned (.int .i64 (Hpp.cf sc a b)) ∧ Drawn W w' := by
  obtain ⟨g, c, rfl, hc⟩ := H.at ha
  have ca := hc a ha
  have cb := hc b hb
  have ha' : (a : Int) < n := by omega
  have hb' : (b : Int) < n := by omega
  have ha0 : (0 : Int) ≤ a := by omega
  have hb0 : (0 : Int) ≤ b := by omega
  have C1 := hid (fun w => cmp56 (sc.getD b 0) (sc.getD a 0) w)
  have C2 := hid (fun w => cmp57 ((a : Int) + 1) ((b : Int) + 1) w)
  have E := hid (show Hpp.cf sc a b = if sc.getD a 0 ≠ sc.getD b 0 then Hpp.cmp3 (sc.getD b 0) (sc.getD a 0) else Hpp.cmp3 ((a : Int) + 1) ((b : Int) + 1) from rfl)
  generalize sc.getD a 0 = x at *
  generalize sc.getD b 0 = y at *
  clear H hc
  by_cases h : x = y
  · have h' : (x != y) = false := by simp [h]
    have E2 := hid (show Hpp.cf sc a b = Hpp.cmp3 ((a : Int) + 1) ((b : Int) + 1) from by have := E.out; rwa [if_neg (by simp [h])] at this)
    clear E h C1
    rw [E2.out]
    generalize Hpp.cmp3 ((a : Int) + 1) ((b : Int) + 1) = r at *
    go_enter Try.func46, Try.ntmps46
    go_wp2_with (fail)
    go_quiet (fail)
    go_wp2_with (fail)
    go_at_call 57
    refine (C2.out _).mono ?_
    rintro e w2 ⟨rfl, hw2⟩
    rw [hw2]
    clear hw2
    go_wp2
    go_ret
    exact ⟨rfl, nq, rfl⟩
  · have h' : (x != y) = true := by simpa using h
    have E2 := hid (show Hpp.cf sc a b = Hpp.cmp3 y x from by have := E.out; rwa [if_pos h] at this)
    clear E h C2
    rw [E2.out]
    generalize Hpp.cmp3 y x = r at *
    go_enter Try.func46, Try.ntmps46
    go_wp2_with (fail)
    go_quiet (fail)
    have cb2 : (W.drewN nq).cell? ⟨g, b, none⟩ = some (.int .i64 y) := cb
    have ca2 : (W.drewN nq).cell? ⟨g, a, none⟩ = some (.int .i64 x) := ca
    have HD := hid (show Drawn W (W.drewN nq) from ⟨_, rfl⟩)
    generalize W.drewN nq = W1 at *
    clear ca cb
    go_wp2_with (fail)
    go_quiet ((go_at_call 56; exact Calls.quiet_of_same (C1.out _)))
    go_wp2
    go_ret
    exact ⟨rfl, HD.out.drewN _⟩
theorem len47 {Q : Nat → Prop} {hb : Nat} {sv pv lv : Value} {n : Nat} {sc : List Int} {vs : List Nat} {pl : List Int} {W : World} (H : Hp Q hb sv pv lv n sc vs pl W) :
    Calls Try.prog 47 #[.pointer (some ⟨hb, 1, none⟩)] W fun e w' => e = .returned (.int .i64 vs.length) ∧ w' = W := by
  obtain ⟨o, c, rfl⟩ := own_slc H.row
  have c1 := row_cell H.blk 1
  clear H
  go_enter Try.func47, Try.ntmps47
  go_wp2
  go_ret
  exact ⟨rfl, rfl⟩
/-- What a row's own cell tells. -/
theorem Hp.at {Q : Nat → Prop} {hb : Nat} {sv pv lv : Value} {n : Nat} {sc : List Int} {vs : List Nat} {pl : List Int} {W : World} (H : Hp Q hb sv pv lv n sc vs pl W) (h0 : 0 < vs.length) :
    ∃ g c, lv = .slice (some ⟨g, 0, none⟩) vs.length c ∧ (∀ k, k < vs.length → W.cell? ⟨g, k, none⟩ = some (.int .i64 ((vs.getD k 0 : Nat) + 1 : Int))) ∧ (∀ k, W.frozen? ⟨g, k, none⟩ = false) := by
  obtain ⟨g, c, cur, e1, _, hg, _⟩ := own_some H.row h0
  have hr := H.row
  subst e1
  refine ⟨g, c, rfl, fun k hk => ?_, fun k => row_frozen hg k⟩
  have := World.ownsRow.cellAt hr k (by omega)
  rw [this, ivs_at hk]
set_option maxHeartbeats 1000000 in
theorem less96 {Q : Nat → Prop} {hb : Nat} {sv pv lv : Value} {n : Nat} {sc : List Int} {vs : List Nat} {pl : List Int} {W : World} (H : Hp Q hb sv pv lv n sc vs pl W) (hp : Hpp.Pl n vs pl) (hn : n ≤ 1048576) {i j : Nat} (hi : i < vs.length) (hj : j < vs.length) :
    Calls Try.prog 96 #[.pointer (some ⟨hb, 1, none⟩), .int .i64 i, .int .i64 j] W fun e w' => e = .returned (.bool (decide (Hpp.bef sc (vs.getD i 0) (vs.getD j 0)))) ∧ Drawn W w' := by
  have ai := (hp.at_ i hi).1
  have aj := (hp.at_ j hj).1
  have C := hid (fun (w : World) (hd : Drawn W w) => compare46 (Sc.below (W := W) H.scs hd.below) hn ai aj)
  obtain ⟨g, c, rfl, hc, hz⟩ := H.at (by omega)
  clear hz
  have c1 := row_cell H.blk 1
  have c3 := row_cell H.blk 3
  have ci := hc i hi
  have cj := hc j hj
  have hi' : (i : Int) < vs.length := by omega
  have hj' : (j : Int) < vs.length := by omega
  have hi0 : (0 : Int) ≤ i := by omega
  have hj0 : (0 : Int) ≤ j := by omega
  have E := hid (show decide (Hpp.cf sc (vs.getD i 0) (vs.getD j 0) < 0) = decide (Hpp.bef sc (vs.getD i 0) (vs.getD j 0)) from by simp only [Hpp.cf_lt])
  rw [← E.out]
  clear E
  generalize Hpp.cf sc (vs.getD i 0) (vs.getD j 0) = r at *
  generalize vs.getD i 0 = a at *
  generalize vs.getD j 0 = b at *
  generalize vs.length = m at *
  clear H hp hc
  go_enter Try.func96, Try.ntmps96
  go_wp2_with (fail)
  go_quiet ((go_at_call 46; exact Calls.quiet_of (C.out _ ⟨_, rfl⟩)))
  go_wp2
  go_ret
  exact ⟨rfl, _, rfl⟩
end Go.Proofs.Ytjbnkkjihcoojaa
