/- The store's small calls. -/
import Derived.Test.YtkodfojccodoaaaPhM
namespace Go.Proofs.Ytkodfojccodoaaa
open Go.RowKit Go.Maps
set_option linter.unusedVariables false
set_option maxRecDepth 100000

theorem variable36 (x : Int) (W : World) (h1 : -2147483648 ≤ x) (h2 : x ≤ 2147483647) :
    Calls Try.prog 36 #[.int .i32 x] W fun e w' => e = .returned (.int .i64 ((Ph.vr x : Nat) : Int)) ∧ w' = W := by
  have hw : wrap64 x = x := by unfold wrap64; omega
  have hw2 : wrap64 (-x) = -x := by unfold wrap64; omega
  have hm := Ph.vr_int x
  generalize Ph.vr x = y at *
  go_enter Try.func36, Try.ntmps36
  go_wp2
  all_goals
    go_ret
    first
      | exact ⟨by show Ending.returned (Value.int .i64 (-x)) = _; congr 2; omega, rfl⟩
      | exact ⟨by show Ending.returned (Value.int .i64 x) = _; congr 2; omega, rfl⟩
section
variable {A : Adr} {st : Bool} {sv : List Bool} {lt : Nat} {nt : Int} {mt : List Int} {lb : Nat} {nb : Int} {mb : List Int} {s : Int} {k : Nat} {W : World}
theorem has37 (H : Pr A st sv lt nt mt lb nb mb s k W) (v : Int) :
    Calls Try.prog 37 #[.pointer (some ⟨A.pb, 0, none⟩), .int .i64 v] W fun e w' => e = .returned (.bool (decide (1 ≤ v ∧ v ≤ A.n))) ∧ w' = W := by
  have c1 := H.cells.2.1
  generalize A.n = n at *
  by_cases h1 : 0 < v <;> by_cases h2 : v ≤ n
  all_goals
    clear H
    go_enter Try.func37, Try.ntmps37
    go_wp2
    go_ret
    exact ⟨by first | rfl | (congr 2; simp; omega), rfl⟩
theorem leave34T (H : Pr A st sv lt nt mt lb nb mb s k W) :
    Calls Try.prog 34 #[.pointer (some ⟨A.pb, 2, none⟩)] W fun e w' => e = .returned (.tuple #[]) ∧ Pr A st sv 0 nt mt lb nb mb s k w' ∧ Fa A W w' := by
  have c1 := H.cells.2.2.1
  have f1 := H.froz 2
  have HO := hid (H.setLT 0)
  clear H
  go_enter Try.func34, Try.ntmps34
  go_wp2
  go_end0
  exact ⟨rfl, HO.out⟩
theorem leave34B (H : Pr A st sv lt nt mt lb nb mb s k W) :
    Calls Try.prog 34 #[.pointer (some ⟨A.pb, 5, none⟩)] W fun e w' => e = .returned (.tuple #[]) ∧ Pr A st sv lt nt mt 0 nb mb s k w' ∧ Fa A W w' := by
  have c1 := H.cells.2.2.2.2.2.1
  have f1 := H.froz 5
  have HO := hid (H.setLB 0)
  clear H
  go_enter Try.func34, Try.ntmps34
  go_wp2
  go_end0
  exact ⟨rfl, HO.out⟩
def MvOut (nm m : Int) (ln : Nat) : Value := .tuple #[.bool ((if ln = 0 then none else Ph.mval nm m).getD false), .bool (if ln = 0 then none else Ph.mval nm m).isSome]
theorem value38T (H : Pr A st sv lt nt mt lb nb mb s k W) {v : Nat} (h1 : 1 ≤ v) (h2 : v ≤ A.n) (hn : 0 ≤ nt ∧ nt ≤ 4611686018427387904) :
    Calls Try.prog 38 #[.pointer (some ⟨A.pb, 2, none⟩), .int .i64 (v : Int)] W fun e w' => e = .returned (MvOut nt (mt.getD (v - 1) 0) lt) ∧ w' = W := by
  obtain ⟨_, _, c2, c3, c4, _⟩ := H.cells
  have x1 := (H.atT (u := v - 1) (by omega)).1
  have hmx := H.mx
  have hw : wrap64 ((v : Int) - 1) = ((v - 1 : Nat) : Int) := by unfold wrap64; omega
  have hw2 : wrap64 (-nt) = -nt := by unfold wrap64; omega
  have hb : ((v - 1 : Nat) : Int) < A.n := by omega
  generalize A.n = n at *
  generalize mt.getD (v - 1) 0 = m at *
  clear H
  by_cases h0 : lt = 0
  · subst h0
    go_enter Try.func38, Try.ntmps38
    go_wp2
    go_ret2
    exact ⟨by unfold MvOut; rfl, rfl⟩
  · have h0' : ((lt : Int) == 0) = false := by simp; omega
    by_cases p1 : m = nt <;> by_cases p2 : m = -nt
    all_goals
      have q1 := hid p1
      have q2 := hid p2
      first | (have p1' : (m != nt) = false := by simp [p1]) | (have p1' : (m != nt) = true := by simp [p1])
      first | (have p2' : (m != -nt) = false := by simp [p2]) | (have p2' : (m != -nt) = true := by simp [p2])
      clear p1 p2
      go_enter Try.func38, Try.ntmps38
      go_wp2
      go_ret2
      exact ⟨by unfold MvOut Ph.mval; simp [h0, q1.out, q2.out], rfl⟩
theorem value38B (H : Pr A st sv lt nt mt lb nb mb s k W) {v : Nat} (h1 : 1 ≤ v) (h2 : v ≤ A.n) (hn : 0 ≤ nb ∧ nb ≤ 4611686018427387904) :
    Calls Try.prog 38 #[.pointer (some ⟨A.pb, 5, none⟩), .int .i64 (v : Int)] W fun e w' => e = .returned (MvOut nb (mb.getD (v - 1) 0) lb) ∧ w' = W := by
  obtain ⟨_, _, _, _, _, c2, c3, c4, _⟩ := H.cells
  have x1 := (H.atB (u := v - 1) (by omega)).1
  have hmx := H.mx
  have hw : wrap64 ((v : Int) - 1) = ((v - 1 : Nat) : Int) := by unfold wrap64; omega
  have hw2 : wrap64 (-nb) = -nb := by unfold wrap64; omega
  have hb : ((v - 1 : Nat) : Int) < A.n := by omega
  generalize A.n = n at *
  generalize mb.getD (v - 1) 0 = m at *
  clear H
  by_cases h0 : lb = 0
  · subst h0
    go_enter Try.func38, Try.ntmps38
    go_wp2
    go_ret2
    exact ⟨by unfold MvOut; rfl, rfl⟩
  · have h0' : ((lb : Int) == 0) = false := by simp; omega
    by_cases p1 : m = nb <;> by_cases p2 : m = -nb
    all_goals
      have q1 := hid p1
      have q2 := hid p2
      first | (have p1' : (m != nb) = false := by simp [p1]) | (have p1' : (m != nb) = true := by simp [p1])
      first | (have p2' : (m != -nb) = false := by simp [p2]) | (have p2' : (m != -nb) = true := by simp [p2])
      clear p1 p2
      go_enter Try.func38, Try.ntmps38
      go_wp2
      go_ret2
      exact ⟨by unfold MvOut Ph.mval; simp [h0, q1.out, q2.out], rfl⟩
end
end Go.Proofs.Ytkodfojccodoaaa
