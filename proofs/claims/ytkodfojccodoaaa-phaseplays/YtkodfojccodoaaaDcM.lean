/- The document's store in memory; is, may, Decide. -/
import Derived.Test.YtkodfojccodoaaaDcR
import Derived.Test.YtkodfojccodoaaaPn
namespace Go.Proofs.Ytkodfojccodoaaa
open Go.RowKit Go.Maps
set_option linter.unusedVariables false
set_option linter.unusedSimpArgs false
set_option maxRecDepth 100000
def lis (l : List Int) : List Value := l.map (Value.int .i32)
/-- Where the document's store lies: its block, its values, the rows of both rows. -/
structure Da where
  qb : Nat
  v : Value
  aT : Option Addr
  cT : Nat
  aB : Option Addr
  cB : Nat
  n : Nat
/-- The document's store in memory. -/
structure Dm (D : Da) (P : Ph.St) (W : World) : Prop where
  blk : W.heap[D.qb]? = some (.cells #[D.v, .bool P.st, .int .i64 (P.T.length : Int), .slice D.aT P.T.length D.cT, .int .i64 (P.B.length : Int), .slice D.aB P.B.length D.cB, .int .u64 P.s, .int .i64 (P.k : Int)] 68 (0, 0))
  vs : W.ownsRow 0 4 1 D.v D.n (bls P.sv)
  ts : W.ownsRow 0 48 1 (.slice D.aT P.T.length D.cT) P.T.length (lis P.T)
  bs : W.ownsRow 0 48 1 (.slice D.aB P.B.length D.cB) P.B.length (lis P.B)
  rT : ∀ x ∈ P.T, -2147483648 ≤ x ∧ x ≤ 2147483647
  rB : ∀ x ∈ P.B, -2147483648 ≤ x ∧ x ≤ 2147483647
  mx : D.n ≤ 1048576
  lt : P.T.length ≤ maxLen
  lb : P.B.length ≤ maxLen
/-- The rows of a turned store lie where they lay, or are new. -/
def Lie (D D' : Da) (W : World) : Prop := (∀ a, D'.aT = some a → D.aT = some a ∨ W.heap.size ≤ a.block) ∧ ∀ a, D'.aB = some a → D.aB = some a ∨ W.heap.size ≤ a.block
theorem own_new {W : World} {base n e size c : Nat} {o : Option Addr} {xs : List Value} (h : W.ownsRow base e size (.slice o n c) n xs) : ∀ a, o = some a → base ≤ a.block := by
  intro a e
  subst e
  rcases h.2 with ⟨h, _⟩ | ⟨g, cap, cur, h, h2, _⟩
  · cases h
  · cases h; exact h2
theorem lw_own {W : World} {base : Nat} {a : Option Addr} {c : Nat} {L : List Int} (h : W.ownsRow base 48 1 (.slice a L.length c) L.length (lis L)) (hr : ∀ x ∈ L, -2147483648 ≤ x ∧ x ≤ 2147483647) : Lw W a L := by
  rcases Nat.eq_zero_or_pos L.length with h0 | h0
  · exact .inl (List.eq_nil_of_length_eq_zero h0)
  · obtain ⟨g, c', cur, e, _⟩ := own_some h h0
    cases e
    refine .inr ⟨g, 0, rfl, fun j hj => ?_⟩
    have := (own_cell h hj).1
    rw [Nat.zero_add, this]
    have e : L.getD j 0 = L[j] := by rw [List.getD_eq_getElem?_getD, List.getElem?_eq_getElem hj]; rfl
    rw [e]
    refine ⟨by unfold lis; rw [List.getElem?_map, List.getElem?_eq_getElem hj]; rfl, hr _ (List.getElem_mem hj)⟩
theorem Dm.below {D : Da} {P : Ph.St} {W W' : World} (H : Dm D P W) (h : Below W.heap.size W W') : Dm D P W' :=
  ⟨(h.block _ (lt_of_blk H.blk)).trans H.blk, own_below H.vs h, own_below H.ts h, own_below H.bs h, H.rT, H.rB, H.mx, H.lt, H.lb⟩
theorem Dm.val {D : Da} {P : Ph.St} {W : World} (H : Dm D P W) : ∃ o c, D.v = .slice o D.n c := own_slc H.vs
theorem is41 {D : Da} {P : Ph.St} {W : World} (H : Dm D P W) (v : Int) :
    Calls Try.prog 41 #[.pointer (some ⟨D.qb, 0, none⟩), .int .i64 v] W fun e w' => e = .returned (.bool (Ph.inR D.n v)) ∧ w' = W := by
  obtain ⟨o, c, hv⟩ := H.val
  have c0 := row_cell H.blk 0
  have c0' : W.cell? ⟨D.qb, 0, none⟩ = some (.slice o D.n c) := by rw [← hv]; exact c0
  have e : Ph.inR D.n v = decide (1 ≤ v ∧ v ≤ D.n) := rfl
  rw [e]
  generalize D.n = n at *
  clear c0 hv e
  by_cases h1 : 1 ≤ v <;> by_cases h2 : v ≤ n
  all_goals
    clear H
    go_enter Try.func41, Try.ntmps41
    go_wp2
    go_ret
    exact ⟨by first | rfl | (congr 2; simp; omega), rfl⟩
def DecO (D : Da) (P : Ph.St) (v : Int) (W : World) (e : Ending) (w' : World) : Prop :=
  e = .returned (.tuple #[.bool (Ph.dB D.n P v), .int .i64 (Ph.dE D.n v)]) ∧ Below W.heap.size W w'
set_option maxHeartbeats 4000000 in
theorem decide28 {D : Da} {P : Ph.St} {W : World} (H : Dm D P W) (v : Int) :
    Calls Try.prog 28 #[.pointer (some ⟨D.qb, 0, none⟩), .int .i64 v] W fun e w' => DecO D P v W e w' := by
  have C41 := hid (is41 H v)
  cases hr : Ph.inR D.n v
  · rw [hr] at C41
    have HO := hid (show DecO D P v W (.returned (.tuple #[.bool false, .int .i64 2])) W from ⟨by simp [Ph.dB, Ph.dE, hr], Below.refl _ _⟩)
    clear H hr
    go_enter Try.func28, Try.ntmps28
    go_wp2_with (go_at_call 41; refine C41.out.mono ?_; rintro e w4 ⟨rfl, hw4⟩; rw [hw4]; clear hw4)
    go_ret2
    exact HO.out
  · rw [hr] at C41
    have hv : 1 ≤ v ∧ v ≤ D.n := by simpa [Ph.inR] using hr
    have hmx := H.mx
    have C42 := hid (fun (ln : Int) => of42 (lw_own H.ts H.rT) H.lt ln (c := D.cT) hv.1 (show v ≤ 1048576 by omega))
    have c2 : W.cell? ⟨D.qb, 2, none⟩ = some (.int .i64 (P.T.length : Int)) := row_cell H.blk 2
    have c3 : W.cell? ⟨D.qb, 3, none⟩ = some (.slice D.aT P.T.length D.cT) := row_cell H.blk 3
    obtain ⟨o, c, hvv⟩ := H.val
    have hsh : Hid (D.n = 0) ∨ ∃ g, o = some ⟨g, 0, none⟩ := by
      rcases Nat.eq_zero_or_pos D.n with h0 | h0
      · exact .inl h0
      · have hs := H.vs
        rw [hvv] at hs
        obtain ⟨g, c', cur, e, _⟩ := own_some hs h0
        cases e
        exact .inr ⟨g, rfl⟩
    have HV := hid (fun (w : World) (hb : Below W.heap.size W w) => show w.cell? ⟨D.qb, 0, none⟩ = some (.slice o D.n c) ∧ (∀ g, o = some ⟨g, 0, none⟩ → w.cell? ⟨g, v.toNat - 1, none⟩ = some (.bool (P.sv.getD (v.toNat - 1) false))) from by
      have H2 := H.below hb
      refine ⟨by rw [← hvv]; exact row_cell H2.blk 0, fun g hg => ?_⟩
      have hs := H2.vs
      rw [hvv, hg] at hs
      have hlen : P.sv.length = D.n := by have := hs.1; simpa [bls] using this
      have := (own_cell hs (k := v.toNat - 1) (by omega)).1
      rw [bls_at (by omega)] at this
      exact this)
    have HE := hid (show Ph.dE D.n v = 0 from by simp [Ph.dE, hr])
    have HD := hid (show Ph.dB D.n P v = (Ph.lastV v P.T).getD (P.sv.getD (v.toNat - 1) false) from by
      simp only [Ph.dB, hr, Bool.true_and, Ph.dec]
      rw [Int.toNat_of_nonneg (by omega)])
    obtain ⟨hv1, hv2⟩ := hv
    have hvb : v - 1 < (D.n : Int) := by omega
    have hv0 : 0 ≤ v - 1 := by omega
    have hvx : v ≤ 1048576 := by omega
    have HNZ := hid (show D.n ≠ 0 by omega)
    unfold DecO
    rw [HE.out, HD.out]
    unfold OfO at C42
    generalize P.sv.getD (v.toNat - 1) false = y at *
    generalize P.T.length = lt at *
    obtain ⟨n, hn⟩ : ∃ n, D.n = n := ⟨_, rfl⟩
    rw [hn] at HV hvb hsh HNZ
    have hwv : wrap64 (v - 1) = v - 1 := by unfold wrap64; omega
    clear H hr hmx hvv HE HD hn hv2
    generalize Ph.lastV v P.T = oo at *
    rcases hsh with Z | ⟨g, hog⟩
    · exact absurd Z.out HNZ.out
    · subst hog
      cases oo with
      | none =>
        go_enter Try.func28, Try.ntmps28
        go_wp2_with (fail)
        go_at_call 41
        refine C41.out.mono ?_
        rintro e w4 ⟨rfl, hw4⟩
        rw [hw4]
        clear hw4 C41
        go_wp2_with (fail)
        go_at_call 42
        refine (C42.out _).mono ?_
        rintro e w5 ⟨rfl, b5⟩
        obtain ⟨x0, x1⟩ := HV.out _ b5
        have x2 := x1 g rfl
        have HB := hid b5
        clear C42 HV b5 x1 c2 c3
        go_wp2_with (fail)
        go_ret2
        exact ⟨rfl, HB.out⟩
      | some b =>
        go_enter Try.func28, Try.ntmps28
        go_wp2_with (fail)
        go_at_call 41
        refine C41.out.mono ?_
        rintro e w4 ⟨rfl, hw4⟩
        rw [hw4]
        clear hw4 C41
        go_wp2_with (fail)
        go_at_call 42
        refine (C42.out _).mono ?_
        rintro e w5 ⟨rfl, b5⟩
        have HB := hid b5
        clear C42 HV b5 c2 c3
        go_wp2_with (fail)
        go_ret2
        exact ⟨rfl, HB.out⟩
end Go.Proofs.Ytkodfojccodoaaa
