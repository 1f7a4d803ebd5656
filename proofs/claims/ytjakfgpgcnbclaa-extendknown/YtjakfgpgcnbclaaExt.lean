/- Stacks of witnesses, plainly and in memory; whether literals have values. -/
import Derived.Test.YtjakfgpgcnbclaaRows0
namespace Ext
def inV (n : Nat) (l : Int) : Bool := decide (1 ≤ Cnf.vr l) && decide (Cnf.vr l ≤ (n : Int))
def okC (n : Nat) (c : List Int) : Bool := c.all (inV n)
abbrev Wt := List Int × List Int
def okS (n : Nat) (s : List Wt) : Bool := s.all (fun p => okC n p.1 && okC n p.2)
def put (m : List Bool) (l : Int) : List Bool := m.set (Cnf.vr l - 1).toNat (decide (0 < l))
def turn (m : List Bool) (ls : List Int) : List Bool := ls.foldl put m
def one (m : List Bool) (p : Wt) : List Bool := if Cnf.val p.2 m then m else turn m p.1
def ext (m : List Bool) (s : List Wt) : List Bool := s.foldr (fun p m => one m p) m

theorem put_len (m : List Bool) (l : Int) : (put m l).length = m.length := by simp [put]
theorem turn_len (m : List Bool) (ls : List Int) : (turn m ls).length = m.length := by
  induction ls generalizing m with
  | nil => rfl
  | cons l ls ih => simp only [turn, List.foldl_cons] at ih ⊢; rw [ih, put_len]
theorem one_len (m : List Bool) (p : Wt) : (one m p).length = m.length := by unfold one; split; rfl; exact turn_len _ _
theorem ext_len (m : List Bool) (s : List Wt) : (ext m s).length = m.length := by
  induction s with
  | nil => rfl
  | cons p s ih => simp only [ext, List.foldr_cons] at ih ⊢; rw [one_len, ih]
theorem okC_take (n : Nat) (c : List Int) (k : Nat) (h : k < c.length) : okC n (c.take (k + 1)) = (okC n (c.take k) && inV n (c.getD k 0)) := by
  rw [Cnf.take_snoc c k h]; simp [okC]
theorem okC_false (n : Nat) (c : List Int) (k : Nat) (h : k < c.length) (hf : inV n (c.getD k 0) = false) : okC n c = false := by
  cases hs : okC n c
  · rfl
  · have := List.all_eq_true.1 hs _ (Cnf.getD_mem c k h)
    rw [hf] at this
    cases this
theorem okC_at {n : Nat} {c : List Int} (hc : okC n c = true) {k : Nat} (h : k < c.length) : 1 ≤ Cnf.vr (c.getD k 0) ∧ Cnf.vr (c.getD k 0) ≤ n := by
  have := List.all_eq_true.1 hc _ (Cnf.getD_mem c k h)
  simpa [inV] using this
theorem take_wt (s : List Wt) (k : Nat) (h : k < s.length) : s.take (k + 1) = s.take k ++ [s.getD k ([], [])] := by
  rw [List.take_succ_eq_append_getElem h]; simp [List.getD, List.getElem?_eq_getElem h]
theorem getD_wt (s : List Wt) (k : Nat) (h : k < s.length) : s.getD k ([], []) ∈ s := by simp [List.getD, List.getElem?_eq_getElem h]
theorem okS_take (n : Nat) (s : List Wt) (k : Nat) (h : k < s.length) : okS n (s.take (k + 1)) = (okS n (s.take k) && (okC n (s.getD k ([], [])).1 && okC n (s.getD k ([], [])).2)) := by
  rw [take_wt s k h]; simp [okS]
theorem okS_false (n : Nat) (s : List Wt) (k : Nat) (h : k < s.length) (hf : (okC n (s.getD k ([], [])).1 && okC n (s.getD k ([], [])).2) = false) : okS n s = false := by
  cases hs : okS n s
  · rfl
  · have := List.all_eq_true.1 hs _ (getD_wt s k h)
    rw [hf] at this
    cases this
theorem okS_at {n : Nat} {s : List Wt} (hc : okS n s = true) {k : Nat} (h : k < s.length) : okC n (s.getD k ([], [])).1 = true ∧ okC n (s.getD k ([], [])).2 = true := by
  have := List.all_eq_true.1 hc _ (getD_wt s k h)
  simpa using this
theorem drop_wt (s : List Wt) (k : Nat) (h : k < s.length) : s.drop k = s.getD k ([], []) :: s.drop (k + 1) := by
  rw [List.drop_eq_getElem_cons h]; simp [List.getD, h]
theorem ext_drop (m : List Bool) (s : List Wt) (k : Nat) (h : k < s.length) : ext m (s.drop k) = one (ext m (s.drop (k + 1))) (s.getD k ([], [])) := by
  rw [drop_wt s k h]; rfl
theorem turn_take (m : List Bool) (ls : List Int) (k : Nat) (h : k < ls.length) : turn m (ls.take (k + 1)) = put (turn m (ls.take k)) (ls.getD k 0) := by
  rw [Cnf.take_snoc ls k h]; simp [turn]
def items (s : List Wt) : Nat := (s.map (fun p => p.1.length + p.2.length)).sum
theorem items_take (s : List Wt) (k : Nat) (h : k < s.length) : items (s.take (k + 1)) = items (s.take k) + ((s.getD k ([], [])).1.length + (s.getD k ([], [])).2.length) := by
  rw [take_wt s k h]; simp [items]
theorem items_at (s : List Wt) (k : Nat) (h : k < s.length) : (s.getD k ([], [])).1.length + (s.getD k ([], [])).2.length ≤ items s := by
  have e : s = s.take k ++ (s.getD k ([], []) :: s.drop (k + 1)) := by rw [← drop_wt s k h, List.take_append_drop]
  have : items s = items (s.take k) + ((s.getD k ([], [])).1.length + (s.getD k ([], [])).2.length + items (s.drop (k + 1))) := by
    conv => lhs; rw [e]
    simp [items]
  omega
end Ext
namespace Go.Proofs.Ytjakfgpgcnbclaa
open Go.RowKit
set_option linter.unusedVariables false

/-- A witness in memory. -/
structure WtC (w : World) (b o : Nat) (p : Ext.Wt) (a1 : Option Addr) (c1 : Nat) (a2 : Option Addr) (c2 : Nat) : Prop where
  l : w.cell? ⟨b, o, none⟩ = some (.slice a1 p.1.length c1)
  c : w.cell? ⟨b, o + 1, none⟩ = some (.slice a2 p.2.length c2)
  hl : Lits w a1 p.1
  hc : Lits w a2 p.2
  n1 : p.1.length ≤ 35184372088832
  n2 : p.2.length ≤ 35184372088832
theorem cell_lt {w : World} {b o : Nat} {v : Value} (h : w.cell? ⟨b, o, none⟩ = some v) : b < w.heap.size := World.block_lt_of_cell? w _ h
theorem WtC.below {w w' : World} {b o : Nat} {p : Ext.Wt} {a1 : Option Addr} {c1 : Nat} {a2 : Option Addr} {c2 : Nat} (h : WtC w b o p a1 c1 a2 c2) (hb : Below w.heap.size w w') : WtC w' b o p a1 c1 a2 c2 := by
  have hl := cell_lt h.l
  exact ⟨(hb.cell (p := ⟨b, o, none⟩) hl).trans h.l, (hb.cell (p := ⟨b, o + 1, none⟩) hl).trans h.c, h.hl.below hb, h.hc.below hb, h.n1, h.n2⟩
/-- A row of witnesses. -/
def Wits (w : World) (a : Option Addr) (s : List Ext.Wt) : Prop :=
  s = [] ∨ ∃ b off, a = some ⟨b, off, none⟩ ∧ ∀ j, j < s.length → ∃ a1 c1 a2 c2, WtC w b (off + j * 2) (s.getD j ([], [])) a1 c1 a2 c2
theorem Wits.below {w w' : World} {a : Option Addr} {s : List Ext.Wt} (h : Wits w a s) (hb : Below w.heap.size w w') : Wits w' a s := by
  rcases h with h | ⟨b, off, e, h⟩
  · exact .inl h
  · refine .inr ⟨b, off, e, fun j hj => ?_⟩
    obtain ⟨a1, c1, a2, c2, h⟩ := h j hj
    exact ⟨a1, c1, a2, c2, h.below hb⟩
theorem Wits.at {w : World} {a : Option Addr} {s : List Ext.Wt} (h : Wits w a s) {j : Nat} (hj : j < s.length) : ∃ b off a1 c1 a2 c2, a = some ⟨b, off, none⟩ ∧ WtC w b (off + j * 2) (s.getD j ([], [])) a1 c1 a2 c2 := by
  rcases h with rfl | ⟨b, off, e, h⟩
  · simp at hj
  · obtain ⟨a1, c1, a2, c2, h⟩ := h j hj
    exact ⟨b, off, a1, c1, a2, c2, e, h⟩
theorem Drawn.wits {w w' : World} (h : Drawn w w') {a : Option Addr} {s : List Ext.Wt} (hx : Wits w a s) : Wits w' a s := hx.below h.below'

set_option maxHeartbeats 1000000 in
/-- The program's within. -/
theorem within26 (a : Option Addr) (n cap N : Nat) (xs : List Int) (w : World) (hn : xs.length = n) (hb : n ≤ 35184372088832) (hN : N ≤ 35184372088832) (hx : Lits w a xs) :
    Calls Try.prog 26 #[.slice a n cap, .int .i64 N] w fun e w' => e = .returned (.bool (Ext.okC N xs)) ∧ w' = w := by
  have HX := hid hx
  have HN := hid hn
  clear hx hn
  go_enter Try.func26, Try.ntmps26
  go_wp2
  go_loop [10] (fun i => ∃ k : Nat, k ≤ n ∧ i = .int .i64 k ∧ Ext.okC N (xs.take k) = true) (fun i => n - (intOf i).toNat)
  case atStart => exact ⟨0, Nat.zero_le _, rfl, rfl⟩
  case round =>
    obtain ⟨k, hk, rfl, hv⟩ := hrel
    have HV := hid hv
    clear hv
    by_cases hlt : k < n
    · obtain ⟨b, off, rfl, hc, hx1, hx2⟩ := HX.out.at (k := k) (by rw [HN.out]; exact hlt)
      have HS := hid (Ext.okC_take N xs k (by rw [HN.out]; exact hlt))
      have HF := hid (Ext.okC_false N xs k (by rw [HN.out]; exact hlt))
      generalize xs.getD k 0 = x at hc hx1 hx2 HS HF
      have hv0 := Cnf.vr_nonneg x
      have hv1 := Cnf.vr_le x hx1 hx2
      have HC := hid (var25 x w hx1 hx2)
      have HI := hid (show Ext.inV N x = (decide (1 ≤ Cnf.vr x) && decide (Cnf.vr x ≤ (N : Int))) from rfl)
      generalize Cnf.vr x = v at HC HI hv0 hv1
      by_cases hlo : v < 1
      · go_wp2_with (go_at_call 25; refine HC.out.mono ?_; rintro e w' ⟨rfl, rfl⟩)
        go_ret
        exact ⟨ret_bool (HF.out (by rw [HI.out]; simp; omega)).symm, rfl⟩
      · by_cases hhi : (N : Int) < v
        · go_wp2_with (go_at_call 25; refine HC.out.mono ?_; rintro e w' ⟨rfl, rfl⟩)
          go_ret
          exact ⟨ret_bool (HF.out (by rw [HI.out]; simp; omega)).symm, rfl⟩
        · go_wp2_with (go_at_call 25; refine HC.out.mono ?_; rintro e w' ⟨rfl, rfl⟩)
          go_round
          case rel => exact ⟨k + 1, by omega, by go_num, by rw [HS.out, HV.out, HI.out]; simp; omega⟩
          case measure => simp [intOf]; omega
    · go_wp2
      go_ret
      exact ⟨ret_bool (by have h := HV.out; rw [List.take_of_length_le (by rw [HN.out]; omega)] at h; exact h.symm), rfl⟩

set_option maxHeartbeats 1000000 in
/-- The document's right. -/
theorem right21 (a : Option Addr) (n cap N : Nat) (xs : List Int) (w : World) (hn : xs.length = n) (hb : n ≤ 35184372088832) (hN : N ≤ 35184372088832) (hx : Lits w a xs) :
    Calls Try.prog 21 #[.slice a n cap, .int .i64 N] w fun e w' => e = .returned (.bool (Ext.okC N xs)) ∧ w' = w := by
  have HX := hid hx
  have HN := hid hn
  clear hx hn
  go_enter Try.func21, Try.ntmps21
  go_wp2
  go_loop [5] (fun i => ∃ k : Nat, k ≤ n ∧ i = .int .i64 k ∧ Ext.okC N (xs.take k) = true) (fun i => n - (intOf i).toNat)
  case atStart => exact ⟨0, Nat.zero_le _, rfl, rfl⟩
  case round =>
    obtain ⟨k, hk, rfl, hv⟩ := hrel
    have HV := hid hv
    clear hv
    by_cases hlt : k < n
    · obtain ⟨b, off, rfl, hc, hx1, hx2⟩ := HX.out.at (k := k) (by rw [HN.out]; exact hlt)
      have HS := hid (Ext.okC_take N xs k (by rw [HN.out]; exact hlt))
      have HF := hid (Ext.okC_false N xs k (by rw [HN.out]; exact hlt))
      generalize xs.getD k 0 = x at hc hx1 hx2 HS HF
      have hv0 := Cnf.vr_nonneg x
      have hv1 := Cnf.vr_le x hx1 hx2
      have HC := hid (var23 x w hx1 hx2)
      have HI := hid (show Ext.inV N x = (decide (1 ≤ Cnf.vr x) && decide (Cnf.vr x ≤ (N : Int))) from rfl)
      have HZ := hid (show x = 0 ↔ Cnf.vr x = 0 by unfold Cnf.vr; split <;> omega)
      generalize Cnf.vr x = v at HC HI HZ hv0 hv1
      by_cases hz : x = 0
      · have hz' : (x == 0) = true := by simp [hz]
        have hv := HZ.out.1 hz
        clear hz
        go_wp2_with (go_at_call 23; refine HC.out.mono ?_; rintro e w' ⟨rfl, rfl⟩)
        go_ret
        exact ⟨ret_bool (HF.out (by rw [HI.out]; simp; omega)).symm, rfl⟩
      · have hz' : (x == 0) = false := by simp [hz]
        have hv : ¬ v = 0 := fun h => hz (HZ.out.2 h)
        clear hz
        by_cases hhi : (N : Int) < v
        · go_wp2_with (go_at_call 23; refine HC.out.mono ?_; rintro e w' ⟨rfl, rfl⟩)
          go_ret
          exact ⟨ret_bool (HF.out (by rw [HI.out]; simp; omega)).symm, rfl⟩
        · go_wp2_with (go_at_call 23; refine HC.out.mono ?_; rintro e w' ⟨rfl, rfl⟩)
          go_round
          case rel => exact ⟨k + 1, by omega, by go_num, by rw [HS.out, HV.out, HI.out]; simp; omega⟩
          case measure => simp [intOf]; omega
    · go_wp2
      go_ret
      exact ⟨ret_bool (by have h := HV.out; rw [List.take_of_length_le (by rw [HN.out]; omega)] at h; exact h.symm), rfl⟩
end Go.Proofs.Ytjakfgpgcnbclaa
