/- Pick, SameClause, SameModel; rows of calls. -/
import Derived.Test.YtckpahdlcdgbpaaBck
namespace Trl

/-- A call, as the statements have it. -/
structure Stp where
  kind : Int
  l : Int
  n : Int
  to : List Int
def nums : List Stp → Nat
  | [] => 0
  | s :: l => s.to.length + nums l
theorem same_take (xs ys : List Bool) (k : Nat) (h1 : k < xs.length) (h2 : k < ys.length) : xs.take (k + 1) = ys.take (k + 1) ↔ xs.take k = ys.take k ∧ xs.getD k false = ys.getD k false := by
  rw [List.take_add_one, List.take_add_one, List.getElem?_eq_getElem h1, List.getElem?_eq_getElem h2, List.getD, List.getD, List.getElem?_eq_getElem h1, List.getElem?_eq_getElem h2]
  simp only [Option.toList_some, Option.getD_some]
  constructor
  · intro h
    have := List.append_inj h (by simp; omega)
    exact ⟨this.1, by simpa using this.2⟩
  · rintro ⟨e1, e2⟩; rw [e1, e2]
theorem nums_append (a b : List Stp) : nums (a ++ b) = nums a + nums b := by
  induction a with
  | nil => simp [nums]
  | cons x a ih => simp only [List.cons_append, nums, ih]; omega
theorem nums_take (l : List Stp) (k : Nat) (h : k < l.length) : nums (l.take (k + 1)) = nums (l.take k) + l[k].to.length := by
  rw [List.take_add_one, List.getElem?_eq_getElem h, nums_append]; simp [nums]
end Trl
namespace Go.Proofs.Ytckpahdlcdgbpaa
open Go.RowKit Go.Maps
set_option linter.unusedVariables false
set_option maxRecDepth 100000

/-- A row of Booleans. -/
def Bools (w : World) (a : Option Addr) (xs : List Bool) : Prop :=
  xs = [] ∨ ∃ b off, a = some ⟨b, off, none⟩ ∧ b < w.heap.size ∧ ∀ j, j < xs.length → w.cell? ⟨b, off + j, none⟩ = some (.bool (xs.getD j false))
theorem Bools.below {w w' : World} {a : Option Addr} {xs : List Bool} (h : Bools w a xs) (hb : Below w.heap.size w w') : Bools w' a xs := by
  rcases h with h | ⟨b, off, e, hl, hc⟩
  · exact .inl h
  · exact .inr ⟨b, off, e, Nat.lt_of_lt_of_le hl hb.size, fun j hj => (hb.cell (p := ⟨b, off + j, none⟩) hl).trans (hc j hj)⟩
theorem Bools.at {w : World} {a : Option Addr} {xs : List Bool} (h : Bools w a xs) {k : Nat} (hk : k < xs.length) :
    ∃ b off, a = some ⟨b, off, none⟩ ∧ w.cell? ⟨b, off + k, none⟩ = some (.bool (xs.getD k false)) := by
  rcases h with rfl | ⟨b, off, e, hl, hc⟩
  · simp at hk
  · exact ⟨b, off, e, hc k hk⟩
/-- What Pick tells. -/
def PickOut (n : Nat) (e : Ending) : Prop := ∃ t : Nat, t < n ∧ e = .returned (.int .i64 t)
set_option maxHeartbeats 2000000 in
theorem pick28 (i : Int) (n : Nat) (w : World) (hn : 0 < n) (hn2 : n ≤ 1000) (hi : I64 i) :
    Calls Try.prog 28 #[.int .i64 i, .int .i64 n] w fun e w' => PickOut n e ∧ w' = w := by
  have h1 := hi.1
  have h2 := hi.2
  have hn0 : ¬ (n : Int) ≤ 0 := by omega
  have hnz : ((n : Int) == 0) = false := by simp; omega
  have hnz' : ¬ (n : Int) = 0 := by omega
  obtain ⟨r, hr⟩ : ∃ r, i.tmod (n : Int) = r := ⟨_, rfl⟩
  have hr1 : -(n : Int) < r := by have h := Int.natAbs_tmod i (n : Int); rw [hr] at h; have := Nat.mod_lt i.natAbs (show 0 < (n : Int).natAbs by omega); omega
  have hr2 : r < n := by rw [← hr]; exact Int.tmod_lt_of_pos i (by omega)
  obtain ⟨t, ht⟩ : ∃ t : Nat, (r + n).tmod (n : Int) = (t : Int) := ⟨((r + n).tmod (n : Int)).toNat, by have := Int.tmod_nonneg (b := (n : Int)) (show 0 ≤ r + n by omega); omega⟩
  have htn : t < n := by have := Int.tmod_lt_of_pos (r + n) (b := (n : Int)) (by omega); omega
  clear hi
  go_enter Try.func28, Try.ntmps28
  go_wp2
  go_ret
  exact ⟨⟨t, htn, rfl⟩, rfl⟩
set_option maxRecDepth 100000 in
set_option maxHeartbeats 2000000 in
theorem same30 (a b : Option Addr) (n c1 c2 : Nat) (xs : List Int) (w : World) (hn : xs.length = n) (hN : n ≤ 35184372088832) (hA : Lits w a xs) (hB : Lits w b xs) :
    Calls Try.prog 30 #[.slice a n c1, .slice b n c2] w fun e w' => e = .returned (.bool true) ∧ Below w.heap.size w w' := by
  have HA := hid hA
  have HB := hid hB
  have HN := hid hn
  have hsa : n = 0 ∨ ∃ b off, a = some ⟨b, off, none⟩ := by rw [← hn]; exact hA.shape
  have hsb : n = 0 ∨ ∃ b' off, b = some ⟨b', off, none⟩ := by rw [← hn]; exact hB.shape
  clear hA hB hn
  rcases hsa with h0 | ⟨ba, oa, rfl⟩
  · subst h0
    clear hsb
    go_enter Try.func30, Try.ntmps30
    go_wp2
    go_loopw [5] (fun i wr => i = .int .i64 0 ∧ wr = w) (fun _ _ => 0)
    case atStart => exact ⟨rfl, rfl⟩
    case round =>
      obtain ⟨rfl, hw⟩ := hrel
      rw [hw]
      clear hw
      go_wp2
      go_ret
      exact ⟨rfl, Below.refl _ _⟩
  · rcases hsb with h0 | ⟨bb, ob, rfl⟩
    · subst h0
      go_enter Try.func30, Try.ntmps30
      go_wp2
      go_loopw [5] (fun i wr => i = .int .i64 0 ∧ wr = w) (fun _ _ => 0)
      case atStart => exact ⟨rfl, rfl⟩
      case round =>
        obtain ⟨rfl, hw⟩ := hrel
        rw [hw]
        clear hw
        go_wp2
        go_ret
        exact ⟨rfl, Below.refl _ _⟩
    · go_enter Try.func30, Try.ntmps30
      go_wp2
      go_loopw [5] (fun i wr => ∃ k : Nat, k ≤ n ∧ i = .int .i64 k ∧ Hid (Below w.heap.size w wr)) (fun i _ => n - (intOf i).toNat)
      case atStart => exact ⟨0, Nat.zero_le _, rfl, hid (Below.refl _ _)⟩
      case round =>
        obtain ⟨k, hk, rfl, HW⟩ := hrel
        by_cases hlt : k < n
        · have hlt' : (k : Int) < n := by omega
          obtain ⟨b1, o1, e1, _, hc1, _⟩ := (HA.out.below HW.out).at (j := k) (by rw [HN.out]; exact hlt)
          cases e1
          obtain ⟨b2, o2, e2, _, hc2, _⟩ := (HB.out.below HW.out).at (j := k) (by rw [HN.out]; exact hlt)
          cases e2
          generalize xs.getD k 0 = xv at *
          go_wp2
          go_region
          go_wp2
          go_roundw
          case rel => exact ⟨k + 1, by omega, by go_num, hid HW.out.drew⟩
          case measure => simp [intOf]; omega
        · have hge : ¬ (k : Int) < n := by omega
          go_wp2
          go_ret
          exact ⟨rfl, HW.out⟩

theorem Drawn.cell {w w' : World} (h : Drawn w w') (a : Addr) : w'.cell? a = w.cell? a := by obtain ⟨q, rfl⟩ := h; rfl
theorem ret_bool {a b : Bool} (h : a = b) : (Ending.returned (.bool a)) = .returned (.bool b) := by rw [h]
set_option maxHeartbeats 2000000 in
theorem sameModel31 (a b : Option Addr) (n m ca cb : Nat) (xs ys : List Bool) (w : World) (hn : xs.length = n) (hm : ys.length = m) (hN : n ≤ 35184372088832) (hM : m ≤ 35184372088832) (hx : Bools w a xs) (hy : Bools w b ys) :
    Calls Try.prog 31 #[.slice a n ca, .slice b m cb] w fun e w' => e = .returned (.bool (decide (xs = ys))) ∧ Drawn w w' := by
  have HX := hid hx
  have HY := hid hy
  have HN := hid hn
  have HM := hid hm
  clear hx hy hn hm
  by_cases hnm : n = m
  · subst hnm
    go_enter Try.func31, Try.ntmps31
    go_wp2
    go_loopw [5] (fun i wr => ∃ k : Nat, k ≤ n ∧ i = .int .i64 k ∧ Hid (xs.take k = ys.take k) ∧ Hid (Drawn w wr)) (fun i _ => n - (intOf i).toNat)
    case atStart => exact ⟨0, Nat.zero_le _, rfl, hid rfl, hid (Drawn.refl _)⟩
    case round =>
      obtain ⟨k, hk, rfl, HE, HD⟩ := hrel
      by_cases hlt : k < n
      · obtain ⟨b1, o1, rfl, hc1⟩ := HX.out.at (k := k) (by rw [HN.out]; exact hlt)
        obtain ⟨b2, o2, rfl, hc2⟩ := HY.out.at (k := k) (by rw [HM.out]; exact hlt)
        rw [← HD.out.cell] at hc1 hc2
        have hi1 : (k : Int) < (n : Int) := by omega
        have HS := hid (Trl.same_take xs ys k (by rw [HN.out]; exact hlt) (by rw [HM.out]; exact hlt))
        generalize xs.getD k false = x at hc1 HS
        generalize ys.getD k false = y at hc2 HS
        by_cases hxy : x = y
        · subst hxy
          have hh : (x != x) = false := by simp
          go_wp2
          go_quiet (fail)
          go_wp2
          go_roundw
          case rel => exact ⟨k + 1, by omega, by go_num, hid (HS.out.2 ⟨HE.out, by trivial⟩), hid (HD.out.drewN _)⟩
          case measure => simp [intOf]; omega
        · have hh : (x == y) = false := by simp [hxy]
          have HR := hid (show decide (xs = ys) = false by
            rw [decide_eq_false_iff_not]
            rintro rfl
            exact hxy (HS.out.1 rfl).2)
          clear hxy
          go_wp2
          go_quiet (fail)
          go_wp2
          go_ret
          exact ⟨ret_bool HR.out.symm, HD.out.drewN _⟩
      · have hi1 : ¬ (k : Int) < (n : Int) := by omega
        have HR := hid (show decide (xs = ys) = true by
          rw [decide_eq_true_eq]
          have h := HE.out
          rwa [List.take_of_length_le (by rw [HN.out]; omega), List.take_of_length_le (by rw [HM.out]; omega)] at h)
        go_wp2
        go_ret
        exact ⟨ret_bool HR.out.symm, HD.out⟩
  · have hnm' : ((n : Int) != (m : Int)) = true := by simp; omega
    have HR := hid (show decide (xs = ys) = false by
      rw [decide_eq_false_iff_not]
      rintro rfl
      exact hnm (HN.out.symm.trans HM.out))
    clear hnm
    go_enter Try.func31, Try.ntmps31
    go_wp2
    go_ret
    exact ⟨ret_bool HR.out.symm, Drawn.refl _⟩


/-- A call's four cells. -/
def sval (s : Trl.Stp) (a : Option Addr) (cap : Nat) : List Value := [.int .i64 s.kind, .int .i32 s.l, .int .i64 s.n, .slice a s.to.length cap]
structure StpOk (W : World) (s : Trl.Stp) (a : Option Addr) : Prop where
  to : Hnts W a s.to
  len : s.to.length ≤ 35184372088832
  kind : I64 s.kind
  l : I32 s.l
  n : I64 s.n
theorem StpOk.below {W W' : World} {s : Trl.Stp} {a : Option Addr} (h : StpOk W s a) (hb : Below W.heap.size W W') : StpOk W' s a := ⟨h.to.below hb, h.len, h.kind, h.l, h.n⟩
/-- A row of calls. -/
def Stps (W : World) (a : Option Addr) (ss : List Trl.Stp) : Prop :=
  ss = [] ∨ ∃ b off, a = some ⟨b, off, none⟩ ∧ b < W.heap.size ∧ ∀ j (hj : j < ss.length), ∃ a' cap', StpOk W ss[j] a' ∧ ∀ t v, (sval ss[j] a' cap')[t]? = some v → W.cell? ⟨b, off + j * 4 + t, none⟩ = some v
theorem Stps.below {W W' : World} {a : Option Addr} {ss : List Trl.Stp} (h : Stps W a ss) (hb : Below W.heap.size W W') : Stps W' a ss := by
  rcases h with h | ⟨b, off, e, hl, hc⟩
  · exact .inl h
  · refine .inr ⟨b, off, e, Nat.lt_of_lt_of_le hl hb.size, fun j hj => ?_⟩
    obtain ⟨a', cap', h1, h2⟩ := hc j hj
    exact ⟨a', cap', h1.below hb, fun t v hv => (hb.cell (p := ⟨b, off + j * 4 + t, none⟩) hl).trans (h2 t v hv)⟩
theorem Stps.at {W : World} {a : Option Addr} {ss : List Trl.Stp} (h : Stps W a ss) {j : Nat} (hj : j < ss.length) : ∃ b off a' cap', a = some ⟨b, off, none⟩ ∧ StpOk W ss[j] a' ∧ W.cell? ⟨b, off + j * 4, none⟩ = some (.int .i64 ss[j].kind) ∧ W.cell? ⟨b, off + j * 4 + 1, none⟩ = some (.int .i32 ss[j].l) ∧ W.cell? ⟨b, off + j * 4 + 2, none⟩ = some (.int .i64 ss[j].n) ∧ W.cell? ⟨b, off + j * 4 + 3, none⟩ = some (.slice a' ss[j].to.length cap') := by
  rcases h with h | ⟨b, off, e, hl, hc⟩
  · rw [h] at hj; simp at hj
  · obtain ⟨a', cap', h1, h2⟩ := hc j hj
    exact ⟨b, off, a', cap', e, h1, h2 0 _ rfl, h2 1 _ rfl, h2 2 _ rfl, h2 3 _ rfl⟩
theorem Stps.shape {W : World} {a : Option Addr} {ss : List Trl.Stp} (h : Stps W a ss) : ss.length = 0 ∨ ∃ b off, a = some ⟨b, off, none⟩ := by
  rcases h with h | ⟨b, off, e, _⟩
  · left; rw [h]; rfl
  · exact .inr ⟨b, off, e⟩
/-- What few tells. -/
def FewOut (ss : List Trl.Stp) (e : Ending) : Prop := ∃ b : Bool, e = .returned (.bool b) ∧ (b = true → ss.length ≤ 60 ∧ Trl.nums ss ≤ 300)
set_option maxHeartbeats 2000000 in
theorem few7 (a : Option Addr) (n cap : Nat) (ss : List Trl.Stp) (w : World) (hn : ss.length = n) (hb : n ≤ 8796093022208) (hs : Stps w a ss) :
    Calls Try.prog 7 #[.slice a n cap] w fun e w' => FewOut ss e ∧ Drawn w w' := by
  have HX := hid hs
  have HN := hid hn
  have hsh : n = 0 ∨ ∃ b off, a = some ⟨b, off, none⟩ := by rw [← hn]; exact hs.shape
  clear hs hn
  go_enter Try.func7, Try.ntmps7
  go_wp2
  go_loopw [3, 4] (fun q i wr => ∃ (k m : Nat), q = .int .i64 m ∧ k ≤ n ∧ k ≤ 61 ∧ i = .int .i64 k ∧ Hid (m = Trl.nums (ss.take k)) ∧ m ≤ 35184372088832 * k ∧ Hid (Drawn w wr)) (fun _ i _ => n - (intOf i).toNat)
  case atStart => exact ⟨0, 0, rfl, Nat.zero_le _, Nat.zero_le _, rfl, hid rfl, Nat.zero_le _, hid (Drawn.refl _)⟩
  case round =>
    obtain ⟨k, m, rfl, hk, hk2, rfl, HQ, hq2, HD⟩ := hrel
    by_cases hlt : k < n
    · by_cases h60 : (k : Int) ≤ 60
      · have hlt' : (k : Int) < n := by omega
        have hks : k < ss.length := by rw [HN.out]; exact hlt
        obtain ⟨b, off, a', c', rfl, hok, x0, x1, x2, x3⟩ := (HX.out.below HD.out.below).at hks
        have HT := hid (Trl.nums_take ss k hks)
        have hl := hok.len
        clear hok x0 x1 x2 hsh
        generalize ss[k].to.length = n1 at *
        go_wp2
        exact ⟨⟨k + 1, m + n1, by go_num, by omega, by omega, by go_num, hid (by rw [HT.out, HQ.out]), by omega, HD⟩, by simp only [intOf]; omega⟩
      · have h60' : ¬ (n : Int) ≤ 60 := by omega
        have hlt' : (k : Int) < n := by omega
        go_wp2
        go_ret
        exact ⟨⟨false, rfl, fun h => (by cases h)⟩, HD.out⟩
    · have hlt' : ¬ (k : Int) < n := by omega
      have HQ3 := hid (show m = Trl.nums ss by have h := HQ.out; rwa [List.take_of_length_le (by rw [HN.out]; omega)] at h)
      by_cases h60 : (n : Int) ≤ 60
      · by_cases h600 : (m : Int) ≤ 300
        · go_wp2
          go_ret
          exact ⟨⟨true, rfl, fun _ => ⟨by have := HN.out; omega, by have := HQ3.out; omega⟩⟩, HD.out⟩
        · go_wp2
          go_ret
          exact ⟨⟨false, rfl, fun h => (by cases h)⟩, HD.out⟩
      · go_wp2
        go_ret
        exact ⟨⟨false, rfl, fun h => (by cases h)⟩, HD.out⟩
end Go.Proofs.Ytckpahdlcdgbpaa
