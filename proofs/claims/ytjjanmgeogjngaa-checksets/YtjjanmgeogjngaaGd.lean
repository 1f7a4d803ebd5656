/- Small functions of the checker, and of the statements. -/
import Derived.Test.YtjjanmgeogjngaaGb
import Derived.Test.YtjjanmgeogjngaaGa
import Derived.Lib.AppendZerosOnto
import Derived.Maps.OwnSet
import Derived.Maps.AppendAt
import Derived.Deep.AppendLies
import Derived.Deep.RegionWith
import Derived.Defers
/- Small functions of the checker, and of the statements. -/
namespace Lra
/-- A hint from the least one on, and not 0. -/
def hfrom (least n : Int) : Bool := n != 0 && (decide (least ≤ n) && decide (n ≤ 4611686018427387903))
theorem hfrom_one : hfrom 1 = added := by
  funext n; unfold hfrom added; rw [Bool.eq_iff_iff]; simp; omega
theorem hfrom_hint : hfrom (-4611686018427387903) = hint := rfl
def above (n : Int) : Bool := decide (0 ≤ n)
def below (m n : Int) : Bool := decide (Cnf.vr n ≤ m)
end Lra
namespace Go.Proofs.Ytjjanmgeogjngaa
open Go.RowKit
set_option linter.unusedVariables false

theorem lit_cases (x : Int) : (Lra.literal x = false ∧ (x == 0) = true) ∨ (Lra.literal x = false ∧ (x == 0) = false ∧ x < -1048576) ∨ (Lra.literal x = false ∧ (x == 0) = false ∧ ¬ x < -1048576 ∧ 1048576 < x) ∨ (Lra.literal x = true ∧ (x == 0) = false ∧ ¬ x < -1048576 ∧ ¬ 1048576 < x) := by
  unfold Lra.literal
  by_cases h0 : x = 0
  · left; simp [h0]
  · by_cases h1 : x < -1048576
    · right; left; refine ⟨?_, by simpa using h0, h1⟩; simp; intro _ h; omega
    · by_cases h2 : 1048576 < x
      · right; right; left; refine ⟨?_, by simpa using h0, h1, h2⟩; simp; intro _ _; omega
      · right; right; right; refine ⟨?_, by simpa using h0, h1, h2⟩; simp [h0]; omega
theorem from_cases (m x : Int) : (Lra.hfrom m x = false ∧ (x == 0) = true) ∨ (Lra.hfrom m x = false ∧ (x == 0) = false ∧ x < m) ∨ (Lra.hfrom m x = false ∧ (x == 0) = false ∧ ¬ x < m ∧ 4611686018427387903 < x) ∨ (Lra.hfrom m x = true ∧ (x == 0) = false ∧ ¬ x < m ∧ ¬ 4611686018427387903 < x) := by
  unfold Lra.hfrom
  by_cases h0 : x = 0
  · left; simp [h0]
  · by_cases h1 : x < m
    · right; left; refine ⟨?_, by simpa using h0, h1⟩; simp; intro _ h; omega
    · by_cases h2 : 4611686018427387903 < x
      · right; right; left; refine ⟨?_, by simpa using h0, h1, h2⟩; simp; intro _ _; omega
      · right; right; right; refine ⟨?_, by simpa using h0, h1, h2⟩; simp [h0]; omega

set_option maxRecDepth 100000 in
set_option maxHeartbeats 4000000 in
theorem literals58 (a : Option Addr) (n c : Nat) (xs : List Int) (w : World) (hn : xs.length = n) (hb : n ≤ 35184372088832) (hx : Lits w a xs) :
    Calls Try.prog 58 #[.slice a n c] w fun e w' => e = .returned (.bool (xs.all Lra.literal)) ∧ w' = w := by
  have HX := hid hx
  have HN := hid hn
  obtain ⟨r, hr⟩ : ∃ r, xs.all Lra.literal = r := ⟨_, rfl⟩
  have HR := hid hr
  rw [hr]
  clear hx hn hr
  go_enter Try.func58, Try.ntmps58
  go_wp2
  go_loop [7] (fun i => ∃ k : Nat, i = .int .i64 k ∧ k ≤ n ∧ Hid ((xs.take k).all Lra.literal = true)) (fun i => n - (intOf i).toNat)
  case atStart => exact ⟨0, rfl, by omega, hid (by simp)⟩
  case round =>
    obtain ⟨k, rfl, hk, HI⟩ := hrel
    by_cases hlt : k < n
    · have hlt' : (k : Int) < n := by omega
      obtain ⟨b, off, rfl, _, hc, h1, h2⟩ := Row.at HX.out (j := k) (by rw [HN.out]; exact hlt)
      have HT := hid (fun h => Lra.all_take (Lra.literal) xs k (by rw [HN.out]; exact hlt) HI.out h)
      have HZ := hid (fun h => Lra.all_false (Lra.literal) xs k (by rw [HN.out]; exact hlt) h)
      generalize xs.getD k 0 = x at hc h1 h2 HT HZ
      rcases lit_cases x with ⟨t0, t1⟩ | ⟨t0, t1, t2⟩ | ⟨t0, t1, t2, t3⟩ | ⟨t0, t1, t2, t3⟩
      · have HRF := hid (show r = false by rw [← HR.out]; exact HZ.out t0)
        clear HT HZ t0
        go_wp2
        go_ret
        exact ⟨by rw [HRF.out]; rfl, rfl⟩
      · have HRF := hid (show r = false by rw [← HR.out]; exact HZ.out t0)
        clear HT HZ t0
        go_wp2
        go_ret
        exact ⟨by rw [HRF.out]; rfl, rfl⟩
      · have HRF := hid (show r = false by rw [← HR.out]; exact HZ.out t0)
        clear HT HZ t0
        go_wp2
        go_ret
        exact ⟨by rw [HRF.out]; rfl, rfl⟩
      · have HK := hid (HT.out t0)
        clear HT HZ t0
        go_wp2
        go_round
        case rel => exact ⟨k + 1, by go_num, by omega, HK⟩
        case measure => simp [intOf]; omega
    · have hlt' : ¬ (k : Int) < n := by omega
      have HR1 := hid (show r = true by
        rw [← HR.out]
        have := HI.out
        rwa [List.take_of_length_le (by rw [HN.out]; omega)] at this)
      go_wp2
      go_ret
      exact ⟨by rw [HR1.out]; rfl, rfl⟩

set_option maxRecDepth 100000 in
set_option maxHeartbeats 4000000 in
theorem hintsFrom59 (m : Int) (a : Option Addr) (n c : Nat) (xs : List Int) (w : World) (hn : xs.length = n) (hb : n ≤ 35184372088832) (hx : Hnts w a xs) :
    Calls Try.prog 59 #[.int .i64 m, .slice a n c] w fun e w' => e = .returned (.bool (xs.all (Lra.hfrom m))) ∧ w' = w := by
  have HX := hid hx
  have HN := hid hn
  obtain ⟨r, hr⟩ : ∃ r, xs.all (Lra.hfrom m) = r := ⟨_, rfl⟩
  have HR := hid hr
  rw [hr]
  clear hx hn hr
  go_enter Try.func59, Try.ntmps59
  go_wp2
  go_loop [9] (fun i => ∃ k : Nat, i = .int .i64 k ∧ k ≤ n ∧ Hid ((xs.take k).all (Lra.hfrom m) = true)) (fun i => n - (intOf i).toNat)
  case atStart => exact ⟨0, rfl, by omega, hid (by simp)⟩
  case round =>
    obtain ⟨k, rfl, hk, HI⟩ := hrel
    by_cases hlt : k < n
    · have hlt' : (k : Int) < n := by omega
      obtain ⟨b, off, rfl, _, hc, h1, h2⟩ := Row.at HX.out (j := k) (by rw [HN.out]; exact hlt)
      have HT := hid (fun h => Lra.all_take ((Lra.hfrom m)) xs k (by rw [HN.out]; exact hlt) HI.out h)
      have HZ := hid (fun h => Lra.all_false ((Lra.hfrom m)) xs k (by rw [HN.out]; exact hlt) h)
      generalize xs.getD k 0 = x at hc h1 h2 HT HZ
      rcases from_cases m x with ⟨t0, t1⟩ | ⟨t0, t1, t2⟩ | ⟨t0, t1, t2, t3⟩ | ⟨t0, t1, t2, t3⟩
      · have HRF := hid (show r = false by rw [← HR.out]; exact HZ.out t0)
        clear HT HZ t0
        go_wp2
        go_ret
        exact ⟨by rw [HRF.out]; rfl, rfl⟩
      · have HRF := hid (show r = false by rw [← HR.out]; exact HZ.out t0)
        clear HT HZ t0
        go_wp2
        go_ret
        exact ⟨by rw [HRF.out]; rfl, rfl⟩
      · have HRF := hid (show r = false by rw [← HR.out]; exact HZ.out t0)
        clear HT HZ t0
        go_wp2
        go_ret
        exact ⟨by rw [HRF.out]; rfl, rfl⟩
      · have HK := hid (HT.out t0)
        clear HT HZ t0
        go_wp2
        go_round
        case rel => exact ⟨k + 1, by go_num, by omega, HK⟩
        case measure => simp [intOf]; omega
    · have hlt' : ¬ (k : Int) < n := by omega
      have HR1 := hid (show r = true by
        rw [← HR.out]
        have := HI.out
        rwa [List.take_of_length_le (by rw [HN.out]; omega)] at this)
      go_wp2
      go_ret
      exact ⟨by rw [HR1.out]; rfl, rfl⟩

theorem above_cases (x : Int) : (Lra.above x = false ∧ x < 0) ∨ (Lra.above x = true ∧ ¬ x < 0) := by
  unfold Lra.above; by_cases h : x < 0
  · left; refine ⟨?_, h⟩; simp; omega
  · right; refine ⟨?_, h⟩; simp; omega

set_option maxRecDepth 100000 in
set_option maxHeartbeats 4000000 in
theorem plain26 (a : Option Addr) (n c : Nat) (xs : List Int) (w : World) (hn : xs.length = n) (hb : n ≤ 35184372088832) (hx : Hnts w a xs) :
    Calls Try.prog 26 #[.slice a n c] w fun e w' => e = .returned (.bool (xs.all Lra.above)) ∧ w' = w := by
  have HX := hid hx
  have HN := hid hn
  obtain ⟨r, hr⟩ : ∃ r, xs.all Lra.above = r := ⟨_, rfl⟩
  have HR := hid hr
  rw [hr]
  clear hx hn hr
  go_enter Try.func26, Try.ntmps26
  go_wp2
  go_loop [3] (fun i => ∃ k : Nat, i = .int .i64 k ∧ k ≤ n ∧ Hid ((xs.take k).all Lra.above = true)) (fun i => n - (intOf i).toNat)
  case atStart => exact ⟨0, rfl, by omega, hid (by simp)⟩
  case round =>
    obtain ⟨k, rfl, hk, HI⟩ := hrel
    by_cases hlt : k < n
    · have hlt' : (k : Int) < n := by omega
      obtain ⟨b, off, rfl, _, hc, h1, h2⟩ := Row.at HX.out (j := k) (by rw [HN.out]; exact hlt)
      have HT := hid (fun h => Lra.all_take (Lra.above) xs k (by rw [HN.out]; exact hlt) HI.out h)
      have HZ := hid (fun h => Lra.all_false (Lra.above) xs k (by rw [HN.out]; exact hlt) h)
      generalize xs.getD k 0 = x at hc h1 h2 HT HZ
      rcases above_cases x with ⟨t0, t1⟩ | ⟨t0, t1⟩
      · have HRF := hid (show r = false by rw [← HR.out]; exact HZ.out t0)
        clear HT HZ t0
        go_wp2
        go_ret
        exact ⟨by rw [HRF.out]; rfl, rfl⟩
      · have HK := hid (HT.out t0)
        clear HT HZ t0
        go_wp2
        go_round
        case rel => exact ⟨k + 1, by go_num, by omega, HK⟩
        case measure => simp [intOf]; omega
    · have hlt' : ¬ (k : Int) < n := by omega
      have HR1 := hid (show r = true by
        rw [← HR.out]
        have := HI.out
        rwa [List.take_of_length_le (by rw [HN.out]; omega)] at this)
      go_wp2
      go_ret
      exact ⟨by rw [HR1.out]; rfl, rfl⟩

set_option maxHeartbeats 1000000 in
theorem place72 (l : Int) (w : World) (h1 : -2147483648 ≤ l) (h2 : l ≤ 2147483647) :
    Calls Try.prog 72 #[.int .i32 l] w fun e w' => e = .returned (.int .i64 (2 * Cnf.vr l + (if l < 0 then 1 else 0))) ∧ w' = w := by
  have C := hid (var56 l w h1 h2)
  have v0 := Cnf.vr_nonneg l
  have v1 := Cnf.vr_le l h1 h2
  generalize Cnf.vr l = v at C v0 v1
  by_cases h : l < 0
  · rw [if_pos h]
    go_enter Try.func72, Try.ntmps72
    go_wp2_with (go_at_call 56; refine C.out.mono ?_; clear C; rintro e W ⟨rfl, rfl⟩)
    go_ret
    exact ⟨rfl, rfl⟩
  · rw [if_neg h, Int.add_zero]
    go_enter Try.func72, Try.ntmps72
    go_wp2_with (go_at_call 56; refine C.out.mono ?_; clear C; rintro e W ⟨rfl, rfl⟩)
    go_ret
    exact ⟨rfl, rfl⟩
/-- The error of hints that ended so: 0 open, 1 conflict, 2 wrong. -/
theorem told80 (h : Int) (w : World) :
    Calls Try.prog 80 #[.int .i64 h] w fun e w' => e = .returned (.int .i64 (if h = 1 then 0 else if h = 2 then 60 else 61)) ∧ w' = w := by
  by_cases h1 : h = 1
  · subst h1
    go_enter Try.func80, Try.ntmps80
    go_wp2
    go_ret
    exact ⟨rfl, rfl⟩
  · by_cases h2 : h = 2
    · subst h2
      go_enter Try.func80, Try.ntmps80
      go_wp2
      go_ret
      exact ⟨rfl, rfl⟩
    · rw [if_neg h1, if_neg h2]
      have e1 : (h == 1) = false := by simpa using h1
      have e2 : (h == 2) = false := by simpa using h2
      go_enter Try.func80, Try.ntmps80
      go_wp2
      go_ret
      exact ⟨rfl, rfl⟩
end Go.Proofs.Ytjjanmgeogjngaa

/- May a step be, by the checker. -/
namespace Go.Proofs.Ytjjanmgeogjngaa
open Go.RowKit
set_option linter.unusedVariables false

set_option maxRecDepth 100000 in
set_option maxHeartbeats 4000000 in
theorem mayBe43 (s : Lra.Stp) (a1 : Option Addr) (c1 : Nat) (a2 : Option Addr) (c2 : Nat) (w : World) (hs : StpV w a1 a2 s) :
    Calls Try.prog 43 #[sval s a1 c1 a2 c2] w fun e w' => e = .returned (.bool (Lra.may s)) ∧ Below w.heap.size w w' := by
  obtain ⟨kind, id, lits, hints⟩ := s
  obtain ⟨h1, h2, h3, h4, h5⟩ := hs
  simp only at h1 h2 h3 h4 h5
  unfold sval Lra.may
  simp only
  have hB := below_box w (.cells #[.int .u8 kind, .int .i64 id, .slice a1 lits.length c1, .slice a2 hints.length c2] 44)
  have H1 := hid (h1.below hB)
  have H2 := hid (h2.below hB)
  have HB := hid hB
  have H5 := hid h5
  by_cases k1 : kind = 1
  · rw [if_pos k1]
    subst k1
    generalize hW : w.alloc (.cells #[.int .u8 1, .int .i64 id, .slice a1 lits.length c1, .slice a2 hints.length c2] 44) = W1 at H1 H2 HB
    have C58 := hid (literals58 a1 lits.length c1 lits W1 rfl H5.out.1 H1.out)
    have C59 := hid (hintsFrom59 (-4611686018427387903) a2 hints.length c2 hints W1 rfl H5.out.2 H2.out)
    rw [Lra.hfrom_hint] at C59
    have hx := heap_alloc_new w (.cells #[.int .u8 1, .int .i64 id, .slice a1 lits.length c1, .slice a2 hints.length c2] 44)
    rw [hW] at hx
    have x0 := row_cell hx 0
    have x1 := row_cell hx 1
    have x2 := row_cell hx 2
    have x3 := row_cell hx 3
    simp only [List.getElem?_toArray, List.getElem?_cons_zero, List.getElem?_cons_succ] at x0 x1 x2 x3
    generalize lits.length = n1 at hW C58 x2
    generalize hints.length = n2 at hW C59 x3
    generalize lits.all Lra.literal = b2 at C58
    generalize hints.all Lra.hint = b3 at C59
    clear hx h1 h2 h3 h4 h5 H1 H2 H5 hB
    by_cases t1 : 1 ≤ id
    · by_cases t2 : id ≤ 4611686018427387903
      · rw [show Lra.added id = true by simp [Lra.added, t1, t2]]
        cases b2
        all_goals
          go_enter Try.func43, Try.ntmps43
          go_wp2_with (first
            | (go_at_call 58; refine C58.out.mono ?_; clear C58; rintro e W ⟨rfl, rfl⟩)
            | (go_at_call 59; refine C59.out.mono ?_; clear C59; rintro e W ⟨rfl, rfl⟩))
          go_ret
          exact ⟨rfl, HB.out⟩
      · rw [show Lra.added id = false by simp [Lra.added, t1, t2]]
        go_enter Try.func43, Try.ntmps43
        go_wp2
        go_ret
        exact ⟨rfl, HB.out⟩
    · rw [show Lra.added id = false by simp [Lra.added, t1]]
      go_enter Try.func43, Try.ntmps43
      go_wp2
      go_ret
      exact ⟨rfl, HB.out⟩
  by_cases k2 : kind = 2
  · rw [if_neg k1, if_pos k2]
    subst k2
    generalize hW : w.alloc (.cells #[.int .u8 2, .int .i64 id, .slice a1 lits.length c1, .slice a2 hints.length c2] 44) = W1 at H1 H2 HB
    have C59 := hid (hintsFrom59 1 a2 hints.length c2 hints W1 rfl H5.out.2 H2.out)
    rw [Lra.hfrom_one] at C59
    have hx := heap_alloc_new w (.cells #[.int .u8 2, .int .i64 id, .slice a1 lits.length c1, .slice a2 hints.length c2] 44)
    rw [hW] at hx
    have x0 := row_cell hx 0
    have x1 := row_cell hx 1
    have x2 := row_cell hx 2
    have x3 := row_cell hx 3
    simp only [List.getElem?_toArray, List.getElem?_cons_zero, List.getElem?_cons_succ] at x0 x1 x2 x3
    have he : lits.isEmpty = ((lits.length : Int) == 0) := by cases lits <;> simp <;> omega
    rw [he]
    clear he
    generalize lits.length = n1 at hW x2 ⊢
    generalize hints.length = n2 at hW C59 x3
    generalize hints.all Lra.added = b3 at C59
    clear hx h1 h2 h3 h4 h5 H1 H2 H5 hB k1
    by_cases t1 : 0 ≤ id
    · by_cases t2 : id ≤ 4611686018427387903
      · rw [show Lra.known id = true by simp [Lra.known, t1, t2]]
        cases hz : ((n1 : Int) == 0)
        all_goals
          go_enter Try.func43, Try.ntmps43
          go_wp2_with (first
            | (go_at_call 59; refine C59.out.mono ?_; clear C59; rintro e W ⟨rfl, rfl⟩))
          go_ret
          exact ⟨rfl, HB.out⟩
      · rw [show Lra.known id = false by simp [Lra.known, t1, t2]]
        go_enter Try.func43, Try.ntmps43
        go_wp2
        go_ret
        exact ⟨rfl, HB.out⟩
    · rw [show Lra.known id = false by simp [Lra.known, t1]]
      go_enter Try.func43, Try.ntmps43
      go_wp2
      go_ret
      exact ⟨rfl, HB.out⟩
  · rw [if_neg k1, if_neg k2]
    have e1 : (kind == 1) = false := by simpa using k1
    have e2 : (kind == 2) = false := by simpa using k2
    clear h1 h2 h3 h4 h5 H1 H2 H5 hB k1 k2
    generalize lits.length = n1 at HB ⊢
    generalize hints.length = n2 at HB ⊢
    go_enter Try.func43, Try.ntmps43
    go_wp2
    go_ret
    exact ⟨rfl, HB.out⟩
end Go.Proofs.Ytjjanmgeogjngaa

/- append(s, make([]T, m)...) where s owns its row: what it holds, and m noughts. -/
namespace Go.Proofs.Ytjjanmgeogjngaa
open Go.RowKit
set_option linter.unusedVariables false

theorem zeroCells_one (z : Value) (n : Nat) : Builtin.zeroCells #[z] n = (List.replicate n z).toArray := by
  apply Array.ext
  · simp [Builtin.zeroCells]
  · intro j h1 h2
    simp [Builtin.zeroCells, Nat.mod_one]

theorem run_append_own_zeros {P : Program} (w : World) (base : Nat) (t tn ty e : TypeId) (i : TypeInfo) (z : Value) (bytes : Nat) (kq kn : IntKind) (ht : P.underlying t = some (.slice e)) (htn : P.underlying tn = some (.int kn)) (hi : P.info? e = some i) (hz : i.zero = some z)
    (hsize : i.size = 1) (hby : i.bytes = bytes) (hzc : z.cells = #[z]) (hz1 : z.oneCell' = true) (v : Value) (n : Nat) (xs : List Value) (hown : w.ownsRow base e 1 v n xs)
    (m : Nat) (hm : 0 < m) (h63 : n + m ≤ maxLen) (hbytes : (n + m) * bytes ≤ 140737488355328) (hbase : base ≤ w.heap.size) :
    ∃ v' w', (Builtin.append_ #[t, tn] ty #[v, .int kq m]).run P w = .ok v' w' ∧ w'.ownsRow base e 1 v' (n + m) (xs ++ List.replicate m z) ∧ w.grownBy w' v.ownBlock ∧ (v'.ownBlock = v.ownBlock ∨ ∃ g, v'.ownBlock = some g ∧ w.heap.size ≤ g) := by
  subst hby
  have hsmall : n + m ≤ 9223372036854775807 := by simp only [maxLen] at h63; omega
  have hmb : m * i.bytes ≤ 140737488355328 := Nat.le_trans (Nat.mul_le_mul_right _ (by omega)) hbytes
  have hlen : (xs ++ List.replicate m z).length = (n + m) * 1 := by rw [List.length_append, hown.1, List.length_replicate]; omega
  have grown : ∀ (old : Nat), old < n + m → ∀ (row : Option Nat),
      (w.drew.alloc (.cells (xs.toArray ++ Builtin.zeroCells z.cells m ++ Builtin.zeroCells z.cells (grownCap w (n + m) old e - (n + m))) e)).ownsRow base e 1
        (.slice (some ⟨w.heap.size, 0, none⟩) (n + m) (grownCap w (n + m) old e)) (n + m) (xs ++ List.replicate m z) ∧
      w.grownBy (w.drew.alloc (.cells (xs.toArray ++ Builtin.zeroCells z.cells m ++ Builtin.zeroCells z.cells (grownCap w (n + m) old e - (n + m))) e)) row := by
    intro old ho row
    have hge := grownCap_ge w (n + m) old e
    have hcm : grownCap w (n + m) old e ≤ maxLen := grownCap_le_maxLen w (n + m) old e h63
    refine ⟨⟨hlen, .inr ⟨w.heap.size, _, _, rfl, hbase, heap_alloc_new w.drew _, hge, hcm, ?_, ?_⟩⟩, ⟨rfl, rfl, rfl, by simp, fun k hk h => (World.grownBy_alloc w.drew _ row).block k hk h⟩⟩
    · have := hown.1
      rw [hzc, zeroCells_one, zeroCells_one]
      simp
      omega
    · rw [hzc, zeroCells_one, zeroCells_one]
      simp only [Array.toList_append, List.append_assoc]
      rw [← List.append_assoc, ← hlen]
      exact List.take_left
  rcases hown.2 with ⟨rfl, rfl⟩ | ⟨g, cap, cur, rfl, hbg, hg, hnc, hcm, hcs, htake⟩
  · have hx : xs = [] := List.eq_nil_of_length_eq_zero (by simpa using hown.1)
    subst hx
    have hr := Lib.run_append_nil_zeros (P := P) w t tn ty e i z kq kn ht htn hi hz m hm (by omega) (by omega) (by omega)
    have hgr := grown 0 (by omega) (Value.ownBlock (.slice none 0 0))
    simp only [Nat.zero_add, List.nil_append, Array.empty_append] at hgr ⊢
    exact ⟨_, _, hr, hgr.1, hgr.2, .inr ⟨_, rfl, Nat.le_refl _⟩⟩
  · by_cases hroom : n + m ≤ cap
    · have hfit : n * 1 + (List.replicate m z).length ≤ cur.size := by simp; omega
      have hst := run_storeCells_at P g (n * 1) e (List.replicate m z) 0 cur w hg (by simpa using hfit) (fun u hu => by rw [(List.mem_replicate.1 hu).2]; exact hz1)
      simp only [Nat.add_zero, Nat.mul_one] at hst
      have hr : (Builtin.append_ #[t, tn] ty #[.slice (some ⟨g, 0, none⟩) n cap, .int kq m]).run P w =
          .ok (.slice (some ⟨g, 0, none⟩) (n + m) cap) (w.setRow g (cur.toList.take n ++ List.replicate m z ++ cur.toList.drop (n + (List.replicate m z).length)).toArray) := by
        have hk : m ≠ 0 := by omega
        have hw : IntKind.i64.wrap (m : Int) = m := by rw [IntKind.wrap_i64]; omega
        have h48i : ¬ (281474976710656 < (m : Int) * (i.bytes : Int)) := by
          rw [← Int.natCast_mul]
          omega
        have hneg : ¬ ((m : Int) < 0) := by omega
        have hz' : Builtin.zeroCells z.cells m = (List.replicate m z).toArray := by rw [hzc]; exact zeroCells_one z m
        simp [Builtin.append_, run_underlying ht, run_underlying htn, sizeOf, typeInfo, zeroValue, hi, hz, hsize, asInt, asIntOf, hw, hneg, hk, h48i, hroom, Addr.add_lit, hz', hst]
      refine ⟨_, _, hr, ⟨hlen, .inr ⟨g, cap, _, rfl, hbg, setRow_heap w g cur _ e _ hg, hroom, hcm, ?_, ?_⟩⟩, ⟨rfl, rfl, rfl, by simp, fun k _ hk => setRow_other w g k _ (fun e => hk (by simp [Value.ownBlock, e]))⟩, .inl rfl⟩
      · simp only [List.size_toArray, List.length_append, List.length_take, List.length_drop, Array.length_toList, List.length_replicate]
        omega
      · rw [show cur.toList.take n = xs by rw [← htake, Nat.mul_one], ← hlen]
        exact List.take_left
    · have holds : ∀ j u, xs[j]? = some u → w.cell? ((⟨g, 0, none⟩ : Addr).add j) = some u := hown.cells (g := g) rfl
      have hf := run_firstCells_some (P := P) w.drew i.size n ⟨g, 0, none⟩ n cap xs (by rw [hsize]; exact hown.1) holds
      have hr := Lib.run_append_grow_zeros (P := P) w t tn ty e i z kq kn ht htn hi hz (some ⟨g, 0, none⟩) n cap xs hf m hm (by omega) (by omega) (by omega) (by omega) (growslice_fits (by omega) hbytes)
      have hgr := grown cap (by omega) (Value.ownBlock (.slice (some ⟨g, 0, none⟩) n cap))
      exact ⟨_, _, hr, hgr.1, hgr.2, .inr ⟨_, rfl, Nat.le_refl _⟩⟩
end Go.Proofs.Ytjjanmgeogjngaa

/- The checker's map of clauses: which value stands under an id. -/
namespace Go.Proofs.Ytjjanmgeogjngaa
open Go.RowKit Go.Maps
set_option linter.unusedVariables false

/-- An element of the map, as it is. -/
def raw (v : Value) : Option (DataW Value × List MemPlace) := some (.held v, [])
theorem klaw : Keyed Try.prog 2 := int_keyed Try.underlying2
theorem zeroC (w : World) : (zeroValue 39).run Try.prog w = .ok (.slice none 0 0) w := by kernel_rfl
/-- A number of 64 bits. -/
def I64 (n : Int) : Prop := -9223372036854775808 ≤ n ∧ n ≤ 9223372036854775807
theorem key64 {id : Int} (h : I64 id) : keyOf Try.prog 2 (.int .i64 id) = some (.int .i64 id) := keyOf_int_mk Try.underlying2 (WalkArith.wf_i64 (by have := h.1; have := h.2; omega))

/-- What stands under an id, of clauses of which one more stands, or one less. -/
def upd (f : Int → Option Value) (id : Int) (v : Option Value) (k : Int) : Option Value := if k = id then v else f k

/-- Block bm is a map of at most n entries, and f tells what stands under an id. -/
def Mp (W : World) (bm n : Nat) (f : Int → Option Value) : Prop :=
  ∃ D : DataW Value, W.ownsMap Try.prog 2 raw bm n D ∧ ∀ id, I64 id → Maps.has D (.int .i64 id) = (f id).isSome ∧ D.atKey (.int .i64 id) (.held (.slice none 0 0)) = .held ((f id).getD (.slice none 0 0))

theorem Mp.new (w : World) : Mp (w.alloc (.map #[] 0)) w.heap.size 0 (fun _ => none) :=
  ⟨.map [], World.ownsMap_made w Try.prog 2 raw, fun id _ => ⟨rfl, rfl⟩⟩
theorem Mp.kept {W W' : World} {bm n : Nat} {f : Int → Option Value} {row : Option Nat} (h : Mp W bm n f) (hg : W.grownBy W' row) (hne : some bm ≠ row) : Mp W' bm n f := by
  obtain ⟨D, h1, h2⟩ := h
  exact ⟨D, h1.kept hg hne, h2⟩
theorem Mp.lt {W : World} {bm n : Nat} {f : Int → Option Value} (h : Mp W bm n f) : bm < W.heap.size := by
  obtain ⟨D, h1, h2⟩ := h
  exact h1.lt
theorem Mp.set {W : World} {bm n : Nat} {f : Int → Option Value} (h : Mp W bm n f) {a : Addr} (ha : bm ≠ a.block) (u : Value) : Mp (W.setCell a u) bm n f := by
  obtain ⟨D, h1, h2⟩ := h
  exact ⟨D, h1.setCell ha u, h2⟩
/-- v, ok := m[id] -/
theorem Mp.look {W : World} {bm n : Nat} {f : Int → Option Value} (h : Mp W bm n f) {id : Int} (hi : I64 id) :
    (Instr.lookup 71 (.map (some bm)) (.int .i64 id) true).run Try.prog W = .ok (.tuple #[(f id).getD (.slice none 0 0), .bool (f id).isSome]) W := by
  obtain ⟨D, h1, h2⟩ := h
  obtain ⟨v, ps, hr, hv⟩ := h1.look_ok klaw Try.underlying71 (zeroC W) (zd := .held (.slice none 0 0)) (zp := []) rfl (key64 hi)
  rw [(h2 id hi).2] at hv
  rw [hr, (h2 id hi).1]
  simp only [raw, Option.some.injEq, Prod.mk.injEq, DataW.held.injEq] at hv
  rw [hv.1]
/-- m[id] -/
theorem Mp.look1 {W : World} {bm n : Nat} {f : Int → Option Value} (h : Mp W bm n f) {id : Int} (hi : I64 id) :
    (Instr.lookup 71 (.map (some bm)) (.int .i64 id) false).run Try.prog W = .ok ((f id).getD (.slice none 0 0)) W := by
  obtain ⟨D, h1, h2⟩ := h
  obtain ⟨v, ps, hr, hv⟩ := h1.lookup klaw Try.underlying71 (zeroC W) (zd := .held (.slice none 0 0)) (zp := []) rfl (key64 hi)
  rw [(h2 id hi).2] at hv
  rw [hr]
  simp only [raw, Option.some.injEq, Prod.mk.injEq, DataW.held.injEq] at hv
  rw [hv.1]
theorem lit_ne {a b : Int} (h : a ≠ b) : Lit.int .i64 a ≠ .int .i64 b := by
  intro e; injection e with _ e; exact h e
/-- m[id] = v -/
theorem Mp.put {W : World} {bm n : Nat} {f : Int → Option Value} (h : Mp W bm n f) {id : Int} (hi : I64 id) (hn : n < maxLen) (v : Value) :
    ∃ W', (Instr.mapUpdate 71 (.map (some bm)) (.int .i64 id) v).run Try.prog W = .ok () W' ∧ Mp W' bm (n + 1) (upd f id (some v)) ∧ W.mapTurned W' bm := by
  obtain ⟨D, h1, h2⟩ := h
  obtain ⟨W', hr, ho, ht⟩ := h1.store klaw Try.underlying71 hn (val := v) (d := .held v) (ps := []) (key64 hi) rfl
  refine ⟨W', hr, ⟨_, ho, fun k hk => ?_⟩, ht⟩
  by_cases e : k = id
  · subst e
    rw [has_put_same h1.isMap (show WideAt.IsKeyLit (.int .i64 k) from trivial), atKey_put_same h1.isMap (show WideAt.IsKeyLit (.int .i64 k) from trivial)]
    simp [upd]
  · rw [has_put_other (lit_ne e), atKey_put_other (lit_ne e)]
    simp only [upd, if_neg e]
    exact h2 k hk
/-- delete(m, id) -/
theorem Mp.del {W : World} {bm n : Nat} {f : Int → Option Value} (h : Mp W bm n f) {id : Int} (hi : I64 id) (ty : TypeId) :
    ∃ W', (Builtin.delete_ #[71, 2] ty #[.map (some bm), .int .i64 id]).run Try.prog W = .ok (.tuple #[]) W' ∧ Mp W' bm n (upd f id none) ∧ W.mapTurned W' bm := by
  obtain ⟨D, h1, h2⟩ := h
  obtain ⟨W', hr, ho, ht⟩ := h1.drop klaw Try.underlying71 (key64 hi) ty
  refine ⟨W', hr, ⟨_, ho, fun k hk => ?_⟩, ht⟩
  by_cases e : k = id
  · subst e
    rw [has_del_same, atKey_del_same]
    simp [upd]
  · rw [has_del_other (lit_ne e), atKey_del_other (lit_ne e)]
    simp only [upd, if_neg e]
    exact h2 k hk
end Go.Proofs.Ytjjanmgeogjngaa

/- What is true: the checker's values and its trail. -/
namespace Ckr
/-- The value of a literal where those of T are true: 1, -1, or 0. -/
def vl (T : List Int) (l : Int) : Int := if l ∈ T then 1 else if -l ∈ T then -1 else 0
/-- A row made longer with noughts, so that it has a place. -/
def reach (xs : List Int) (p : Nat) : List Int := xs ++ List.replicate (p + 1 - xs.length) 0
theorem reach_len (xs : List Int) (p : Nat) : (reach xs p).length = max xs.length (p + 1) := by simp [reach]; omega
theorem reach_getD (xs : List Int) (p j : Nat) : (reach xs p).getD j 0 = xs.getD j 0 := by
  unfold reach
  by_cases h : j < xs.length
  · simp [List.getD, List.getElem?_append_left h]
  · have e : xs[j]? = none := List.getElem?_eq_none (by omega)
    simp only [List.getD, List.getElem?_append_right (Nat.le_of_not_lt h), e, List.getElem?_replicate]
    split <;> rfl
/-- Values that say what is true. -/
structure Vals (T vals : List Int) : Prop where
  in_ : ∀ l ∈ T, 1 ≤ Cnf.vr l ∧ Cnf.vr l < vals.length
  neg : ∀ l ∈ T, -l ∉ T
  nodup : T.Nodup
  at_ : ∀ v : Nat, vals.getD v 0 = vl T v
theorem vl_neg (T : List Int) (l : Int) (h : ∀ l ∈ T, -l ∉ T) : vl T (-l) = -vl T l := by
  unfold vl
  rw [Int.neg_neg]
  by_cases h1 : l ∈ T
  · rw [if_pos h1, if_neg (h l h1), if_pos h1]
  · by_cases h2 : -l ∈ T
    · rw [if_pos h2, if_neg h1, if_pos h2]; rfl
    · rw [if_neg h2, if_neg h1, if_neg h1, if_neg h2]; rfl
theorem Vals.val {T vals : List Int} (h : Vals T vals) (l : Int) : vl T l = (if l < 0 then -vals.getD (Cnf.vr l).toNat 0 else vals.getD (Cnf.vr l).toNat 0) := by
  rw [h.at_]
  by_cases hl : l < 0
  · rw [if_pos hl, show (((Cnf.vr l).toNat : Nat) : Int) = -l by unfold Cnf.vr; rw [if_pos hl]; omega, vl_neg T l h.neg]; omega
  · rw [if_neg hl, show (((Cnf.vr l).toNat : Nat) : Int) = l by unfold Cnf.vr; rw [if_neg hl]; omega]
theorem Vals.nought {T vals : List Int} (h : Vals T vals) (l : Int) (hl : (vals.length : Int) ≤ Cnf.vr l) : vl T l = 0 := by
  have h1 : l ∉ T := fun hm => by have := (h.in_ l hm).2; omega
  have h2 : -l ∉ T := fun hm => by
    have := (h.in_ _ hm).2
    rw [show Cnf.vr (-l) = Cnf.vr l by unfold Cnf.vr; split <;> split <;> omega] at this
    omega
  unfold vl
  rw [if_neg h1, if_neg h2]
theorem vl_le (T : List Int) (l : Int) : -1 ≤ vl T l ∧ vl T l ≤ 1 := by unfold vl; split <;> (try split) <;> omega
end Ckr
namespace Go.Proofs.Ytjjanmgeogjngaa
open Go.RowKit
set_option linter.unusedVariables false

theorem info3 : (Try.prog.info? 3).map (fun i => (i.zero, i.size, i.bytes)) = some (some (.int .i64 0), 1, 8) := by kernel_rfl
theorem info119 : (Try.prog.info? 119).map (fun i => (i.zero, i.size, i.bytes)) = some (some (.int .i8 0), 1, 1) := by kernel_rfl
/-- A row that reaches a place now: nothing else is turned. -/
def Reached (e : TypeId) (q : IntKind) (base : Nat) (xs : List Int) (p : Nat) (v : Value) (w : World) (r : Ending) (w' : World) : Prop :=
  ∃ v', r = .returned v' ∧ w'.ownsRow base e 1 v' (Ckr.reach xs p).length ((Ckr.reach xs p).map (Value.int q)) ∧ w.grownBy w' v.ownBlock ∧ (v'.ownBlock = v.ownBlock ∨ ∃ g, v'.ownBlock = some g ∧ w.heap.size ≤ g)
theorem grown_refl (w : World) (row : Option Nat) : w.grownBy w row := ⟨rfl, rfl, rfl, Nat.le_refl _, fun _ _ _ => rfl⟩

set_option maxRecDepth 100000 in
set_option maxHeartbeats 2000000 in
theorem reaching103 (base n p : Nat) (v : Value) (xs : List Int) (w : World) (hn : xs.length = n) (ho : w.ownsRow base 119 1 v n (xs.map (Value.int .i8))) (hp : p ≤ 4294967296) (hN : n ≤ 4294967297) (hb : base ≤ w.heap.size) :
    Calls Try.prog 103 #[v, .int .i64 p] w fun e w' => Reached 119 .i8 base xs p v w e w' := by
  obtain ⟨i0, hi, hz⟩ := Option.map_eq_some_iff.1 info119
  simp only [Prod.mk.injEq] at hz
  obtain ⟨a, c, rfl⟩ := own_slc ho
  by_cases hlt : p < n
  · have hlt' : (p : Int) < n := by omega
    have e : Ckr.reach xs p = xs := by unfold Ckr.reach; rw [show p + 1 - xs.length = 0 by omega]; simp
    have HF : Hid (Reached 119 .i8 base xs p (.slice a n c) w (.returned (.slice a n c)) w) := ⟨_, rfl, by rw [e, hn]; exact ho, grown_refl _ _, .inl rfl⟩
    clear ho hi hz e
    go_enter Try.func103, Try.ntmps103
    go_wp2
    go_ret
    exact HF.out
  · have hlt' : ¬ (p : Int) < n := by omega
    obtain ⟨v', w', hr, ho', hg, hbk⟩ := run_append_own_zeros (P := Try.prog) w base 73 3 73 119 i0 (.int .i8 0) 1 .i64 .i64 Try.underlying73 Try.underlying3 hi hz.1 hz.2.1 hz.2.2 rfl rfl (.slice a n c) n _ ho (p + 1 - n) (by omega) (by unfold maxLen; omega) (by omega) hb
    have e : ((p + 1 - n : Nat) : Int) = (p : Int) + 1 - n := by omega
    have HR := hid hr
    rw [e] at HR
    have e2 : xs.map (Value.int .i8) ++ List.replicate (p + 1 - n) (.int .i8 0) = (Ckr.reach xs p).map (Value.int .i8) := by unfold Ckr.reach; rw [hn]; simp
    have e3 : (Ckr.reach xs p).length = n + (p + 1 - n) := by rw [Ckr.reach_len, hn]; omega
    have HF : Hid (Reached 119 .i8 base xs p (.slice a n c) w (.returned v') w') := ⟨_, rfl, by rw [e3, ← e2]; exact ho', hg, hbk⟩
    clear ho hi hz e e2 e3 ho' hg hbk hr
    go_enter Try.func103, Try.ntmps103
    go_wp2_with (at_builtin; refine wpList_append_run rfl (.tmp 10) (.tmp 15) 73 3 rfl rfl rfl HR.out ?_)
    go_ret
    exact HF.out
set_option maxRecDepth 100000 in
set_option maxHeartbeats 2000000 in
theorem reaching71 (base n p : Nat) (v : Value) (xs : List Int) (w : World) (hn : xs.length = n) (ho : w.ownsRow base 3 1 v n (xs.map (Value.int .i64))) (hp : p ≤ 4294967296) (hN : n ≤ 4294967297) (hb : base ≤ w.heap.size) :
    Calls Try.prog 71 #[v, .int .i64 p] w fun e w' => Reached 3 .i64 base xs p v w e w' := by
  obtain ⟨i0, hi, hz⟩ := Option.map_eq_some_iff.1 info3
  simp only [Prod.mk.injEq] at hz
  obtain ⟨a, c, rfl⟩ := own_slc ho
  by_cases hlt : p < n
  · have hlt' : (p : Int) < n := by omega
    have e : Ckr.reach xs p = xs := by unfold Ckr.reach; rw [show p + 1 - xs.length = 0 by omega]; simp
    have HF : Hid (Reached 3 .i64 base xs p (.slice a n c) w (.returned (.slice a n c)) w) := ⟨_, rfl, by rw [e, hn]; exact ho, grown_refl _ _, .inl rfl⟩
    clear ho hi hz e
    go_enter Try.func71, Try.ntmps71
    go_wp2
    go_ret
    exact HF.out
  · have hlt' : ¬ (p : Int) < n := by omega
    obtain ⟨v', w', hr, ho', hg, hbk⟩ := run_append_own_zeros (P := Try.prog) w base 72 3 72 3 i0 (.int .i64 0) 8 .i64 .i64 Try.underlying72 Try.underlying3 hi hz.1 hz.2.1 hz.2.2 rfl rfl (.slice a n c) n _ ho (p + 1 - n) (by omega) (by unfold maxLen; omega) (by omega) hb
    have e : ((p + 1 - n : Nat) : Int) = (p : Int) + 1 - n := by omega
    have HR := hid hr
    rw [e] at HR
    have e2 : xs.map (Value.int .i64) ++ List.replicate (p + 1 - n) (.int .i64 0) = (Ckr.reach xs p).map (Value.int .i64) := by unfold Ckr.reach; rw [hn]; simp
    have e3 : (Ckr.reach xs p).length = n + (p + 1 - n) := by rw [Ckr.reach_len, hn]; omega
    have HF : Hid (Reached 3 .i64 base xs p (.slice a n c) w (.returned v') w') := ⟨_, rfl, by rw [e3, ← e2]; exact ho', hg, hbk⟩
    clear ho hi hz e e2 e3 ho' hg hbk hr
    go_enter Try.func71, Try.ntmps71
    go_wp2_with (at_builtin; refine wpList_append_run rfl (.tmp 10) (.tmp 15) 72 3 rfl rfl rfl HR.out ?_)
    go_ret
    exact HF.out
end Go.Proofs.Ytjjanmgeogjngaa

/- The value of a literal. -/
namespace Go.Proofs.Ytjjanmgeogjngaa
open Go.RowKit
set_option linter.unusedVariables false

set_option maxRecDepth 100000 in
set_option maxHeartbeats 2000000 in
theorem value86 (cb : Nat) (l : Int) (a : Option Addr) (n cap : Nat) (T vals : List Int) (w : World) (h1 : -2147483648 ≤ l) (h2 : l ≤ 2147483647) (hn : vals.length = n) (hN : n ≤ 4294967297) (h5 : w.cell? ⟨cb, 5, none⟩ = some (.slice a n cap)) (hv : Row .i8 (-128) 127 w a vals) (hT : Ckr.Vals T vals) :
    Calls Try.prog 86 #[.pointer (some ⟨cb, 0, none⟩), .int .i32 l] w fun e w' => e = .returned (.int .i8 (Ckr.vl T l)) ∧ w' = w := by
  have C := hid (var56 l w h1 h2)
  have v0 := Cnf.vr_nonneg l
  have HV := hid hv
  have HT := hid hT
  have HN := hid hn
  clear hv hT hn
  by_cases hge : (n : Int) ≤ Cnf.vr l
  · have HF := hid (HT.out.nought l (by rw [HN.out]; exact hge))
    generalize Cnf.vr l = v at C v0 hge
    go_enter Try.func86, Try.ntmps86
    go_wp2_with (go_at_call 56; refine C.out.mono ?_; clear C; rintro e W ⟨rfl, rfl⟩)
    go_ret
    exact ⟨by rw [HF.out]; rfl, rfl⟩
  · obtain ⟨b, off, rfl, _, hc, _, _⟩ := Row.at HV.out (j := (Cnf.vr l).toNat) (by rw [HN.out]; omega)
    have HE := hid (HT.out.val l)
    have HL := hid (show -1 ≤ vals.getD (Cnf.vr l).toNat 0 ∧ vals.getD (Cnf.vr l).toNat 0 ≤ 1 by rw [HT.out.at_]; exact Ckr.vl_le T _)
    generalize vals.getD (Cnf.vr l).toNat 0 = x at hc HE HL
    obtain ⟨v, hvv⟩ : ∃ v : Nat, Cnf.vr l = v := ⟨(Cnf.vr l).toNat, by omega⟩
    rw [hvv] at C v0 hge hc
    rw [Int.toNat_natCast] at hc
    have hge' : ¬ (v : Int) ≥ n := by omega
    have hlt' : (v : Int) < n := by omega
    have hx : x = -1 ∨ x = 0 ∨ x = 1 := by have := HL.out; omega
    clear hvv HT HV HN hge
    by_cases hl : l < 0
    · rw [if_pos hl] at HE
      rcases hx with rfl | rfl | rfl
      all_goals
        go_enter Try.func86, Try.ntmps86
        go_wp2_with (go_at_call 56; refine C.out.mono ?_; clear C; rintro e W ⟨rfl, rfl⟩)
        go_ret
        exact ⟨by rw [HE.out]; rfl, rfl⟩
    · rw [if_neg hl] at HE
      rw [HE.out]
      clear hx HL HE
      go_enter Try.func86, Try.ntmps86
      go_wp2_with (go_at_call 56; refine C.out.mono ?_; clear C; rintro e W ⟨rfl, rfl⟩)
      go_ret
      exact ⟨rfl, rfl⟩
end Go.Proofs.Ytjjanmgeogjngaa

/- A literal made true. -/
namespace Ckr
theorem vl_snoc (T : List Int) (l k : Int) (hf : vl T l = 0) : vl (T ++ [l]) k = if k = l then 1 else if k = -l then -1 else vl T k := by
  have hl : l ∉ T ∧ -l ∉ T := by
    unfold vl at hf
    by_cases h1 : l ∈ T
    · rw [if_pos h1] at hf; omega
    · by_cases h2 : -l ∈ T
      · rw [if_neg h1, if_pos h2] at hf; omega
      · exact ⟨h1, h2⟩
  unfold vl
  simp only [List.mem_append, List.mem_singleton]
  by_cases e1 : k = l
  · simp [e1]
  · by_cases e2 : k = -l
    · subst e2
      rw [if_neg (by rintro (h | h); exact hl.2 h; exact e1 h), if_pos (.inr (by omega)), if_neg e1, if_pos rfl]
    · have e3 : ¬ -k = l := by omega
      simp [e1, e2, e3]
/-- One more is true: the values then. -/
theorem Vals.snoc {T vals : List Int} (h : Vals T vals) (l : Int) (h0 : l ≠ 0) (hf : vl T l = 0) :
    Vals (T ++ [l]) ((reach vals (Cnf.vr l).toNat).set (Cnf.vr l).toNat (if l < 0 then -1 else 1)) := by
  have hvp : 1 ≤ Cnf.vr l := by unfold Cnf.vr; split <;> omega
  have hl : l ∉ T ∧ -l ∉ T := by
    unfold vl at hf
    by_cases h1 : l ∈ T
    · rw [if_pos h1] at hf; omega
    · by_cases h2 : -l ∈ T
      · rw [if_neg h1, if_pos h2] at hf; omega
      · exact ⟨h1, h2⟩
  refine ⟨?_, ?_, ?_, ?_⟩
  · intro x hx
    rw [List.length_set, reach_len]
    rcases List.mem_append.1 hx with hx | hx
    · have := h.in_ x hx; omega
    · rw [List.mem_singleton.1 hx]; omega
  · intro x hx hy
    rcases List.mem_append.1 hx with hx | hx <;> rcases List.mem_append.1 hy with hy | hy
    · exact h.neg x hx hy
    · have := List.mem_singleton.1 hy
      exact hl.2 (by rw [← this]; simpa using hx)
    · rw [List.mem_singleton.1 hx] at hy; exact hl.2 hy
    · rw [List.mem_singleton.1 hx] at hy; have := List.mem_singleton.1 hy; omega
  · rw [List.nodup_append]
    refine ⟨h.nodup, by simp, fun a ha b hb e => ?_⟩
    rw [List.mem_singleton.1 hb] at e
    exact hl.1 (e ▸ ha)
  · intro v
    rw [vl_snoc T l v hf]
    by_cases e : v = (Cnf.vr l).toNat
    · subst e
      have hlt : (Cnf.vr l).toNat < (reach vals (Cnf.vr l).toNat).length := by rw [reach_len]; omega
      rw [List.getD, List.getElem?_set_self hlt, Option.getD_some]
      by_cases hs : l < 0
      · have e1 : Cnf.vr l = -l := by unfold Cnf.vr; rw [if_pos hs]
        rw [if_pos hs, if_neg (by omega), if_pos (by omega)]
      · have e1 : Cnf.vr l = l := by unfold Cnf.vr; rw [if_neg hs]
        rw [if_neg hs, if_pos (by omega)]
    · have e1 : ¬ (v : Int) = l := fun e1 => e (by unfold Cnf.vr; split <;> omega)
      have e2 : ¬ (v : Int) = -l := fun e2 => e (by unfold Cnf.vr; split <;> omega)
      rw [if_neg e1, if_neg e2, ← h.at_ v, ← reach_getD vals (Cnf.vr l).toNat v]
      simp only [List.getD]
      rw [List.getElem?_set_ne (fun h => e h.symm)]
end Ckr
namespace Go.Proofs.Ytjjanmgeogjngaa
open Go.RowKit
set_option linter.unusedVariables false

/-- The trail lies where it lay, or in a block that is new. -/
def Nw (W : World) (r r' : Option Nat) : Prop := r' = r ∨ ∃ g, r' = some g ∧ W.heap.size ≤ g
theorem Nw.refl (W : World) (r : Option Nat) : Nw W r r := .inl rfl
theorem Nw.trans {W W1 : World} {r r1 r2 : Option Nat} (h : Nw W r r1) (h1 : Nw W1 r1 r2) (hs : W.heap.size ≤ W1.heap.size) : Nw W r r2 := by
  rcases h1 with rfl | ⟨g, e, hg⟩
  · exact h
  · exact .inr ⟨g, e, Nat.le_trans hs hg⟩
theorem Nw.ne {W : World} {r r' : Option Nat} (h : Nw W r r') {g : Nat} (hg : g < W.heap.size) (hne : some g ≠ r) : some g ≠ r' := by
  rcases h with rfl | ⟨q, rfl, hq⟩
  · exact hne
  · intro e; injection e with e; omega
/-- The block of a checker's values. -/
def VB (W : World) (cb : Nat) : Option Nat := match W.cell? ⟨cb, 5, none⟩ with
  | some v => v.ownBlock
  | none => none
theorem VB.of {W : World} {cb : Nat} {c0 c1 c2 c3 c4 vv vr : Value} (h : W.heap[cb]? = some (.cells #[c0, c1, c2, c3, c4, vv, vr] 75 (0, 0))) : VB W cb = vv.ownBlock := by
  unfold VB; rw [row_cell h 5]; rfl
theorem VB.same {W W' : World} {cb : Nat} (h : W'.heap[cb]? = W.heap[cb]?) : VB W' cb = VB W cb := by
  unfold VB; rw [World.cell?_of_block (a := ⟨cb, 5, none⟩) h]
/-- Nothing is turned but the checker's own block, rows of values from n0 on, and the trail's block r. -/
structure Kp (n0 cb : Nat) (r : Option Nat) (W W' : World) : Prop where
  os : W'.os = W.os
  tape : W'.tape = W.tape
  output : W'.output = W.output
  size : W.heap.size ≤ W'.heap.size
  block : ∀ g, g < W.heap.size → g ≠ cb → some g ≠ r → (n0 ≤ g → ∀ cs fr, W.heap[g]? ≠ some (.cells cs 119 fr)) → W'.heap[g]? = W.heap[g]?
  fine : cb < W.heap.size → ∀ g, g < W.heap.size → g ≠ cb → some g ≠ r → some g ≠ VB W cb → W'.heap[g]? = W.heap[g]?
  vb : cb < W.heap.size → Nw W (VB W cb) (VB W' cb)
theorem Kp.refl (n0 cb : Nat) (r : Option Nat) (W : World) : Kp n0 cb r W W := ⟨rfl, rfl, rfl, Nat.le_refl _, fun _ _ _ _ _ => rfl, fun _ _ _ _ _ _ => rfl, fun _ => .inl rfl⟩
theorem Kp.trans {n0 cb : Nat} {r r1 : Option Nat} {W W1 W2 : World} (h : Kp n0 cb r W W1) (h1 : Kp n0 cb r1 W1 W2) (hr : Nw W r r1) : Kp n0 cb r W W2 := by
  refine ⟨h1.os.trans h.os, h1.tape.trans h.tape, h1.output.trans h.output, Nat.le_trans h.size h1.size, fun g hg hc hr' ht => ?_, fun hcb g hg hc hr' hv => ?_, fun hcb => (h.vb hcb).trans (h1.vb (Nat.lt_of_lt_of_le hcb h.size)) h.size⟩
  rotate_left
  · have e := h.fine hcb g hg hc hr' hv
    exact (h1.fine (Nat.lt_of_lt_of_le hcb h.size) g (Nat.lt_of_lt_of_le hg h.size) hc (hr.ne hg hr') ((h.vb hcb).ne hg hv)).trans e
  have e := h.block g hg hc hr' ht
  refine (h1.block g (Nat.lt_of_lt_of_le hg h.size) hc ?_ (fun hn cs fr => by rw [e]; exact ht hn cs fr)).trans e
  rcases hr with rfl | ⟨q, rfl, hq⟩
  · exact hr'
  · intro e; injection e with e; omega
theorem Kp.below {n0 cb : Nat} {r : Option Nat} {W W' : World} (h : Kp n0 cb r W W') (hc : n0 ≤ cb) (hr : ∀ g, r = some g → n0 ≤ g) (hn : n0 ≤ W.heap.size) : Below n0 W W' :=
  ⟨h.os, h.tape, h.output, h.size, fun g hg => h.block g (by omega) (by omega) (fun e => by have := hr g e.symm; omega) (fun hn => by omega)⟩

/-- The checker's block: its first five cells, and what is true. -/
def Asg (n0 cb : Nat) (c0 c1 c2 c3 c4 : Value) (W : World) (T : List Int) (r : Option Nat) : Prop :=
  ∃ vals vv vr, r = vr.ownBlock ∧ n0 ≤ cb ∧ n0 ≤ W.heap.size ∧ W.heap[cb]? = some (.cells #[c0, c1, c2, c3, c4, vv, vr] 75 (0, 0)) ∧ W.ownsRow n0 119 1 vv vals.length (vals.map (Value.int .i8)) ∧ W.ownsRow n0 40 1 vr T.length (T.map (Value.int .i32)) ∧
    Ckr.Vals T vals ∧ vals.length ≤ 4294967297 ∧ T.length ≤ 4294967296 ∧ ∀ x ∈ T, -2147483648 ≤ x ∧ x ≤ 2147483647

def SetOut (n0 cb : Nat) (c0 c1 c2 c3 c4 : Value) (W : World) (T : List Int) (r : Option Nat) (e : Ending) (W' : World) : Prop :=
  e = .returned (.tuple #[]) ∧ ∃ r', Asg n0 cb c0 c1 c2 c3 c4 W' T r' ∧ Kp n0 cb r W W' ∧ Nw W r r'

/-- A row of its own that is not empty. -/
theorem own_some {W : World} {base n e : Nat} {v : Value} {xs : List Value} (h : W.ownsRow base e 1 v n xs) (hn : 0 < n) :
    ∃ g c cur, v = .slice (some ⟨g, 0, none⟩) n c ∧ base ≤ g ∧ W.heap[g]? = some (.cells cur e (0, 0)) ∧ n ≤ c ∧ c ≤ maxLen ∧ cur.size = c ∧ cur.toList.take n = xs := by
  rcases h.2 with ⟨_, h0⟩ | ⟨g, c, cur, h1, h2, h3, h4, h5, h6, h7⟩
  · omega
  · exact ⟨g, c, cur, h1, h2, h3, h4, h5, by rw [h6, Nat.mul_one], by rw [Nat.mul_one] at h7; exact h7⟩
theorem own_mk {W : World} {base n e g c : Nat} {cur : Array Value} {xs : List Value} (h2 : base ≤ g) (h3 : W.heap[g]? = some (.cells cur e (0, 0))) (h4 : n ≤ c) (h5 : c ≤ maxLen) (h6 : cur.size = c) (h7 : cur.toList.take n = xs) : W.ownsRow base e 1 (.slice (some ⟨g, 0, none⟩) n c) n xs := by
  refine ⟨?_, .inr ⟨g, c, cur, rfl, h2, h3, h4, h5, by rw [h6, Nat.mul_one], by rw [Nat.mul_one]; exact h7⟩⟩
  rw [← h7, List.length_take, Array.length_toList]; omega
theorem setB_take (cur : Array Value) (xs : List Int) (q : IntKind) (n p : Nat) (x : Int) (h : cur.toList.take n = xs.map (Value.int q)) : (cur.setIfInBounds p (.int q x)).toList.take n = (xs.set p x).map (Value.int q) := by
  rw [Array.toList_setIfInBounds, List.take_set, h, List.map_set]
theorem own_type {W : World} {base n e b t : Nat} {v : Value} {xs : List Value} {cs : Array Value} {fr : Nat × Nat} (h : W.ownsRow base e 1 v n xs) (hb : W.heap[b]? = some (.cells cs t fr)) (hne : t ≠ e) : some b ≠ v.ownBlock := by
  intro e1
  obtain ⟨_, cur, h2⟩ := own_blk h e1.symm
  rw [hb] at h2
  injection h2 with h2
  injection h2 with h2 h3
  exact hne h3
end Go.Proofs.Ytjjanmgeogjngaa

/- A literal made true, by the checker. -/
namespace Go.Proofs.Ytjjanmgeogjngaa
open Go.RowKit
set_option linter.unusedVariables false

theorem cb5 {W : World} {cb : Nat} {c0 c1 c2 c3 c4 v5 v6 : Value} (h : W.heap[cb]? = some (.cells #[c0, c1, c2, c3, c4, v5, v6] 75 (0, 0))) (v : Value) : (W.setCell ⟨cb, 5, none⟩ v).heap[cb]? = some (.cells #[c0, c1, c2, c3, c4, v, v6] 75 (0, 0)) := by
  rw [heap_set_row h]; rfl
theorem cb6 {W : World} {cb : Nat} {c0 c1 c2 c3 c4 v5 v6 : Value} (h : W.heap[cb]? = some (.cells #[c0, c1, c2, c3, c4, v5, v6] 75 (0, 0))) (v : Value) : (W.setCell ⟨cb, 6, none⟩ v).heap[cb]? = some (.cells #[c0, c1, c2, c3, c4, v5, v] 75 (0, 0)) := by
  rw [heap_set_row h]; rfl

/-- Behind the last append: the trail is put back into its cell. -/
theorem set_end (n0 cb : Nat) (c0 c1 c2 c3 c4 : Value) (l : Int) (W W4 W6 : World) (T vals : List Int) (r : Option Nat) (vr vr' : Value) (g c : Nat) (cur : Array Value)
    (hr : r = vr.ownBlock) (hcb : n0 ≤ cb) (hsz : n0 ≤ W.heap.size) (hl1 : -2147483648 ≤ l) (hl2 : l ≤ 2147483647)
    (h4 : W4.heap[cb]? = some (.cells #[c0, c1, c2, c3, c4, .slice (some ⟨g, 0, none⟩) vals.length c, vr] 75 (0, 0))) (hg4 : W4.heap[g]? = some (.cells cur 119 (0, 0))) (hgn : n0 ≤ g) (hnc : vals.length ≤ c) (hcm : c ≤ maxLen) (hcs : cur.size = c)
    (htk : cur.toList.take vals.length = vals.map (Value.int .i8)) (hot : W4.ownsRow n0 40 1 vr T.length (T.map (Value.int .i32))) (hV : Ckr.Vals (T ++ [l]) vals) (hvl : vals.length ≤ 4294967297) (hTl : T.length < 4294967296) (hTb : ∀ x ∈ T, -2147483648 ≤ x ∧ x ≤ 2147483647)
    (hK : Kp n0 cb r W W4) (hown : W6.ownsRow n0 40 1 vr' (T.length + 1) (T.map (Value.int .i32) ++ [.int .i32 l])) (hgrow : (W4.alloc (.cells #[.int .i32 l] 40)).grownBy W6 vr.ownBlock) (hloc : vr'.ownBlock = vr.ownBlock ∨ ∃ q, vr'.ownBlock = some q ∧ W4.heap.size ≤ q) :
    SetOut n0 cb c0 c1 c2 c3 c4 W (T ++ [l]) r (.returned (.tuple #[])) (W6.setCell ⟨cb, 6, none⟩ vr') := by
  have hbc : some cb ≠ vr.ownBlock := own_type hot h4 (by decide)
  have hcl : cb < W4.heap.size := (Array.getElem?_eq_some_iff.1 h4).1
  have hgl : g < W4.heap.size := (Array.getElem?_eq_some_iff.1 hg4).1
  have hgc : g ≠ cb := by intro e; rw [e, h4] at hg4; injection hg4 with e1; injection e1 with _ e2; cases e2
  have hbg : some g ≠ vr.ownBlock := own_type hot hg4 (by decide)
  have a6 : ∀ k, k < W4.heap.size → some k ≠ vr.ownBlock → W6.heap[k]? = W4.heap[k]? := fun k hk hne => (hgrow.block k (by simp; omega) hne).trans (heap_alloc_old _ _ hk)
  have h6 := (a6 cb hcl hbc).trans h4
  have hs6 : W4.heap.size ≤ W6.heap.size := by have := hgrow.size; simp at this; omega
  refine ⟨rfl, vr'.ownBlock, ⟨vals, _, vr', rfl, hcb, ?_, cb6 h6 vr', own_mk hgn ?_ hnc hcm hcs htk, ?_, hV, hvl, by simp; omega, ?_⟩, ?_, ?_⟩
  · simp; have := hK.size; omega
  · rw [heap_other _ _ hgc, a6 g hgl hbg, hg4]
  · have h := own_keep hown (W' := W6.setCell ⟨cb, 6, none⟩ vr') (fun q cs hq hc => ?_)
    · simpa using h
    · have hne : q ≠ cb := by
        intro e
        rw [e, h6] at hc
        injection hc with e1; injection e1 with _ e2; cases e2
      rw [heap_other _ _ hne]
  · intro x hx
    rcases List.mem_append.1 hx with hx | hx
    · exact hTb x hx
    · rw [List.mem_singleton.1 hx]; exact ⟨hl1, hl2⟩
  · refine ⟨?_, ?_, ?_, ?_, fun k hk hc hr' ht => ?_, fun hcW k hk hc hr' hv => ?_, fun hcW => ?_⟩
    · have := hgrow.os; exact (show _ = _ from this).trans hK.os
    · have := hgrow.tape; exact (show _ = _ from this).trans hK.tape
    · have := hgrow.output; exact (show _ = _ from this).trans hK.output
    · simp; have := hK.size; omega
    · rw [heap_other _ _ hc, a6 k (by have := hK.size; omega) (by rw [← hr]; exact hr'), hK.block k hk hc hr' ht]
    · rw [heap_other _ _ hc, a6 k (by have := hK.size; omega) (by rw [← hr]; exact hr'), hK.fine hcW k hk hc hr' hv]
    · have := hK.vb hcW
      rw [VB.of h4] at this
      rw [VB.of (cb6 h6 vr')]
      exact this
  · rw [hr]
    rcases hloc with h | ⟨q, h, hq⟩
    · exact .inl h
    · exact .inr ⟨q, h, by have := hK.size; omega⟩

/-- What the walk of set meets behind its call of reaching. -/
structure Mid (n0 cb : Nat) (c0 c1 c2 c3 c4 : Value) (l : Int) (W W1 : World) (T : List Int) (r : Option Nat) (vv vr v1 : Value) (p g m c : Nat) (old : Value) (W2 W3 W4 W6 : World) (v6 : Value) : Prop where
  v1 : v1 = .slice (some ⟨g, 0, none⟩) m c
  pm : p < m
  a5 : W1.cell? ⟨cb, 5, none⟩ = some vv
  f5 : W1.frozen? ⟨cb, 5, none⟩ = false
  s2 : W1.setCell ⟨cb, 5, none⟩ (.slice (some ⟨g, 0, none⟩) m c) = W2
  b5 : W2.cell? ⟨cb, 5, none⟩ = some (.slice (some ⟨g, 0, none⟩) m c)
  bg : W2.cell? ⟨g, p, none⟩ = some old
  fg : W2.frozen? ⟨g, p, none⟩ = false
  s3 : W2.setCell ⟨g, p, none⟩ (.int .i8 1) = W3
  d5 : W3.cell? ⟨cb, 5, none⟩ = some (.slice (some ⟨g, 0, none⟩) m c)
  dg : W3.cell? ⟨g, p, none⟩ = some (.int .i8 1)
  eg : W3.frozen? ⟨g, p, none⟩ = false
  s4 : (if l < 0 then W3.setCell ⟨g, p, none⟩ (.int .i8 (-1)) else W3) = W4
  g6 : W4.cell? ⟨cb, 6, none⟩ = some vr
  run : (Builtin.append_ #[38, 38] 38 #[vr, .slice (some ⟨W4.heap.size, 0, none⟩) 1 1]).run Try.prog (W4.alloc (.cells #[.int .i32 l] 40)) = .ok v6 W6
  sl : ∃ a n c, v6 = .slice a n c
  h6 : W6.cell? ⟨cb, 6, none⟩ = some vr
  f6 : W6.frozen? ⟨cb, 6, none⟩ = false
  out : SetOut n0 cb c0 c1 c2 c3 c4 W (T ++ [l]) r (.returned (.tuple #[])) (W6.setCell ⟨cb, 6, none⟩ v6)

theorem set_mid (n0 cb : Nat) (c0 c1 c2 c3 c4 : Value) (l : Int) (W W1 : World) (T vals : List Int) (r : Option Nat) (vv vr v1 : Value) (p : Nat)
    (hr : r = vr.ownBlock) (hcb : n0 ≤ cb) (hsz : n0 ≤ W.heap.size) (hl1 : -2147483648 ≤ l) (hl2 : l ≤ 2147483647) (hp : (Cnf.vr l).toNat = p) (hc : W.heap[cb]? = some (.cells #[c0, c1, c2, c3, c4, vv, vr] 75 (0, 0)))
    (hov : W.ownsRow n0 119 1 vv vals.length (vals.map (Value.int .i8))) (hot : W.ownsRow n0 40 1 vr T.length (T.map (Value.int .i32))) (hV : Ckr.Vals T vals) (h0 : l ≠ 0) (hf : Ckr.vl T l = 0) (hvl : vals.length ≤ 4294967297) (hpl : p ≤ 4294967296) (hTl : T.length < 4294967296) (hTb : ∀ x ∈ T, -2147483648 ≤ x ∧ x ≤ 2147483647)
    (ho1 : W1.ownsRow n0 119 1 v1 (Ckr.reach vals p).length ((Ckr.reach vals p).map (Value.int .i8))) (hg1 : W.grownBy W1 vv.ownBlock) (hbk : v1.ownBlock = vv.ownBlock ∨ ∃ q, v1.ownBlock = some q ∧ W.heap.size ≤ q) :
    ∃ g m c old W2 W3 W4 W6 v6, Mid n0 cb c0 c1 c2 c3 c4 l W W1 T r vv vr v1 p g m c old W2 W3 W4 W6 v6 := by
  obtain ⟨i0, hi, hz⟩ := Option.map_eq_some_iff.1 info44
  simp only [Prod.mk.injEq] at hz
  have hrl := Ckr.reach_len vals p
  have hpm : p < (Ckr.reach vals p).length := by omega
  obtain ⟨g, c, cur, rfl, hgn, hgg, hmc, hcm, hcs, htk⟩ := own_some ho1 (by omega)
  generalize hm : (Ckr.reach vals p).length = m at *
  have hbc : some cb ≠ vv.ownBlock := own_type hov hc (by decide)
  have h1 : W1.heap[cb]? = some (.cells #[c0, c1, c2, c3, c4, vv, vr] 75 (0, 0)) := (hg1.block cb (Array.getElem?_eq_some_iff.1 hc).1 hbc).trans hc
  have hgc : g ≠ cb := by intro e; rw [e, h1] at hgg; injection hgg with e1; injection e1 with _ e2; cases e2
  have hot1 : W1.ownsRow n0 40 1 vr T.length (T.map (Value.int .i32)) := own_keep hot (fun q cs hq hh => hg1.block q (Array.getElem?_eq_some_iff.1 hh).1 (own_type hov hh (by decide)))
  have h2 := cb5 h1 (.slice (some ⟨g, 0, none⟩) m c)
  have hg2 : (W1.setCell ⟨cb, 5, none⟩ (.slice (some ⟨g, 0, none⟩) m c)).heap[g]? = some (.cells cur 119 (0, 0)) := (heap_other _ _ hgc).trans hgg
  have hot2 : (W1.setCell ⟨cb, 5, none⟩ (.slice (some ⟨g, 0, none⟩) m c)).ownsRow n0 40 1 vr T.length (T.map (Value.int .i32)) := own_keep hot1 (fun q cs hq hh => heap_other _ _ (by intro e; rw [e, h1] at hh; injection hh with e1; injection e1 with _ e2; cases e2))
  have K2 : Kp n0 cb r W (W1.setCell ⟨cb, 5, none⟩ (.slice (some ⟨g, 0, none⟩) m c)) := by
    refine ⟨hg1.os, hg1.tape, hg1.output, by simp; exact hg1.size, fun k hk hkc hkr ht => ?_, fun _ k hk hkc hkr hv => ?_, fun _ => ?_⟩
    · rw [heap_other _ _ hkc]
      refine hg1.block k hk (fun e => ?_)
      obtain ⟨q1, q2, q3⟩ := own_blk hov e.symm
      exact ht q1 _ _ q3
    · rw [heap_other _ _ hkc]
      exact hg1.block k hk (fun e => hv (by rw [VB.of hc]; exact e))
    · rw [VB.of hc, VB.of h2]
      exact hbk
  have hs2 : (W1.setCell ⟨cb, 5, none⟩ (.slice (some ⟨g, 0, none⟩) m c)).heap.size = W1.heap.size := by simp
  generalize hW2 : W1.setCell ⟨cb, 5, none⟩ (.slice (some ⟨g, 0, none⟩) m c) = W2 at h2 hg2 hot2 K2 hs2
  have hgl : g < W2.heap.size := (Array.getElem?_eq_some_iff.1 hg2).1
  have step : ∀ (X : World) (A : Array Value) (zs : List Int) (y : Int), X.heap[cb]? = some (.cells #[c0, c1, c2, c3, c4, .slice (some ⟨g, 0, none⟩) m c, vr] 75 (0, 0)) → X.heap[g]? = some (.cells A 119 (0, 0)) → A.size = c → A.toList.take m = zs.map (Value.int .i8) → X.ownsRow n0 40 1 vr T.length (T.map (Value.int .i32)) → Kp n0 cb r W X →
      (X.setCell ⟨g, p, none⟩ (.int .i8 y)).heap[cb]? = some (.cells #[c0, c1, c2, c3, c4, .slice (some ⟨g, 0, none⟩) m c, vr] 75 (0, 0)) ∧ (X.setCell ⟨g, p, none⟩ (.int .i8 y)).heap[g]? = some (.cells (A.setIfInBounds p (.int .i8 y)) 119 (0, 0)) ∧ (A.setIfInBounds p (.int .i8 y)).size = c ∧ (A.setIfInBounds p (.int .i8 y)).toList.take m = (zs.set p y).map (Value.int .i8) ∧ (X.setCell ⟨g, p, none⟩ (.int .i8 y)).ownsRow n0 40 1 vr T.length (T.map (Value.int .i32)) ∧ Kp n0 cb r W (X.setCell ⟨g, p, none⟩ (.int .i8 y)) := by
    intro X A zs y q1 q2 q3 q4 q5 q6
    refine ⟨(heap_other _ _ (fun e => hgc e.symm)).trans q1, heap_set_row q2 _, by simp [q3], setB_take A zs .i8 m p y q4, own_keep q5 (fun q cs hq hh => heap_other _ _ (by intro e; rw [e, q2] at hh; injection hh with e1; injection e1 with _ e2; cases e2)), ⟨q6.os, q6.tape, q6.output, by simp; exact q6.size, fun k hk hkc hkr ht => ?_, fun hcW k hk hkc hkr hv => ?_, fun hcW => ?_⟩⟩
    · have e1 := q6.block k hk hkc hkr ht
      by_cases e : k = g
      · subst e
        exact absurd (e1.symm.trans q2) (ht hgn _ _)
      · rw [heap_other _ _ e]; exact e1
    · have hn := q6.vb hcW
      rw [VB.of q1] at hn
      have hne := hn.ne hk hv
      rw [heap_other _ _ (fun e => hne (by rw [e]; rfl))]
      exact q6.fine hcW k hk hkc hkr hv
    · have hn := q6.vb hcW
      rw [VB.of q1] at hn
      rw [VB.of ((heap_other _ _ (fun e => hgc e.symm)).trans q1)]
      exact hn
  obtain ⟨a1, a2, a3, a4, a5, a6⟩ := step W2 cur _ 1 h2 hg2 hcs htk hot2 K2
  generalize hW3 : W2.setCell ⟨g, p, none⟩ (.int .i8 1) = W3 at a1 a2 a5 a6
  have fin : ∃ W4 A, (if l < 0 then W3.setCell ⟨g, p, none⟩ (.int .i8 (-1)) else W3) = W4 ∧ W4.heap[cb]? = some (.cells #[c0, c1, c2, c3, c4, .slice (some ⟨g, 0, none⟩) m c, vr] 75 (0, 0)) ∧ W4.heap[g]? = some (.cells A 119 (0, 0)) ∧ A.size = c ∧ A.toList.take m = ((Ckr.reach vals p).set p (if l < 0 then -1 else 1)).map (Value.int .i8) ∧ W4.ownsRow n0 40 1 vr T.length (T.map (Value.int .i32)) ∧ Kp n0 cb r W W4 := by
    by_cases hl : l < 0
    · obtain ⟨b1, b2, b3, b4, b5, b6⟩ := step W3 _ _ (-1) a1 a2 a3 a4 a5 a6
      rw [if_pos hl, if_pos hl]
      rw [List.set_set] at b4
      exact ⟨_, _, rfl, b1, b2, b3, b4, b5, b6⟩
    · rw [if_neg hl, if_neg hl]
      exact ⟨_, _, rfl, a1, a2, a3, a4, a5, a6⟩
  obtain ⟨W4, A, e4, b1, b2, b3, b4, b5, b6⟩ := fin
  have hcl : cb < W4.heap.size := (Array.getElem?_eq_some_iff.1 b1).1
  have hn4 : n0 ≤ W4.heap.size := by have := b6.size; omega
  obtain ⟨v6, W6, hrun, hown, hgrow, _, hloc⟩ := run_append_own_at (P := Try.prog) (W4.alloc (.cells #[.int .i32 l] 40)) n0 38 38 40 i0 (.int .i32 0) 1 4 Try.underlying38 hi hz.1 hz.2.1 hz.2.2 rfl (by decide) vr T.length _ (b5.alloc _) ⟨W4.heap.size, 0, none⟩ 1 1 [.int .i32 l] rfl (World.news_of_block (heap_alloc_new W4 _)) (by intro u hu; simp at hu; subst hu; rfl) (by unfold maxLen; omega) (by omega) (by simp; omega)
  have hVS := hV.snoc l h0 hf
  rw [hp] at hVS
  have hml : ((Ckr.reach vals p).set p (if l < 0 then -1 else 1)).length = m := by rw [List.length_set, hm]
  have hbr : some cb ≠ vr.ownBlock := own_type b5 b1 (by decide)
  have h6 : W6.heap[cb]? = W4.heap[cb]? := (hgrow.block cb (by simp; omega) hbr).trans (heap_alloc_old _ _ hcl)
  rw [b1] at h6
  refine ⟨g, m, c, cur[p]'(by omega), W2, W3, W4, W6, v6, ⟨rfl, hpm, row_cell h1 5, row_frozen h1 5, hW2, row_cell h2 5, ?_, row_frozen hg2 p, hW3, row_cell a1 5, ?_, row_frozen a2 p, e4, row_cell b1 6, hrun, (let ⟨a, c, e⟩ := own_slc hown; ⟨a, _, c, e⟩), row_cell h6 6, row_frozen h6 6, ?_⟩⟩
  · rw [row_cell hg2 p, Array.getElem?_eq_getElem (by omega)]
  · rw [row_cell a2 p, Array.getElem?_setIfInBounds_self_of_lt (by omega)]
  · refine set_end n0 cb c0 c1 c2 c3 c4 l W W4 W6 T _ r vr v6 g c A hr hcb hsz hl1 hl2 (by rw [hml]; exact b1) b2 hgn (by rw [hml]; exact hmc) hcm b3 (by rw [hml]; exact b4) b5 hVS (by rw [hml]; omega) hTl hTb b6 hown hgrow ?_
    rcases hloc with h | h
    · exact .inl h
    · exact .inr ⟨_, h, by simp⟩
end Go.Proofs.Ytjjanmgeogjngaa

/- A literal made true: the call. -/
namespace Go.Proofs.Ytjjanmgeogjngaa
open Go.RowKit
set_option linter.unusedVariables false

set_option maxRecDepth 100000 in
set_option maxHeartbeats 4000000 in
theorem set87 (n0 cb : Nat) (c0 c1 c2 c3 c4 : Value) (l : Int) (W : World) (T : List Int) (r : Option Nat) (hA : Asg n0 cb c0 c1 c2 c3 c4 W T r) (h0 : l ≠ 0) (hl1 : -2147483648 ≤ l) (hl2 : l ≤ 2147483647) (hf : Ckr.vl T l = 0) (hTn : T.length < 4294967296) :
    Calls Try.prog 87 #[.pointer (some ⟨cb, 0, none⟩), .int .i32 l] W fun e W' => SetOut n0 cb c0 c1 c2 c3 c4 W (T ++ [l]) r e W' := by
  obtain ⟨vals, vv, vr, hr, hcb, hsz, hc, hov, hot, hV, hvl, hTl, hTb⟩ := hA
  have C56 := hid (var56 l W hl1 hl2)
  have v0 := Cnf.vr_nonneg l
  have v1 := Cnf.vr_le l hl1 hl2
  obtain ⟨p, hp⟩ : ∃ p : Nat, Cnf.vr l = p := ⟨(Cnf.vr l).toNat, by omega⟩
  have hpl : p ≤ 4294967296 := by omega
  have HM := hid (fun W1 v1 => set_mid n0 cb c0 c1 c2 c3 c4 l W W1 T vals r vv vr v1 p hr hcb hsz hl1 hl2 (by omega) hc hov hot hV h0 hf hvl hpl hTn hTb)
  rw [hp] at C56
  have C103 := hid (reaching103 n0 vals.length p vv vals W rfl hov hpl hvl hsz)
  have x5 := row_cell hc 5
  simp only [List.getElem?_toArray, List.getElem?_cons_zero, List.getElem?_cons_succ] at x5
  obtain ⟨av, cv, rfl⟩ := own_slc hov
  generalize vals.length = nv at *
  clear hr hcb hsz hc hov hot hV hvl hTl hTb v0 v1 hp hf hTn h0
  by_cases hl : l < 0
  · go_enter Try.func87, Try.ntmps87
    go_wp2_with (first
      | (go_at_call 56; refine C56.out.mono ?_; clear C56; rintro e W ⟨rfl, rfl⟩)
      | (go_at_call 103; refine C103.out.mono ?_; clear C103; rintro e W1 ⟨v1, rfl, ho1, hg1, hbk⟩
         obtain ⟨g, m, c, old, W2, W3, W4, W6, v6, rfl, pm, a5, f5, s2, b5, bg, fg, s3, d5, dg, eg, s4, g6, run, ⟨a6, n6, c6, rfl⟩, h6, f6, out⟩ := HM.out W1 v1 ho1 hg1 hbk
         rw [if_pos hl] at s4
         have pm' : (p : Int) < m := by omega
         have RUN := hid run
         have OUT := hid out
         clear HM ho1 hg1 hbk run out pm)
      | (at_builtin; refine wpList_append_run rfl (.tmp 34) (.tmp 36) 38 38 rfl rfl rfl RUN.out ?_))
    go_end0
    exact OUT.out
  · go_enter Try.func87, Try.ntmps87
    go_wp2_with (first
      | (go_at_call 56; refine C56.out.mono ?_; clear C56; rintro e W ⟨rfl, rfl⟩)
      | (go_at_call 103; refine C103.out.mono ?_; clear C103; rintro e W1 ⟨v1, rfl, ho1, hg1, hbk⟩
         obtain ⟨g, m, c, old, W2, W3, W4, W6, v6, rfl, pm, a5, f5, s2, b5, bg, fg, s3, d5, dg, eg, s4, g6, run, ⟨a6, n6, c6, rfl⟩, h6, f6, out⟩ := HM.out W1 v1 ho1 hg1 hbk
         rw [if_neg (by omega)] at s4
         rw [← s4] at g6 run
         clear s4
         have pm' : (p : Int) < m := by omega
         have RUN := hid run
         have OUT := hid out
         clear HM ho1 hg1 hbk run out pm)
      | (at_builtin; refine wpList_append_run rfl (.tmp 34) (.tmp 36) 38 38 rfl rfl rfl RUN.out ?_))
    go_end0
    exact OUT.out
end Go.Proofs.Ytjjanmgeogjngaa

/- A hint's clause is looked at. -/
namespace Ckr
/-- The one literal without a value (0: there is none); none: the hint is wrong. -/
def meetL (T : List Int) : Int → List Int → Option Int
  | f, [] => some f
  | f, l :: ls => if vl T l < 0 ∨ l = f then meetL T f ls else if 0 < vl T l ∨ f ≠ 0 then none else meetL T l ls
theorem meet_skip {T : List Int} {f l : Int} {ls : List Int} (h : vl T l < 0 ∨ l = f) : meetL T f (l :: ls) = meetL T f ls := by rw [meetL, if_pos h]
theorem meet_wrong {T : List Int} {f l : Int} {ls : List Int} (h : ¬ (vl T l < 0 ∨ l = f)) (h2 : 0 < vl T l ∨ f ≠ 0) : meetL T f (l :: ls) = none := by rw [meetL, if_neg h, if_pos h2]
theorem meet_free {T : List Int} {f l : Int} {ls : List Int} (h : ¬ (vl T l < 0 ∨ l = f)) (h2 : ¬ (0 < vl T l ∨ f ≠ 0)) : meetL T f (l :: ls) = meetL T l ls := by rw [meetL, if_neg h, if_neg h2]
/-- How it ended, and what is true then: 0 open, 1 conflict, 2 wrong. -/
def meetHow (m : Option Int) : Int := match m with | none => 2 | some f => if f = 0 then 1 else 0
def meetT (T : List Int) (m : Option Int) : List Int := match m with | none => T | some f => if f = 0 then T else T ++ [f]
end Ckr
namespace Go.Proofs.Ytjjanmgeogjngaa
open Go.RowKit
set_option linter.unusedVariables false

theorem vals_bnd {T vals : List Int} (h : Ckr.Vals T vals) : ∀ x ∈ vals, -128 ≤ x ∧ x ≤ 127 := by
  intro x hx
  obtain ⟨j, hj, rfl⟩ := List.getElem_of_mem hx
  have e := h.at_ j
  rw [List.getD, List.getElem?_eq_getElem hj, Option.getD_some] at e
  have := Ckr.vl_le T j
  omega
theorem value86A {n0 cb : Nat} {c0 c1 c2 c3 c4 : Value} {W : World} {T : List Int} {r : Option Nat} (hA : Asg n0 cb c0 c1 c2 c3 c4 W T r) (l : Int) (h1 : -2147483648 ≤ l) (h2 : l ≤ 2147483647) :
    Calls Try.prog 86 #[.pointer (some ⟨cb, 0, none⟩), .int .i32 l] W fun e w' => e = .returned (.int .i8 (Ckr.vl T l)) ∧ w' = W := by
  obtain ⟨vals, vv, vr, hr, hcb, hsz, hc, hov, hot, hV, hvl, hTl, hTb⟩ := hA
  obtain ⟨av, cv, rfl⟩ := own_slc hov
  exact value86 cb l av vals.length cv T vals W h1 h2 rfl hvl (row_cell hc 5) (own_row hov (vals_bnd hV)) hV

def MeetOut (n0 cb : Nat) (c0 c1 c2 c3 c4 : Value) (W : World) (T : List Int) (r : Option Nat) (m : Option Int) (e : Ending) (W' : World) : Prop :=
  e = .returned (.int .i64 (Ckr.meetHow m)) ∧ ∃ r', Asg n0 cb c0 c1 c2 c3 c4 W' (Ckr.meetT T m) r' ∧ Kp n0 cb r W W' ∧ Nw W r r'

set_option maxRecDepth 100000 in
set_option maxHeartbeats 4000000 in
theorem meet77 (n0 cb : Nat) (c0 c1 c2 c3 c4 : Value) (a : Option Addr) (n c : Nat) (xs : List Int) (W : World) (T : List Int) (r : Option Nat) (hA : Asg n0 cb c0 c1 c2 c3 c4 W T r) (hn : xs.length = n) (hb : n ≤ 35184372088832) (hx : Lits W a xs) (hTn : T.length < 4294967296) :
    Calls Try.prog 77 #[.pointer (some ⟨cb, 0, none⟩), .slice a n c] W fun e W' => MeetOut n0 cb c0 c1 c2 c3 c4 W T r (Ckr.meetL T 0 xs) e W' := by
  have HA := hid hA
  have HX := hid hx
  have HN := hid hn
  have HT := hid hTn
  obtain ⟨M, hM⟩ : ∃ M, Ckr.meetL T 0 xs = M := ⟨_, rfl⟩
  have HM := hid hM
  rw [hM]
  clear hA hx hn hTn hM
  go_enter Try.func77, Try.ntmps77
  go_wp2
  go_loop [5, 11] (fun f i => ∃ (k : Nat) (y : Int), i = .int .i64 k ∧ f = .int .i32 y ∧ k ≤ n ∧ Hid (Ckr.meetL T y (xs.drop k) = M ∧ (y = 0 ∨ Ckr.vl T y = 0) ∧ -2147483648 ≤ y ∧ y ≤ 2147483647)) (fun _ i => n - (intOf i).toNat)
  case atStart => exact ⟨0, 0, rfl, rfl, Nat.zero_le _, hid ⟨by rw [List.drop_zero]; exact HM.out, .inl rfl, by decide, by decide⟩⟩
  case round =>
    obtain ⟨k, y, rfl, rfl, hk, HI⟩ := hrel
    by_cases hlt : k < n
    · have hlt' : (k : Int) < n := by omega
      obtain ⟨b, off, rfl, _, hc, h1, h2⟩ := Row.at HX.out (j := k) (by rw [HN.out]; exact hlt)
      have HD := hid (Cnf.drop_cons xs k (by rw [HN.out]; exact hlt))
      generalize xs.getD k 0 = x at hc h1 h2 HD
      have C := hid (value86A HA.out x h1 h2)
      have HS := hid (fun h : Ckr.vl T x < 0 ∨ x = y => show Ckr.meetL T y (xs.drop (k + 1)) = M by have := HI.out.1; rwa [HD.out, Ckr.meet_skip h] at this)
      have HW := hid (fun (h : ¬ (Ckr.vl T x < 0 ∨ x = y)) (h' : 0 < Ckr.vl T x ∨ y ≠ 0) => show M = none by have := HI.out.1; rw [HD.out, Ckr.meet_wrong h h'] at this; exact this.symm)
      have HF := hid (fun (h : ¬ (Ckr.vl T x < 0 ∨ x = y)) (h' : ¬ (0 < Ckr.vl T x ∨ y ≠ 0)) => show Ckr.meetL T x (xs.drop (k + 1)) = M by have := HI.out.1; rwa [HD.out, Ckr.meet_free h h'] at this)
      have HV0 := hid (fun (h : ¬ Ckr.vl T x < 0) (h' : ¬ 0 < Ckr.vl T x) => show Ckr.vl T x = 0 by omega)
      generalize hvv : Ckr.vl T x = v at C HS HW HF HV0
      have HVV := hid hvv
      have HB := hid (And.intro h1 h2)
      clear hvv
      by_cases t1 : v < 0
      · have HK := hid (HS.out (.inl t1))
        clear HS HW HF HV0 HD
        go_wp2_with (go_at_call 86; refine C.out.mono ?_; clear C; rintro e w' ⟨rfl, rfl⟩)
        go_round
        case rel => exact ⟨k + 1, y, by go_num, rfl, by omega, hid ⟨HK.out, HI.out.2⟩⟩
        case measure => simp [intOf]; omega
      · by_cases e1 : x = y
        · have HK := hid (HS.out (.inr e1))
          have e1' : (x == y) = true := by simpa using e1
          clear HS HW HF HV0 HD e1
          go_wp2_with (go_at_call 86; refine C.out.mono ?_; clear C; rintro e w' ⟨rfl, rfl⟩)
          go_round
          case rel => exact ⟨k + 1, y, by go_num, rfl, by omega, hid ⟨HK.out, HI.out.2⟩⟩
          case measure => simp [intOf]; omega
        · have e1' : (x == y) = false := by simpa using e1
          by_cases t2 : 0 < v
          · have HK := hid (HW.out (by omega) (.inl t2))
            clear HS HW HF HV0 HD e1
            go_wp2_with (go_at_call 86; refine C.out.mono ?_; clear C; rintro e w' ⟨rfl, rfl⟩)
            go_ret
            rw [HK.out]
            exact ⟨rfl, r, HA.out, Kp.refl _ _ _ _, Nw.refl _ _⟩
          · by_cases e2 : y = 0
            · have HK := hid (HF.out (by omega) (by omega))
              have HZ := hid (HV0.out t1 t2)
              subst e2
              clear HS HW HF HV0 HD e1
              go_wp2_with (go_at_call 86; refine C.out.mono ?_; clear C; rintro e w' ⟨rfl, rfl⟩)
              go_round
              case rel => exact ⟨k + 1, x, by go_num, rfl, by omega, hid ⟨HK.out, .inr (by rw [HVV.out]; exact HZ.out), HB.out⟩⟩
              case measure => simp [intOf]; omega
            · have e2' : (y != 0) = true := by simpa using e2
              have e2'' : (y == 0) = false := by simpa using e2
              have HK := hid (HW.out (by omega) (.inr e2))
              clear HS HW HF HV0 HD e1
              go_wp2_with (go_at_call 86; refine C.out.mono ?_; clear C; rintro e w' ⟨rfl, rfl⟩)
              go_ret
              rw [HK.out]
              exact ⟨rfl, r, HA.out, Kp.refl _ _ _ _, Nw.refl _ _⟩
    · have hge : ¬ (k : Int) < n := by omega
      have HE := hid (show M = some y by have := HI.out.1; rw [List.drop_of_length_le (by rw [HN.out]; omega)] at this; exact this.symm)
      by_cases e2 : y = 0
      · subst e2
        go_wp2
        go_ret
        rw [HE.out]
        exact ⟨rfl, r, HA.out, Kp.refl _ _ _ _, Nw.refl _ _⟩
      · have e2'' : (y == 0) = false := by simpa using e2
        have C := hid (set87 n0 cb c0 c1 c2 c3 c4 y W T r HA.out e2 HI.out.2.2.1 HI.out.2.2.2 (HI.out.2.1.resolve_left e2) HT.out)
        have HE2 := hid (show Ckr.meetHow M = 0 ∧ Ckr.meetT T M = T ++ [y] by rw [HE.out]; simp [Ckr.meetHow, Ckr.meetT, e2])
        go_wp2_with (go_at_call 87; refine C.out.mono ?_; clear C; rintro e w' ⟨rfl, OUT⟩)
        go_ret
        refine ⟨by rw [HE2.out.1]; rfl, ?_⟩
        rw [HE2.out.2]
        exact OUT
end Go.Proofs.Ytjjanmgeogjngaa

/- The literals of a clause are made false. -/
namespace Ckr
/-- All but one are made false; or one is met that is true, or whose negation is the one left out. -/
def denyL (but : Int) : List Int → List Int → Bool × List Int
  | T, [] => (false, T)
  | T, l :: ls => if l = but then denyL but T ls else if 0 < vl T l ∨ l = -but then (true, T) else if vl T l = 0 then denyL but (T ++ [-l]) ls else denyL but T ls
end Ckr
namespace Go.Proofs.Ytjjanmgeogjngaa
open Go.RowKit
set_option linter.unusedVariables false

/-- A row of literals that no setting turns. -/
def Safe (n0 cb : Nat) (r : Option Nat) (W : World) (a : Option Addr) (xs : List Int) : Prop :=
  Lits W a xs ∧ ∀ g off, a = some ⟨g, off, none⟩ → xs ≠ [] → g ≠ cb ∧ some g ≠ r ∧ (n0 ≤ g → ∀ cs fr, W.heap[g]? ≠ some (.cells cs 119 fr))
theorem Safe.kp {n0 cb : Nat} {r : Option Nat} {W W' : World} {a : Option Addr} {xs : List Int} (h : Safe n0 cb r W a xs) (k : Kp n0 cb r W W') : Lits W' a xs := by
  obtain ⟨⟨h1, h2⟩, h3⟩ := h
  refine ⟨h1, ?_⟩
  rcases h2 with h2 | ⟨b, off, e, hl, hc⟩
  · exact .inl h2
  · refine .inr ⟨b, off, e, Nat.lt_of_lt_of_le hl k.size, fun j hj => ?_⟩
    obtain ⟨q1, q2, q3⟩ := h3 b off e (by intro e; rw [e] at hj; simp at hj)
    rw [World.cell?_of_block (a := ⟨b, off + j, none⟩) (k.block b hl q1 q2 q3)]
    exact hc j hj

def DenyOut (n0 cb : Nat) (c0 c1 c2 c3 c4 : Value) (W : World) (r : Option Nat) (d : Bool × List Int) (e : Ending) (W' : World) : Prop :=
  e = .returned (.bool d.1) ∧ ∃ r', Asg n0 cb c0 c1 c2 c3 c4 W' d.2 r' ∧ Kp n0 cb r W W' ∧ Nw W r r'

set_option maxRecDepth 100000 in
set_option maxHeartbeats 4000000 in
theorem deny75 (n0 cb : Nat) (c0 c1 c2 c3 c4 : Value) (a : Option Addr) (n c : Nat) (but : Int) (xs : List Int) (W : World) (T : List Int) (r : Option Nat) (hA : Asg n0 cb c0 c1 c2 c3 c4 W T r) (hn : xs.length = n) (hb : n ≤ 2147483648) (hx : Safe n0 cb r W a xs) (hl : ∀ x ∈ xs, x ≠ 0 ∧ -1048576 ≤ x ∧ x ≤ 1048576) (hbut : -1048576 ≤ but ∧ but ≤ 1048576) (hTn : T.length ≤ 2147483647) :
    Calls Try.prog 75 #[.pointer (some ⟨cb, 0, none⟩), .slice a n c, .int .i32 but] W fun e W' => DenyOut n0 cb c0 c1 c2 c3 c4 W r (Ckr.denyL but T xs) e W' := by
  have HX := hid hx
  have HN := hid hn
  have HT := hid hTn
  have HL := hid hl
  have HA := hid hA
  obtain ⟨d, hd⟩ : ∃ d, Ckr.denyL but T xs = d := ⟨_, rfl⟩
  have HD0 := hid hd
  rw [hd]
  have b1 := hbut.1
  have b2 := hbut.2
  have bw : IntKind.i32.wrap (-but) = -but := by rw [IntKind.wrap_i32]; omega
  clear hA hx hn hTn hd hl hbut
  go_enter Try.func75, Try.ntmps75
  go_wp2
  go_loopw [12] (fun i wr => ∃ (k : Nat) (T1 : List Int) (r1 : Option Nat), i = .int .i64 k ∧ k ≤ n ∧ Hid (Ckr.denyL but T1 (xs.drop k) = d) ∧ Hid (Asg n0 cb c0 c1 c2 c3 c4 wr T1 r1) ∧ Hid (Kp n0 cb r W wr ∧ Nw W r r1) ∧ Hid (T1.length ≤ T.length + k)) (fun i _ => n - (intOf i).toNat)
  case atStart => exact ⟨0, T, r, rfl, Nat.zero_le _, hid (by rw [List.drop_zero]; exact HD0.out), HA, hid ⟨Kp.refl _ _ _ _, Nw.refl _ _⟩, hid (by omega)⟩
  case round =>
    clear HA HD0
    obtain ⟨k, T1, r1, rfl, hk, HD, HA, HK, HT1⟩ := hrel
    by_cases hlt : k < n
    · have hlt' : (k : Int) < n := by omega
      obtain ⟨b, off, rfl, _, hc, _, _⟩ := Row.at (HX.out.kp HK.out.1) (j := k) (by rw [HN.out]; exact hlt)
      have HC := hid (Cnf.drop_cons xs k (by rw [HN.out]; exact hlt))
      obtain ⟨hx0, hx1, hx2⟩ := HL.out (xs.getD k 0) (Lra.getD_mem xs k (by rw [HN.out]; exact hlt))
      generalize xs.getD k 0 = x at hc HC hx0 hx1 hx2
      have C := hid (value86A HA.out x (by omega) (by omega))
      have HU := hid (show (if x = but then Ckr.denyL but T1 (xs.drop (k + 1)) else if 0 < Ckr.vl T1 x ∨ x = -but then (true, T1) else if Ckr.vl T1 x = 0 then Ckr.denyL but (T1 ++ [-x]) (xs.drop (k + 1)) else Ckr.denyL but T1 (xs.drop (k + 1))) = d by have := HD.out; rwa [HC.out, Ckr.denyL] at this)
      have HS := hid (fun h : Ckr.vl T1 x = 0 => set87 n0 cb c0 c1 c2 c3 c4 (-x) wr T1 r1 HA.out (by omega) (by omega) (by omega) (by
        obtain ⟨vals, vv, vr, _, _, _, _, _, _, hV, _⟩ := HA.out
        rw [Ckr.vl_neg T1 x hV.neg, h]; rfl) (by have := HT1.out; have := HT.out; omega))
      have xw : IntKind.i32.wrap (-x) = -x := by rw [IntKind.wrap_i32]; omega
      clear HC HD
      generalize Ckr.vl T1 x = v at C HU HS
      by_cases e1 : x = but
      · have e1' : (x == but) = true := by simpa using e1
        rw [if_pos e1] at HU
        clear e1 C HS hx0 xw
        go_wp2
        go_roundw
        case rel => exact ⟨k + 1, T1, r1, by go_num, by omega, HU, HA, HK, hid (by have := HT1.out; omega)⟩
        case measure => simp [intOf]; omega
      · have e1' : (x == but) = false := by simpa using e1
        rw [if_neg e1] at HU
        by_cases t1 : 0 < v
        · rw [if_pos (.inl t1)] at HU
          clear e1 HS hx0 xw
          go_wp2_with (go_at_call 86; refine C.out.mono ?_; clear C; rintro e w' ⟨rfl, rfl⟩)
          go_ret
          rw [← HU.out]
          exact ⟨rfl, r1, HA.out, HK.out.1, HK.out.2⟩
        · by_cases e2 : x = -but
          · have e2' : (x == -but) = true := by simpa using e2
            rw [if_pos (.inr e2)] at HU
            clear e1 HS hx0 xw e2
            go_wp2_with (go_at_call 86; refine C.out.mono ?_; clear C; rintro e w' ⟨rfl, rfl⟩)
            go_ret
            rw [← HU.out]
            exact ⟨rfl, r1, HA.out, HK.out.1, HK.out.2⟩
          · have e2' : (x == -but) = false := by simpa using e2
            rw [if_neg (by rintro (h | h); exact t1 h; exact e2 h)] at HU
            by_cases e3 : v = 0
            · rw [if_pos e3] at HU
              have C2 := hid (HS.out e3)
              subst e3
              clear e1 e2 HS hx0
              go_wp2_with (first
                | (go_at_call 86; refine C.out.mono ?_; clear C; rintro e w' ⟨rfl, rfl⟩)
                | (go_at_call 87; refine C2.out.mono ?_; clear C2; rintro e w2 ⟨rfl, r2, hA2, hK2, hN2⟩; have HA2 := hid hA2; have HK2 := hid (And.intro (HK.out.1.trans hK2 HK.out.2) (HK.out.2.trans hN2 HK.out.1.size)); clear hA2 hK2 hN2))
              go_roundw
              case rel => exact ⟨k + 1, T1 ++ [-x], r2, by go_num, by omega, HU, HA2, HK2, hid (by have := HT1.out; simp; omega)⟩
              case measure => simp [intOf]; omega
            · have e3' : (v == 0) = false := by simpa using e3
              rw [if_neg e3] at HU
              clear e1 e2 e3 HS hx0
              go_wp2_with (go_at_call 86; refine C.out.mono ?_; clear C; rintro e w' ⟨rfl, rfl⟩)
              go_roundw
              case rel => exact ⟨k + 1, T1, r1, by go_num, by omega, HU, HA, HK, hid (by have := HT1.out; omega)⟩
              case measure => simp [intOf]; omega
    · have hge : ¬ (k : Int) < n := by omega
      have HE := hid (show (false, T1) = d by have := HD.out; rw [List.drop_of_length_le (by rw [HN.out]; omega)] at this; exact this)
      go_wp2
      go_ret
      rw [← HE.out]
      exact ⟨rfl, r1, HA.out, HK.out.1, HK.out.2⟩
end Go.Proofs.Ytjjanmgeogjngaa

/- What was set is taken back. -/
namespace Ckr
theorem vr_neg (l : Int) : Cnf.vr (-l) = Cnf.vr l := by unfold Cnf.vr; split <;> split <;> omega
theorem vr_cases {a b : Int} (h : Cnf.vr a = Cnf.vr b) : a = b ∨ a = -b := by unfold Cnf.vr at h; split at h <;> split at h <;> omega
/-- One is taken back. -/
theorem Vals.drop1 {A B vals : List Int} {x : Int} (h : Vals (A ++ x :: B) vals) : Vals (A ++ B) (vals.set (Cnf.vr x).toNat 0) := by
  have hsub : ∀ l ∈ A ++ B, l ∈ A ++ x :: B := fun l hl => by
    rcases List.mem_append.1 hl with h | h
    · exact List.mem_append_left _ h
    · exact List.mem_append_right _ (List.mem_cons_of_mem _ h)
  have hx : x ∈ A ++ x :: B := by simp
  have hnd : x ∉ A ++ B := by
    have hn := h.nodup
    rw [List.nodup_append, List.nodup_cons] at hn
    intro hm
    rcases List.mem_append.1 hm with h1 | h1
    · exact hn.2.2 x h1 x (by simp) rfl
    · exact hn.2.1.1 h1
  have hnn : -x ∉ A ++ B := fun hm => h.neg x hx (hsub _ hm)
  refine ⟨fun l hl => by rw [List.length_set]; exact h.in_ l (hsub l hl), fun l hl hm => h.neg l (hsub l hl) (hsub _ hm), ?_, fun v => ?_⟩
  · have hn := h.nodup
    rw [List.nodup_append, List.nodup_cons] at hn
    rw [List.nodup_append]
    exact ⟨hn.1, hn.2.1.2, fun a ha b hb => hn.2.2 a ha b (List.mem_cons_of_mem _ hb)⟩
  · by_cases e : v = (Cnf.vr x).toNat
    · subst e
      have hlt : (Cnf.vr x).toNat < vals.length := by have := h.in_ x hx; omega
      rw [List.getD, List.getElem?_set_self hlt, Option.getD_some]
      have hv : (((Cnf.vr x).toNat : Nat) : Int) = x ∨ (((Cnf.vr x).toNat : Nat) : Int) = -x := by unfold Cnf.vr; split <;> omega
      unfold vl
      rcases hv with hv | hv
      · rw [hv, if_neg hnd, if_neg hnn]
      · rw [hv, if_neg hnn, Int.neg_neg, if_neg hnd]
    · have e1 : ¬ (v : Int) = x := fun e1 => e (by unfold Cnf.vr; split <;> omega)
      have e2 : ¬ (v : Int) = -x := fun e2 => e (by unfold Cnf.vr; split <;> omega)
      have e3 : ¬ -(v : Int) = x := by omega
      simp only [List.getD]
      rw [List.getElem?_set_ne (fun h => e h.symm)]
      have := h.at_ v
      rw [List.getD] at this
      rw [this]
      unfold vl
      simp [e1, e3]
end Ckr
namespace Go.Proofs.Ytjjanmgeogjngaa
open Go.RowKit
set_option linter.unusedVariables false

/-- Nothing is turned but block g. -/
structure Tk (g : Nat) (W W' : World) : Prop where
  os : W'.os = W.os
  tape : W'.tape = W.tape
  output : W'.output = W.output
  size : W'.heap.size = W.heap.size
  block : ∀ k, k ≠ g → W'.heap[k]? = W.heap[k]?
theorem Tk.refl (g : Nat) (W : World) : Tk g W W := ⟨rfl, rfl, rfl, rfl, fun _ _ => rfl⟩
theorem Tk.set {g : Nat} {W W' : World} (h : Tk g W W') (k : Nat) (u : Value) : Tk g W (W'.setCell ⟨g, k, none⟩ u) :=
  ⟨h.os, h.tape, h.output, by simp; exact h.size, fun k' hk => (heap_other _ _ hk).trans (h.block k' hk)⟩
theorem Tk.drew {g : Nat} {W W' : World} (h : Tk g W W') (q : Nat) : Tk g W (W'.drewN q) := ⟨h.os, h.tape, h.output, h.size, h.block⟩
theorem own_cutN {W : World} {base n m e : Nat} {o : Option Addr} {c : Nat} {xs : List Value} (h : W.ownsRow base e 1 (.slice o n c) n xs) (hm : m ≤ n) : W.ownsRow base e 1 (.slice o m c) m (xs.take m) := by
  rcases h.2 with ⟨e1, h0⟩ | ⟨g, cp, cur, e1, h1, h2, h3, h4, h5, h6⟩
  · cases e1
    obtain rfl : m = 0 := by omega
    exact ⟨by simp, .inl ⟨rfl, rfl⟩⟩
  · cases e1
    refine ⟨by rw [List.length_take, h.1]; omega, .inr ⟨g, c, cur, rfl, h1, h2, by omega, h4, h5, ?_⟩⟩
    rw [← h6, List.take_take]
    congr 1
    omega
def BackOut (n0 cb : Nat) (c0 c1 c2 c3 c4 : Value) (W : World) (r : Option Nat) (T0 : List Int) (e : Ending) (W' : World) : Prop :=
  e = .returned (.tuple #[]) ∧ Asg n0 cb c0 c1 c2 c3 c4 W' T0 r ∧ Kp n0 cb r W W'

/-- Behind the loop. -/
theorem back_end (n0 cb : Nat) (c0 c1 c2 c3 c4 : Value) (W W1 : World) (T0 S vals vals1 : List Int) (o : Option Addr) (ct g c : Nat) (A : Array Value) (r : Option Nat)
    (hr : r = (Value.slice o (T0 ++ S).length ct).ownBlock) (hcb : n0 ≤ cb) (hsz : n0 ≤ W.heap.size) (hc : W.heap[cb]? = some (.cells #[c0, c1, c2, c3, c4, .slice (some ⟨g, 0, none⟩) vals.length c, .slice o (T0 ++ S).length ct] 75 (0, 0)))
    (hgn : n0 ≤ g) (hgW : ∃ A0, W.heap[g]? = some (.cells A0 119 (0, 0))) (hg1 : W1.heap[g]? = some (.cells A 119 (0, 0))) (hAs : A.size = c) (hnc : vals.length ≤ c) (hcm : c ≤ maxLen) (hl1 : vals1.length = vals.length) (htk : A.toList.take vals.length = vals1.map (Value.int .i8))
    (hot : W.ownsRow n0 40 1 (.slice o (T0 ++ S).length ct) (T0 ++ S).length ((T0 ++ S).map (Value.int .i32))) (hV : Ckr.Vals T0 vals1) (hvl : vals.length ≤ 4294967297) (hTl : (T0 ++ S).length ≤ 4294967296) (hTb : ∀ x ∈ T0 ++ S, -2147483648 ≤ x ∧ x ≤ 2147483647) (hT : Tk g W W1) :
    BackOut n0 cb c0 c1 c2 c3 c4 W r T0 (.returned (.tuple #[])) (W1.setCell ⟨cb, 6, none⟩ (.slice o T0.length ct)) := by
  obtain ⟨A0, hgW⟩ := hgW
  have hgc : g ≠ cb := by intro e; rw [e, hc] at hgW; injection hgW with e1; injection e1 with _ e2; cases e2
  have h1 := (hT.block cb (fun e => hgc e.symm)).trans hc
  have hcut := own_cutN hot (m := T0.length) (by simp)
  rw [← List.map_take, List.take_left'] at hcut
  · refine ⟨rfl, ⟨vals1, _, .slice o T0.length ct, hr.trans (by cases o <;> rfl), hcb, by simp; rw [hT.size]; exact hsz, cb6 h1 _, ?_, ?_, hV, by omega, by simp at hTl; omega, fun x hx => hTb x (List.mem_append_left _ hx)⟩, ⟨hT.os, hT.tape, hT.output, by simp; rw [hT.size]; exact Nat.le_refl _, fun k hk hkc hkr ht => ?_, fun _ k hkl hkc hkr hv => ?_, fun _ => ?_⟩⟩
    · rw [hl1]
      exact own_mk hgn ((heap_other _ _ hgc).trans hg1) hnc hcm hAs htk
    · refine own_keep hcut (fun q cs hq hh => ?_)
      have e1 : q ≠ g := by intro e; rw [e, hgW] at hh; injection hh with e1; injection e1 with _ e2; cases e2
      have e2 : q ≠ cb := by intro e; rw [e, hc] at hh; injection hh with e1; injection e1 with _ e2; cases e2
      rw [heap_other _ _ e2, hT.block q e1]
    · have e1 : k ≠ g := by intro e; subst e; exact ht hgn _ _ hgW
      rw [heap_other _ _ hkc, hT.block k e1]
    · have e1 : k ≠ g := by intro e; subst e; exact hv (by rw [VB.of hc]; rfl)
      rw [heap_other _ _ hkc, hT.block k e1]
    · rw [VB.of hc, VB.of (cb6 h1 _)]
      exact Nw.refl _ _
  · rfl
end Go.Proofs.Ytjjanmgeogjngaa

/- What was set is taken back: the call. -/
namespace Go.Proofs.Ytjjanmgeogjngaa
open Go.RowKit
set_option linter.unusedVariables false

theorem getD_right (A B : List Int) (k : Nat) : (A ++ B).getD (A.length + k) 0 = B.getD k 0 := by
  simp only [List.getD]
  rw [List.getElem?_append_right (by omega), Nat.add_sub_cancel_left]

set_option maxRecDepth 100000 in
set_option maxHeartbeats 4000000 in
theorem takeBack74_some (n0 cb : Nat) (c0 c1 c2 c3 c4 : Value) (W : World) (T0 S : List Int) (r : Option Nat) (hA : Asg n0 cb c0 c1 c2 c3 c4 W (T0 ++ S) r) (hS : 0 < S.length) :
    Calls Try.prog 74 #[.pointer (some ⟨cb, 0, none⟩), .int .i64 T0.length] W fun e W' => BackOut n0 cb c0 c1 c2 c3 c4 W r T0 e W' := by
  obtain ⟨vals, vv, vr, hr, hcb, hsz, hc, hov, hot, hV, hvl, hTl, hTb⟩ := hA
  have hnv : 0 < vals.length := by
    cases S with
    | nil => simp at hS
    | cons x S => have := (hV.in_ x (by simp)).2; have := Cnf.vr_nonneg x; omega
  obtain ⟨g, c, A0, rfl, hgn, hgW, hnc, hcm, hAs, htk⟩ := own_some hov hnv
  obtain ⟨ht, ct, B, rfl, htn, htW, htc, htm, hBs, htB⟩ := own_some hot (by simp; omega)
  have hgc : g ≠ cb := by intro e; rw [e, hc] at hgW; injection hgW with e1; injection e1 with _ e2; cases e2
  have hgt : ht ≠ g := by intro e; rw [e, hgW] at htW; injection htW with e1; injection e1 with _ e2; cases e2
  have HEnd := hid (fun W1 A vals1 => back_end n0 cb c0 c1 c2 c3 c4 W W1 T0 S vals vals1 (some ⟨ht, 0, none⟩) ct g c A r hr hcb hsz hc hgn ⟨_, hgW⟩)
  have HEnd2 := hid (And.intro hot (And.intro hvl (And.intro hTl hTb)))
  have HTr := hid (fun k (hk : k < S.length) => show W.cell? ⟨ht, T0.length + k, none⟩ = some (.int .i32 (S.getD k 0)) by
    have hx := own_row hot hTb
    obtain ⟨b, off, e, _, hh, _, _⟩ := Row.at hx (j := T0.length + k) (by simp; omega)
    cases e
    rw [getD_right, Nat.zero_add] at hh
    exact hh)
  have HSt := hid (show W.heap[g]? = some (.cells A0 119 (0, 0)) ∧ A0.size = c ∧ vals.length = vals.length ∧ A0.toList.take vals.length = vals.map (Value.int .i8) from ⟨hgW, hAs, rfl, htk⟩)
  have HV0 := hid hV
  have HB := hid (fun k (hk : k < S.length) => hTb (S.getD k 0) (List.mem_append_right _ (Lra.getD_mem S k hk)))
  have HC := hid hc
  have HG := hid hgc
  have HGT := hid hgt
  have hlt0 : T0.length < ct := by simp at htc; omega
  have x6 : W.cell? ⟨cb, 6, none⟩ = some (.slice (some ⟨ht, 0, none⟩) (T0 ++ S).length ct) := row_cell hc 6
  have hNC := hid (And.intro hnc hcm)
  rw [List.length_append] at x6
  have hN1 : T0.length + S.length ≤ 4294967296 := by simpa using hTl
  have hN2 : vals.length ≤ 4294967297 := hvl
  have hctm : T0.length + S.length ≤ ct := by simpa using htc
  generalize hnn : T0.length = n at x6 HTr hlt0 hN1 hctm ⊢
  generalize hmm : S.length = m at x6 HTr hN1 hS HB hctm
  generalize hvn : vals.length = nv at HSt hN2 hNC hnv
  have HL := hid (And.intro hnn (And.intro hmm hvn))
  clear hr hcb hsz hc hov hot hV hvl hTl hTb hgn hgW htn htW htk htB hgc hgt hnc hcm hAs hBs htm htc hnn hmm hvn
  have hlt' : (n : Int) < ct := by omega
  have hle' : (n : Int) ≤ ct := by omega
  have hne' : ¬ ct = n := by omega
  go_enter Try.func74, Try.ntmps74
  go_wp2
  go_loopw [13] (fun i wr => ∃ (k : Nat) (A : Array Value) (vals1 : List Int), i = .int .i64 k ∧ k ≤ m ∧ Hid (wr.heap[g]? = some (.cells A 119 (0, 0)) ∧ A.size = c ∧ vals1.length = nv ∧ A.toList.take nv = vals1.map (Value.int .i8)) ∧ Hid (Ckr.Vals (T0 ++ S.drop k) vals1) ∧ Hid (Tk g W wr)) (fun i _ => m - (intOf i).toNat)
  case atStart => exact ⟨0, A0, vals, rfl, Nat.zero_le _, hid ⟨HSt.out.1, HSt.out.2.1, HL.out.2.2, HSt.out.2.2.2⟩, hid (by rw [List.drop_zero]; exact HV0.out), hid (Tk.refl _ _)⟩
  case round =>
    obtain ⟨k, A, vals1, rfl, hk, HSt, HV, HTk⟩ := hrel
    have y6 : wr.cell? ⟨cb, 6, none⟩ = some (.slice (some ⟨ht, 0, none⟩) (n + m) ct) := (World.cell?_of_block (a := ⟨cb, 6, none⟩) (HTk.out.block cb (fun e => HG.out e.symm))).trans x6
    have y5 : wr.cell? ⟨cb, 5, none⟩ = some (.slice (some ⟨g, 0, none⟩) nv c) := by
      rw [World.cell?_of_block (a := ⟨cb, 5, none⟩) (HTk.out.block cb (fun e => HG.out e.symm)), row_cell HC.out 5, HL.out.2.2]; rfl
    have f6 : wr.frozen? ⟨cb, 6, none⟩ = false := by
      rw [World.frozen?_of_block (a := ⟨cb, 6, none⟩) (HTk.out.block cb (fun e => HG.out e.symm))]; exact row_frozen HC.out 6
    by_cases hlk : k < m
    · have hlk' : (k : Int) < m := by omega
      have hc : wr.cell? ⟨ht, n + k, none⟩ = some (.int .i32 (S.getD k 0)) := (World.cell?_of_block (a := ⟨ht, n + k, none⟩) (HTk.out.block ht HGT.out)).trans (HTr.out k hlk)
      have hbd := HB.out k hlk
      have HD := hid (Cnf.drop_cons S k (by rw [HL.out.2.1]; exact hlk))
      have hV1 := HV.out
      rw [HD.out] at hV1
      generalize S.getD k 0 = x at hc hbd hV1
      have hpx := hV1.in_ x (by simp)
      rw [HSt.out.2.2.1] at hpx
      have HVN := hid hV1.drop1
      have C := hid (fun w => var56 x w hbd.1 hbd.2)
      obtain ⟨p, hp⟩ : ∃ p : Nat, Cnf.vr x = p := ⟨(Cnf.vr x).toNat, by omega⟩
      rw [hp] at C hpx HVN
      rw [Int.toNat_natCast] at HVN
      have hpn : (p : Int) < nv := by omega
      have hp0 : (0 : Int) ≤ p := by omega
      have hpc : p < A.size := by rw [HSt.out.2.1]; have := hNC.out.1; omega
      have z0 := row_cell HSt.out.1 p
      rw [Array.getElem?_eq_getElem hpc] at z0
      generalize A[p] = old at z0
      have f0 := row_frozen HSt.out.1 p
      have HP := hid hpc
      clear hV1 hbd hpx hp hpc HD HV
      go_wp2
      go_region_with (go_at_call 56; refine (C.out _).mono ?_; rintro e W7 ⟨rfl, rfl⟩)
      all_goals
        go_wp2
        go_roundw
        case rel => exact ⟨k + 1, A.setIfInBounds p (.int .i8 0), vals1.set p 0, by go_num, by omega, hid ⟨heap_set_row HSt.out.1 _, by rw [Array.size_setIfInBounds]; exact HSt.out.2.1, by rw [List.length_set]; exact HSt.out.2.2.1, setB_take A vals1 .i8 nv p 0 HSt.out.2.2.2⟩, HVN, hid ((HTk.out.set p _).drew _)⟩
        case measure => simp [intOf]; omega
    · have hge : ¬ (k : Int) < m := by omega
      have HVE := hid (show Ckr.Vals T0 vals1 by have := HV.out; rw [List.drop_of_length_le (by rw [HL.out.2.1]; omega), List.append_nil] at this; exact this)
      have HF := hid (HEnd.out wr A vals1 HSt.out.1 HSt.out.2.1 (by rw [HL.out.2.2]; exact hNC.out.1) hNC.out.2 (by rw [HL.out.2.2]; exact HSt.out.2.2.1) (by rw [HL.out.2.2]; exact HSt.out.2.2.2) HEnd2.out.1 HVE.out HEnd2.out.2.1 HEnd2.out.2.2.1 HEnd2.out.2.2.2 HTk.out)
      rw [HL.out.1] at HF
      clear HEnd HEnd2
      go_wp2
      go_end0
      exact HF.out

set_option maxRecDepth 100000 in
set_option maxHeartbeats 4000000 in
theorem takeBack74_none (n0 cb : Nat) (c0 c1 c2 c3 c4 : Value) (W : World) (T0 : List Int) (r : Option Nat) (hA : Asg n0 cb c0 c1 c2 c3 c4 W T0 r) :
    Calls Try.prog 74 #[.pointer (some ⟨cb, 0, none⟩), .int .i64 T0.length] W fun e W' => BackOut n0 cb c0 c1 c2 c3 c4 W r T0 e W' := by
  obtain ⟨vals, vv, vr, hr, hcb, hsz, hc, hov, hot, hV, hvl, hTl, hTb⟩ := hA
  have HF : Hid (BackOut n0 cb c0 c1 c2 c3 c4 W r T0 (.returned (.tuple #[])) (W.setCell ⟨cb, 6, none⟩ vr)) := by
    refine ⟨rfl, ⟨vals, vv, vr, hr, hcb, by simp; exact hsz, cb6 hc vr, own_keep hov (fun q cs hq hh => heap_other _ _ ?_), own_keep hot (fun q cs hq hh => heap_other _ _ ?_), hV, hvl, hTl, hTb⟩, ⟨rfl, rfl, rfl, by simp, fun k hk hkc hkr ht => heap_other _ _ hkc, fun _ k hk hkc hkr hv => heap_other _ _ hkc, fun _ => by rw [VB.of hc, VB.of (cb6 hc vr)]; exact Nw.refl _ _⟩⟩
    · intro e; rw [e, hc] at hh; injection hh with e1; injection e1 with _ e2; cases e2
    · intro e; rw [e, hc] at hh; injection hh with e1; injection e1 with _ e2; cases e2
  have x6 : W.cell? ⟨cb, 6, none⟩ = some vr := row_cell hc 6
  have f6 := row_frozen hc 6
  rcases hot.2 with ⟨rfl, h0⟩ | ⟨g, c, cur, rfl, h1, h2, h3, h4, h5, h6⟩
  · rw [h0]
    clear hr hcb hsz hc hov hot hV hvl hTl hTb h0
    go_enter Try.func74, Try.ntmps74
    go_wp2
    go_loopw [13] (fun i wr => i = .int .i64 0 ∧ wr = W) (fun _ _ => 0)
    case atStart => exact ⟨rfl, rfl⟩
    case round =>
      obtain ⟨rfl, rfl⟩ := hrel
      go_wp2
      go_end0
      exact HF.out
  · generalize T0.length = n at *
    clear hr hcb hsz hc hov hot hV hvl hTb h1 h2 h4 h5 h6
    have h3' : (n : Int) ≤ c := by omega
    by_cases hcn : c = n
    · subst hcn
      go_enter Try.func74, Try.ntmps74
      go_wp2
      go_loopw [13] (fun i wr => i = .int .i64 0 ∧ wr = W) (fun _ _ => 0)
      case atStart => exact ⟨rfl, rfl⟩
      case round =>
        obtain ⟨rfl, rfl⟩ := hrel
        go_wp2
        go_end0
        exact HF.out
    · go_enter Try.func74, Try.ntmps74
      go_wp2
      go_loopw [13] (fun i wr => i = .int .i64 0 ∧ wr = W) (fun _ _ => 0)
      case atStart => exact ⟨rfl, rfl⟩
      case round =>
        obtain ⟨rfl, rfl⟩ := hrel
        go_wp2
        go_end0
        exact HF.out
/-- takeBack: what was set since the trail had that length is taken back. -/
theorem takeBack74 (n0 cb : Nat) (c0 c1 c2 c3 c4 : Value) (W : World) (T0 S : List Int) (r : Option Nat) (hA : Asg n0 cb c0 c1 c2 c3 c4 W (T0 ++ S) r) :
    Calls Try.prog 74 #[.pointer (some ⟨cb, 0, none⟩), .int .i64 T0.length] W fun e W' => BackOut n0 cb c0 c1 c2 c3 c4 W r T0 e W' := by
  cases S with
  | nil => rw [List.append_nil] at hA; exact takeBack74_none n0 cb c0 c1 c2 c3 c4 W T0 r hA
  | cons x S => exact takeBack74_some n0 cb c0 c1 c2 c3 c4 W T0 (x :: S) r hA (by simp)
end Go.Proofs.Ytjjanmgeogjngaa

/- What was set is taken back: the deferred call. -/
namespace Go.Proofs.Ytjjanmgeogjngaa
open Go.RowKit
set_option linter.unusedVariables false

set_option maxRecDepth 100000 in
set_option maxHeartbeats 4000000 in
theorem takeBackD_some (n0 cb : Nat) (c0 c1 c2 c3 c4 : Value) (u : FrameMode) (W : World) (T0 S : List Int) (r : Option Nat) (hA : Asg n0 cb c0 c1 c2 c3 c4 W (T0 ++ S) r) (hS : 0 < S.length) :
    CallsD Try.prog 74 #[.pointer (some ⟨cb, 0, none⟩), .int .i64 T0.length] u W fun e u' W' => u' = u ∧ BackOut n0 cb c0 c1 c2 c3 c4 W r T0 e W' := by
  obtain ⟨vals, vv, vr, hr, hcb, hsz, hc, hov, hot, hV, hvl, hTl, hTb⟩ := hA
  have hnv : 0 < vals.length := by
    cases S with
    | nil => simp at hS
    | cons x S => have := (hV.in_ x (by simp)).2; have := Cnf.vr_nonneg x; omega
  obtain ⟨g, c, A0, rfl, hgn, hgW, hnc, hcm, hAs, htk⟩ := own_some hov hnv
  obtain ⟨ht, ct, B, rfl, htn, htW, htc, htm, hBs, htB⟩ := own_some hot (by simp; omega)
  have hgc : g ≠ cb := by intro e; rw [e, hc] at hgW; injection hgW with e1; injection e1 with _ e2; cases e2
  have hgt : ht ≠ g := by intro e; rw [e, hgW] at htW; injection htW with e1; injection e1 with _ e2; cases e2
  have HEnd := hid (fun W1 A vals1 => back_end n0 cb c0 c1 c2 c3 c4 W W1 T0 S vals vals1 (some ⟨ht, 0, none⟩) ct g c A r hr hcb hsz hc hgn ⟨_, hgW⟩)
  have HEnd2 := hid (And.intro hot (And.intro hvl (And.intro hTl hTb)))
  have HTr := hid (fun k (hk : k < S.length) => show W.cell? ⟨ht, T0.length + k, none⟩ = some (.int .i32 (S.getD k 0)) by
    have hx := own_row hot hTb
    obtain ⟨b, off, e, _, hh, _, _⟩ := Row.at hx (j := T0.length + k) (by simp; omega)
    cases e
    rw [getD_right, Nat.zero_add] at hh
    exact hh)
  have HSt := hid (show W.heap[g]? = some (.cells A0 119 (0, 0)) ∧ A0.size = c ∧ vals.length = vals.length ∧ A0.toList.take vals.length = vals.map (Value.int .i8) from ⟨hgW, hAs, rfl, htk⟩)
  have HV0 := hid hV
  have HB := hid (fun k (hk : k < S.length) => hTb (S.getD k 0) (List.mem_append_right _ (Lra.getD_mem S k hk)))
  have HC := hid hc
  have HG := hid hgc
  have HGT := hid hgt
  have hlt0 : T0.length < ct := by simp at htc; omega
  have x6 : W.cell? ⟨cb, 6, none⟩ = some (.slice (some ⟨ht, 0, none⟩) (T0 ++ S).length ct) := row_cell hc 6
  have hNC := hid (And.intro hnc hcm)
  rw [List.length_append] at x6
  have hN1 : T0.length + S.length ≤ 4294967296 := by simpa using hTl
  have hN2 : vals.length ≤ 4294967297 := hvl
  have hctm : T0.length + S.length ≤ ct := by simpa using htc
  generalize hnn : T0.length = n at x6 HTr hlt0 hN1 hctm ⊢
  generalize hmm : S.length = m at x6 HTr hN1 hS HB hctm
  generalize hvn : vals.length = nv at HSt hN2 hNC hnv
  have HL := hid (And.intro hnn (And.intro hmm hvn))
  clear hr hcb hsz hc hov hot hV hvl hTl hTb hgn hgW htn htW htk htB hgc hgt hnc hcm hAs hBs htm htc hnn hmm hvn
  have hlt' : (n : Int) < ct := by omega
  have hle' : (n : Int) ≤ ct := by omega
  have hne' : ¬ ct = n := by omega
  go_enter_d Try.func74, Try.ntmps74
  go_wp2
  go_loopw [13] (fun i wr => ∃ (k : Nat) (A : Array Value) (vals1 : List Int), i = .int .i64 k ∧ k ≤ m ∧ Hid (wr.heap[g]? = some (.cells A 119 (0, 0)) ∧ A.size = c ∧ vals1.length = nv ∧ A.toList.take nv = vals1.map (Value.int .i8)) ∧ Hid (Ckr.Vals (T0 ++ S.drop k) vals1) ∧ Hid (Tk g W wr)) (fun i _ => m - (intOf i).toNat)
  case atStart => exact ⟨0, A0, vals, rfl, Nat.zero_le _, hid ⟨HSt.out.1, HSt.out.2.1, HL.out.2.2, HSt.out.2.2.2⟩, hid (by rw [List.drop_zero]; exact HV0.out), hid (Tk.refl _ _)⟩
  case round =>
    obtain ⟨k, A, vals1, rfl, hk, HSt, HV, HTk⟩ := hrel
    have y6 : wr.cell? ⟨cb, 6, none⟩ = some (.slice (some ⟨ht, 0, none⟩) (n + m) ct) := (World.cell?_of_block (a := ⟨cb, 6, none⟩) (HTk.out.block cb (fun e => HG.out e.symm))).trans x6
    have y5 : wr.cell? ⟨cb, 5, none⟩ = some (.slice (some ⟨g, 0, none⟩) nv c) := by
      rw [World.cell?_of_block (a := ⟨cb, 5, none⟩) (HTk.out.block cb (fun e => HG.out e.symm)), row_cell HC.out 5, HL.out.2.2]; rfl
    have f6 : wr.frozen? ⟨cb, 6, none⟩ = false := by
      rw [World.frozen?_of_block (a := ⟨cb, 6, none⟩) (HTk.out.block cb (fun e => HG.out e.symm))]; exact row_frozen HC.out 6
    by_cases hlk : k < m
    · have hlk' : (k : Int) < m := by omega
      have hc : wr.cell? ⟨ht, n + k, none⟩ = some (.int .i32 (S.getD k 0)) := (World.cell?_of_block (a := ⟨ht, n + k, none⟩) (HTk.out.block ht HGT.out)).trans (HTr.out k hlk)
      have hbd := HB.out k hlk
      have HD := hid (Cnf.drop_cons S k (by rw [HL.out.2.1]; exact hlk))
      have hV1 := HV.out
      rw [HD.out] at hV1
      generalize S.getD k 0 = x at hc hbd hV1
      have hpx := hV1.in_ x (by simp)
      rw [HSt.out.2.2.1] at hpx
      have HVN := hid hV1.drop1
      have C := hid (fun w => var56 x w hbd.1 hbd.2)
      obtain ⟨p, hp⟩ : ∃ p : Nat, Cnf.vr x = p := ⟨(Cnf.vr x).toNat, by omega⟩
      rw [hp] at C hpx HVN
      rw [Int.toNat_natCast] at HVN
      have hpn : (p : Int) < nv := by omega
      have hp0 : (0 : Int) ≤ p := by omega
      have hpc : p < A.size := by rw [HSt.out.2.1]; have := hNC.out.1; omega
      have z0 := row_cell HSt.out.1 p
      rw [Array.getElem?_eq_getElem hpc] at z0
      generalize A[p] = old at z0
      have f0 := row_frozen HSt.out.1 p
      have HP := hid hpc
      clear hV1 hbd hpx hp hpc HD HV
      go_wp2
      go_region_with (go_at_call 56; refine (C.out _).mono ?_; rintro e W7 ⟨rfl, rfl⟩)
      all_goals
        go_wp2
        go_roundw
        case rel => exact ⟨k + 1, A.setIfInBounds p (.int .i8 0), vals1.set p 0, by go_num, by omega, hid ⟨heap_set_row HSt.out.1 _, by rw [Array.size_setIfInBounds]; exact HSt.out.2.1, by rw [List.length_set]; exact HSt.out.2.2.1, setB_take A vals1 .i8 nv p 0 HSt.out.2.2.2⟩, HVN, hid ((HTk.out.set p _).drew _)⟩
        case measure => simp [intOf]; omega
    · have hge : ¬ (k : Int) < m := by omega
      have HVE := hid (show Ckr.Vals T0 vals1 by have := HV.out; rw [List.drop_of_length_le (by rw [HL.out.2.1]; omega), List.append_nil] at this; exact this)
      have HF := hid (HEnd.out wr A vals1 HSt.out.1 HSt.out.2.1 (by rw [HL.out.2.2]; exact hNC.out.1) hNC.out.2 (by rw [HL.out.2.2]; exact HSt.out.2.2.1) (by rw [HL.out.2.2]; exact HSt.out.2.2.2) HEnd2.out.1 HVE.out HEnd2.out.2.1 HEnd2.out.2.2.1 HEnd2.out.2.2.2 HTk.out)
      rw [HL.out.1] at HF
      clear HEnd HEnd2
      go_wp2
      go_end0
      exact HF.out

set_option maxRecDepth 100000 in
set_option maxHeartbeats 4000000 in
theorem takeBackD_none (n0 cb : Nat) (c0 c1 c2 c3 c4 : Value) (u : FrameMode) (W : World) (T0 : List Int) (r : Option Nat) (hA : Asg n0 cb c0 c1 c2 c3 c4 W T0 r) :
    CallsD Try.prog 74 #[.pointer (some ⟨cb, 0, none⟩), .int .i64 T0.length] u W fun e u' W' => u' = u ∧ BackOut n0 cb c0 c1 c2 c3 c4 W r T0 e W' := by
  obtain ⟨vals, vv, vr, hr, hcb, hsz, hc, hov, hot, hV, hvl, hTl, hTb⟩ := hA
  have HF : Hid (BackOut n0 cb c0 c1 c2 c3 c4 W r T0 (.returned (.tuple #[])) (W.setCell ⟨cb, 6, none⟩ vr)) := by
    refine ⟨rfl, ⟨vals, vv, vr, hr, hcb, by simp; exact hsz, cb6 hc vr, own_keep hov (fun q cs hq hh => heap_other _ _ ?_), own_keep hot (fun q cs hq hh => heap_other _ _ ?_), hV, hvl, hTl, hTb⟩, ⟨rfl, rfl, rfl, by simp, fun k hk hkc hkr ht => heap_other _ _ hkc, fun _ k hk hkc hkr hv => heap_other _ _ hkc, fun _ => by rw [VB.of hc, VB.of (cb6 hc vr)]; exact Nw.refl _ _⟩⟩
    · intro e; rw [e, hc] at hh; injection hh with e1; injection e1 with _ e2; cases e2
    · intro e; rw [e, hc] at hh; injection hh with e1; injection e1 with _ e2; cases e2
  have x6 : W.cell? ⟨cb, 6, none⟩ = some vr := row_cell hc 6
  have f6 := row_frozen hc 6
  rcases hot.2 with ⟨rfl, h0⟩ | ⟨g, c, cur, rfl, h1, h2, h3, h4, h5, h6⟩
  · rw [h0]
    clear hr hcb hsz hc hov hot hV hvl hTl hTb h0
    go_enter_d Try.func74, Try.ntmps74
    go_wp2
    go_loopw [13] (fun i wr => i = .int .i64 0 ∧ wr = W) (fun _ _ => 0)
    case atStart => exact ⟨rfl, rfl⟩
    case round =>
      obtain ⟨rfl, rfl⟩ := hrel
      go_wp2
      go_end0
      exact HF.out
  · generalize T0.length = n at *
    clear hr hcb hsz hc hov hot hV hvl hTb h1 h2 h4 h5 h6
    have h3' : (n : Int) ≤ c := by omega
    by_cases hcn : c = n
    · subst hcn
      go_enter_d Try.func74, Try.ntmps74
      go_wp2
      go_loopw [13] (fun i wr => i = .int .i64 0 ∧ wr = W) (fun _ _ => 0)
      case atStart => exact ⟨rfl, rfl⟩
      case round =>
        obtain ⟨rfl, rfl⟩ := hrel
        go_wp2
        go_end0
        exact HF.out
    · go_enter_d Try.func74, Try.ntmps74
      go_wp2
      go_loopw [13] (fun i wr => i = .int .i64 0 ∧ wr = W) (fun _ _ => 0)
      case atStart => exact ⟨rfl, rfl⟩
      case round =>
        obtain ⟨rfl, rfl⟩ := hrel
        go_wp2
        go_end0
        exact HF.out
/-- takeBack: what was set since the trail had that length is taken back. -/
theorem takeBackD (n0 cb : Nat) (c0 c1 c2 c3 c4 : Value) (u : FrameMode) (W : World) (T0 S : List Int) (r : Option Nat) (hA : Asg n0 cb c0 c1 c2 c3 c4 W (T0 ++ S) r) :
    CallsD Try.prog 74 #[.pointer (some ⟨cb, 0, none⟩), .int .i64 T0.length] u W fun e u' W' => u' = u ∧ BackOut n0 cb c0 c1 c2 c3 c4 W r T0 e W' := by
  cases S with
  | nil => rw [List.append_nil] at hA; exact takeBackD_none n0 cb c0 c1 c2 c3 c4 u W T0 r hA
  | cons x S => exact takeBackD_some n0 cb c0 c1 c2 c3 c4 u W T0 (x :: S) r hA (by simp)
end Go.Proofs.Ytjjanmgeogjngaa

