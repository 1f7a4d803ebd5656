/- slices.Index, slices.Contains, of a literal in a clause. -/
import Derived.Test.YthpebfojkpnojaaGreatJad
import Derived.Test.YthpebfojkpnojaaGreatJao
import Derived.Test.YthpebfojkpnojaaGreatJae
/- slices.Index, slices.Contains, of a literal in a clause. -/
namespace Bas
theorem any_take (v : Int) (xs : List Int) (k : Nat) (h : k < xs.length) (h1 : v ∉ xs.take k) (h2 : xs.getD k 0 ≠ v) : v ∉ xs.take (k + 1) := by
  rw [List.take_succ_eq_append_getElem h, List.mem_append, List.mem_singleton]
  rintro (h3 | h3)
  · exact h1 h3
  · exact h2 (by simp [List.getD, List.getElem?_eq_getElem h, ← h3])
end Bas
namespace Go.Proofs.YthpebfojkpnojaaGreat
open Go.RowKit Go.Maps
set_option linter.unusedVariables false

def IdxOut (v : Int) (xs : List Int) (e : Ending) : Prop := ∃ i : Int, e = .returned (.int .i64 i) ∧ (0 ≤ i ↔ v ∈ xs)
set_option maxRecDepth 100000 in
set_option maxHeartbeats 1000000 in
theorem index62 (v : Int) (a : Option Addr) (n cap : Nat) (xs : List Int) (w : World) (hn : xs.length = n) (hN : n ≤ 35184372088832) (h : Lits w a xs) :
    Calls Tryz.prog 122 #[.slice a n cap, .int .i32 v] w fun e w' => IdxOut v xs e ∧ w' = w := by
  have HN := hid hn
  have HX := hid h
  have hsh : n = 0 ∨ ∃ b off, a = some ⟨b, off, none⟩ := by rw [← hn]; exact h.shape
  have HSH := hid hsh
  clear hn h hsh
  rcases HSH.out with h0 | ⟨b, off, rfl⟩
  · subst h0
    have HXS := hid (show xs = [] from List.eq_nil_of_length_eq_zero HN.out)
    go_enter Tryz.func122, Tryz.ntmps122
    go_wp2
    go_loop [8] (fun i => i = .int .i64 0) (fun _ => 0)
    case atStart => rfl
    case round =>
      obtain rfl := hrel
      go_wp2
      go_ret
      exact ⟨⟨-1, rfl, by rw [HXS.out]; simp⟩, rfl⟩
  · go_enter Tryz.func122, Tryz.ntmps122
    go_wp2
    go_loop [8] (fun i => ∃ k : Nat, k ≤ n ∧ i = .int .i64 k ∧ Hid (v ∉ xs.take k)) (fun i => n - (intOf i).toNat)
    case atStart => exact ⟨0, Nat.zero_le _, rfl, hid (by simp)⟩
    case round =>
      obtain ⟨k, hk, rfl, HT⟩ := hrel
      by_cases hlt : k < n
      · have hlt' : (k : Int) < n := by omega
        obtain ⟨b', off', e, _, hc, _⟩ := Row.at HX.out (j := k) (by rw [HN.out]; exact hlt)
        cases e
        by_cases hz : xs.getD k 0 = v
        · rw [hz] at hc
          have HM := hid (show v ∈ xs by rw [← hz]; exact getD_mem xs k (by rw [HN.out]; exact hlt))
          have hvv : (v == v) = true := by simp
          clear hz
          go_wp2
          go_ret
          exact ⟨⟨k, rfl, ⟨fun _ => HM.out, fun _ => by omega⟩⟩, rfl⟩
        · have HT' := hid (Bas.any_take v xs k (by rw [HN.out]; exact hlt) HT.out hz)
          have hz' : (v == xs.getD k 0) = false := by simp; exact fun e => hz e.symm
          have hz2 : ¬ v = xs.getD k 0 := fun e => hz e.symm
          generalize xs.getD k 0 = xv at *
          go_wp2
          go_round
          case rel => exact ⟨k + 1, by omega, by go_num, HT'⟩
          case measure => simp [intOf]; omega
      · have hge : ¬ (k : Int) < n := by omega
        obtain rfl : k = n := by omega
        have HT' := HT.out
        rw [List.take_of_length_le (by rw [HN.out]; exact Nat.le_refl _)] at HT'
        have HT2 := hid HT'
        clear HT'
        go_wp2
        go_ret
        exact ⟨⟨-1, rfl, ⟨fun h => by omega, fun h => absurd h HT2.out⟩⟩, rfl⟩
theorem contains54 (v : Int) (a : Option Addr) (n cap : Nat) (xs : List Int) (w : World) (hn : xs.length = n) (hN : n ≤ 35184372088832) (h : Lits w a xs) :
    Calls Tryz.prog 112 #[.slice a n cap, .int .i32 v] w fun e w' => e = .returned (.bool (decide (v ∈ xs))) ∧ w' = w := by
  have HC := hid (index62 v a n cap xs w hn hN h)
  clear hn h
  go_enter Tryz.func112, Tryz.ntmps112
  go_wp2_with (go_at_call 122; refine HC.out.mono ?_; rintro e w3 ⟨⟨i, rfl, hi⟩, hw⟩; rw [hw]; clear hw; have HI := hid hi; clear hi)
  go_ret
  exact ⟨by congr 2; simp [HI.out], rfl⟩
end Go.Proofs.YthpebfojkpnojaaGreat

/- Subsumes, of few literals. -/
namespace Bas
def sub (xs ys : List Int) : Bool := xs.all (fun x => decide (x ∈ ys))
theorem sub_subs (xs ys : List Int) : sub xs ys = subs xs ys := by unfold sub subs; congr 1; funext x; simp
theorem sub_take (xs ys : List Int) (k : Nat) (h : k < xs.length) : sub (xs.take (k + 1)) ys = (sub (xs.take k) ys && decide (xs.getD k 0 ∈ ys)) := by
  unfold sub
  rw [List.take_succ_eq_append_getElem h, List.all_append]
  simp [List.getD, List.getElem?_eq_getElem h]
theorem sub_false (xs ys : List Int) (k : Nat) (h : k < xs.length) (h2 : decide (xs.getD k 0 ∈ ys) = false) : sub xs ys = false := by
  unfold sub
  rw [List.all_eq_false]
  refine ⟨xs.getD k 0, ?_, by simpa using h2⟩
  simp [List.getD, List.getElem?_eq_getElem h]
end Bas
namespace Go.Proofs.YthpebfojkpnojaaGreat
open Go.RowKit Go.Maps
set_option linter.unusedVariables false
theorem ret_boolS {a b : Bool} (h : a = b) : Ending.returned (.bool a) = .returned (.bool b) := by rw [h]

set_option maxRecDepth 100000 in
set_option maxHeartbeats 1000000 in
theorem index82 (v : Int) (a : Option Addr) (n cap : Nat) (xs : List Int) (w : World) (hn : xs.length = n) (hN : n ≤ 35184372088832) (h : Lits w a xs) :
    Calls Tryz.prog 160 #[.slice a n cap, .int .i32 v] w fun e w' => IdxOut v xs e ∧ w' = w := by
  have HN := hid hn
  have HX := hid h
  have hsh : n = 0 ∨ ∃ b off, a = some ⟨b, off, none⟩ := by rw [← hn]; exact h.shape
  have HSH := hid hsh
  clear hn h hsh
  rcases HSH.out with h0 | ⟨b, off, rfl⟩
  · subst h0
    have HXS := hid (show xs = [] from List.eq_nil_of_length_eq_zero HN.out)
    go_enter Tryz.func160, Tryz.ntmps160
    go_wp2
    go_loop [8] (fun i => i = .int .i64 0) (fun _ => 0)
    case atStart => rfl
    case round =>
      obtain rfl := hrel
      go_wp2
      go_ret
      exact ⟨⟨-1, rfl, by rw [HXS.out]; simp⟩, rfl⟩
  · go_enter Tryz.func160, Tryz.ntmps160
    go_wp2
    go_loop [8] (fun i => ∃ k : Nat, k ≤ n ∧ i = .int .i64 k ∧ Hid (v ∉ xs.take k)) (fun i => n - (intOf i).toNat)
    case atStart => exact ⟨0, Nat.zero_le _, rfl, hid (by simp)⟩
    case round =>
      obtain ⟨k, hk, rfl, HT⟩ := hrel
      by_cases hlt : k < n
      · have hlt' : (k : Int) < n := by omega
        obtain ⟨b', off', e, _, hc, _⟩ := Row.at HX.out (j := k) (by rw [HN.out]; exact hlt)
        cases e
        by_cases hz : xs.getD k 0 = v
        · rw [hz] at hc
          have HM := hid (show v ∈ xs by rw [← hz]; exact getD_mem xs k (by rw [HN.out]; exact hlt))
          have hvv : (v == v) = true := by simp
          clear hz
          go_wp2
          go_ret
          exact ⟨⟨k, rfl, ⟨fun _ => HM.out, fun _ => by omega⟩⟩, rfl⟩
        · have HT' := hid (Bas.any_take v xs k (by rw [HN.out]; exact hlt) HT.out hz)
          have hz' : (v == xs.getD k 0) = false := by simp; exact fun e => hz e.symm
          have hz2 : ¬ v = xs.getD k 0 := fun e => hz e.symm
          generalize xs.getD k 0 = xv at *
          go_wp2
          go_round
          case rel => exact ⟨k + 1, by omega, by go_num, HT'⟩
          case measure => simp [intOf]; omega
      · have hge : ¬ (k : Int) < n := by omega
        obtain rfl : k = n := by omega
        have HT' := HT.out
        rw [List.take_of_length_le (by rw [HN.out]; exact Nat.le_refl _)] at HT'
        have HT2 := hid HT'
        clear HT'
        go_wp2
        go_ret
        exact ⟨⟨-1, rfl, ⟨fun h => by omega, fun h => absurd h HT2.out⟩⟩, rfl⟩
theorem contains66 (v : Int) (a : Option Addr) (n cap : Nat) (xs : List Int) (w : World) (hn : xs.length = n) (hN : n ≤ 35184372088832) (h : Lits w a xs) :
    Calls Tryz.prog 145 #[.slice a n cap, .int .i32 v] w fun e w' => e = .returned (.bool (decide (v ∈ xs))) ∧ w' = w := by
  have HC := hid (index82 v a n cap xs w hn hN h)
  clear hn h
  go_enter Tryz.func145, Tryz.ntmps145
  go_wp2_with (go_at_call 160; refine HC.out.mono ?_; rintro e w3 ⟨⟨i, rfl, hi⟩, hw⟩; rw [hw]; clear hw; have HI := hid hi; clear hi)
  go_ret
  exact ⟨by congr 2; simp [HI.out], rfl⟩

theorem holds59 (v : Int) (a : Option Addr) (n cap : Nat) (xs : List Int) (w : World) (hn : xs.length = n) (hN : n ≤ 35184372088832) (h : Lits w a xs) :
    Calls Tryz.prog 120 #[.slice a n cap, .int .i32 v] w fun e w' => e = .returned (.bool (decide (v ∈ xs))) ∧ w' = w := by
  have HC := hid (contains66 v a n cap xs w hn hN h)
  clear hn h
  generalize decide (v ∈ xs) = r at *
  go_enter Tryz.func120, Tryz.ntmps120
  go_wp2_with (go_at_call 145; refine HC.out.mono ?_; rintro e w3 ⟨rfl, hw⟩; rw [hw]; clear hw)
  go_ret
  exact ⟨rfl, rfl⟩
set_option maxHeartbeats 1000000 in
theorem asked48_few (a : Option Addr) (n cap : Nat) (t : Int) (w : World) (h : n ≤ 16 ∨ t ≤ 16) :
    Calls Tryz.prog 110 #[.slice a n cap, .int .i64 t] w fun e w' => e = .returned (.tuple #[.slice a n cap, .func (.func 120) #[] #[]]) ∧ w' = w := by
  by_cases h1 : n ≤ 16
  · have h1' : (n : Int) ≤ 16 := by omega
    clear h
    go_enter Tryz.func110, Tryz.ntmps110
    go_wp2
    go_ret2
    exact ⟨rfl, rfl⟩
  · have h1' : ¬ (n : Int) ≤ 16 := by omega
    have h2 : t ≤ 16 := by omega
    clear h
    go_enter Tryz.func110, Tryz.ntmps110
    go_wp2
    go_ret2
    exact ⟨rfl, rfl⟩
set_option maxHeartbeats 2000000 in
set_option maxRecDepth 100000 in
theorem subsumes27_few (a b : Option Addr) (n ca m cb : Nat) (xs ys : List Int) (w : World) (h : m ≤ 16 ∨ n ≤ 16) (hn : xs.length = n) (hm : ys.length = m) (hN : n ≤ 1099511627776) (hM : m ≤ 1099511627776) (hx : Lits w a xs) (hy : Lits w b ys) :
    Calls Tryz.prog 82 #[.slice a n ca, .slice b m cb] w fun e w' => e = .returned (.bool (Bas.sub xs ys)) ∧ w' = w := by
  have A := hid (asked48_few b m cb n w (by omega))
  have HX := hid hx
  have HN := hid hn
  have HC : Hid (∀ x, Calls Tryz.prog 120 #[.slice b m cb, .int .i32 x] w fun e w' => e = .returned (.bool (decide (x ∈ ys))) ∧ w' = w) := fun x => holds59 x b m cb ys w hm (by omega) hy
  clear hx hy hn hm h
  go_enter Tryz.func82, Tryz.ntmps82
  go_wp2_with fail
  refine A.out.mono ?_
  rintro e w' ⟨rfl, rfl⟩
  clear A
  go_wp2_with fail
  go_loop [18] (fun i => ∃ k : Nat, k ≤ n ∧ i = .int .i64 k ∧ Hid (Bas.sub (xs.take k) ys = true)) (fun i => n - (intOf i).toNat)
  case atStart => exact ⟨0, Nat.zero_le _, rfl, hid rfl⟩
  case round =>
    obtain ⟨k, hk, rfl, HV⟩ := hrel
    by_cases hlt : k < n
    · have hlt' : (k : Int) < n := by omega
      obtain ⟨b1, o1, e1, _, hc, hx1, hx2⟩ := Row.at HX.out (j := k) (by rw [HN.out]; exact hlt)
      subst e1
      have HS := hid (Bas.sub_take xs ys k (by rw [HN.out]; exact hlt))
      have HF := hid (Bas.sub_false xs ys k (by rw [HN.out]; exact hlt))
      generalize xs.getD k 0 = x at hc hx1 hx2 HS HF
      have C := hid (HC.out x)
      generalize decide (x ∈ ys) = r at C HS HF
      cases r
      · go_wp2_with (go_at_call 120; refine C.out.mono ?_; rintro e w' ⟨rfl, rfl⟩)
        go_ret
        exact ⟨ret_boolS (HF.out (by simp)).symm, rfl⟩
      · go_wp2_with (go_at_call 120; refine C.out.mono ?_; rintro e w' ⟨rfl, rfl⟩)
        go_round
        case rel => exact ⟨k + 1, by omega, by go_num, hid (by rw [HS.out, HV.out]; rfl)⟩
        case measure => simp [intOf]; omega
    · have hge : ¬ (k : Int) < n := by omega
      go_wp2_with fail
      go_ret
      have e : xs.take k = xs := List.take_of_length_le (by rw [HN.out]; omega)
      exact ⟨ret_boolS (by have h := HV.out; rw [e] at h; exact h.symm), rfl⟩
set_option maxHeartbeats 2000000 in
theorem spare37_by (id : Int) (a : Option Addr) (n c : Nat) (red : Bool) (xs : List Int) (id2 : Int) (a2 : Option Addr) (n2 c2 : Nat) (red2 : Bool) (ys : List Int) (w : World) (hz : id2 ≠ 0) (hf : n ≤ 16 ∨ n2 ≤ 16) (hn : xs.length = n) (hm : ys.length = n2) (hN : n ≤ 1099511627776) (hM : n2 ≤ 1099511627776) (hx : Lits w a xs) (hy : Lits w a2 ys) :
    Calls Tryz.prog 79 #[.agg #[.int .i64 id, .slice a n c, .bool red], .agg #[.int .i64 id2, .slice a2 n2 c2, .bool red2]] w fun e w' => e = .returned (.bool (decide (id2 ≠ id) && Bas.sub ys xs)) ∧ Below w.heap.size w w' := by
  have hB1 := below_box w (.cells #[.int .i64 id, .slice a n c, .bool red] 83)
  have hx1 := heap_alloc_new w (.cells #[.int .i64 id, .slice a n c, .bool red] 83)
  generalize hW1 : w.alloc (.cells #[.int .i64 id, .slice a n c, .bool red] 83) = W1 at hB1 hx1
  have hB2 := below_box W1 (.cells #[.int .i64 id2, .slice a2 n2 c2, .bool red2] 83)
  have hx2 := heap_alloc_new W1 (.cells #[.int .i64 id2, .slice a2 n2 c2, .bool red2] 83)
  generalize hW2 : W1.alloc (.cells #[.int .i64 id2, .slice a2 n2 c2, .bool red2] 83) = W2 at hB2 hx2
  have hs1 : W1.heap.size = w.heap.size + 1 := by rw [← hW1]; simp
  have hxx := (hB2.block w.heap.size (by omega)).trans hx1
  have x0 : W2.cell? ⟨w.heap.size, 0, none⟩ = some (.int .i64 id) := row_cell hxx 0
  have x1 : W2.cell? ⟨w.heap.size, 1, none⟩ = some (.slice a n c) := row_cell hxx 1
  have y0 : W2.cell? ⟨W1.heap.size, 0, none⟩ = some (.int .i64 id2) := row_cell hx2 0
  have y1 : W2.cell? ⟨W1.heap.size, 1, none⟩ = some (.slice a2 n2 c2) := row_cell hx2 1
  rw [hs1] at y0 y1
  have hB := hB1.trans (hB2.mono hB1.size)
  have HC := hid (subsumes27_few a2 a n2 c2 n c ys xs W2 hf hm hn hM hN (hy.below hB) (hx.below hB))
  have HB := hid hB
  have hz' : (id2 == 0) = false := by simpa using hz
  clear hxx hx1 hx2 hn hm hx hy hf hB hB1 hB2 hz
  generalize Bas.sub ys xs = r at HC ⊢
  by_cases hi : id2 = id
  · subst hi
    have hne : (id2 != id2) = false := by simp
    have hd : (decide (id2 ≠ id2) && r) = false := by simp
    rw [hd]
    go_enter Tryz.func79, Tryz.ntmps79
    go_wp2_with fail
    go_ret
    exact ⟨rfl, HB.out⟩
  · have hne : (id2 != id) = true := by simpa using hi
    have hd : (decide (id2 ≠ id) && r) = r := by simp [hi]
    rw [hd]
    go_enter Tryz.func79, Tryz.ntmps79
    go_wp2_with (go_at_call 82; refine HC.out.mono ?_; rintro e w3 ⟨rfl, hw⟩; rw [hw]; clear hw)
    go_ret
    exact ⟨rfl, HB.out⟩
end Go.Proofs.YthpebfojkpnojaaGreat

/- Drop, by another clause. -/
namespace Go.Proofs.YthpebfojkpnojaaGreat
open Go.RowKit Go.Maps
set_option linter.unusedVariables false
set_option linter.unusedSimpArgs false
set_option maxRecDepth 100000
theorem drop_ok {s : Bas.S} {id by_ : Int} (hb : by_ ≠ 0) (h : Bas.dropE s id by_ = 0) : ∃ e d, Bas.look s.live id = some e ∧ Bas.look s.live by_ = some d ∧ by_ ≠ id ∧ Bas.sub d.lits e.lits = true ∧ Bas.full s = false := by
  unfold Bas.dropE at h
  cases he : Bas.look s.live id with
  | none => rw [he] at h; cases h
  | some e =>
    rw [he] at h
    simp only [hb, if_false] at h
    cases hd : Bas.look s.live by_ with
    | none => rw [hd] at h; cases h
    | some d =>
      rw [hd] at h
      simp only at h
      by_cases h1 : by_ = id
      · rw [if_pos h1] at h; cases h
      · rw [if_neg h1] at h
        by_cases h2 : Bas.subs d.lits e.lits = true
        · rw [if_pos h2] at h
          by_cases h3 : Bas.full s = true
          · rw [if_pos h3] at h; cases h
          · exact ⟨e, d, rfl, rfl, h1, by rw [Bas.sub_subs]; exact h2, by simpa using h3⟩
        · rw [if_neg h2] at h; cases h
set_option maxHeartbeats 8000000 in
theorem drop10_ok {M : Nat → Prop} {bb K : Nat} {s : Bas.S} {W : World} (h : Bs M bb K s W) (hK : K < maxLen) (hL : s.last ≤ 100000000) (hlit : ∀ e ∈ s.live, e.lits.length ≤ 16) (hn : s.rules.length ≤ 1000000000) (id by_ : Int) (hi : I64 id) (hj : I64 by_) (hb0 : by_ ≠ 0) (h0 : Bas.dropE s id by_ = 0) :
    Calls Tryz.prog 24 #[.pointer (some ⟨bb, 0, none⟩), .int .i64 id, .int .i64 by_] W fun en w' => ErrOut M bb (K + 1) 0 (Bas.dropS s id by_) W en w' := by
  obtain ⟨e, d, he, hd, hne, hsub, hfl⟩ := drop_ok hb0 h0
  obtain ⟨M0, hM0⟩ : ∃ M0 : Nat → Prop, M0 = fun g => M g ∧ g < W.heap.size := ⟨_, rfl⟩
  have hc := h.cap
  rw [← hM0] at hc
  have hM0l : ∀ g, M0 g → M g ∧ g < W.heap.size := fun g hg => by rw [hM0] at hg; exact hg
  have hc' := hc
  obtain ⟨hv, bm, br, k, k2, f, g, rv, sv, tv, R, Z, rw', ids, iv, hb, m1, m2, m3, hne2, ⟨a1, a2, a3⟩, _⟩ := hc'
  have x3 : W.cell? ⟨bb, 3, none⟩ = some (.map (some bm)) := row_cell hb 3
  have hlk := a1.look hi
  have hE := a3 id hi
  have hE2 := a3 by_ hj
  rw [he] at hE
  rw [hd] at hE2
  obtain ⟨a9, c9, hf, hli, hcc⟩ := hE
  obtain ⟨b9, d9, hf2, hli2, hcc2⟩ := hE2
  have hB1 := below_box W (.cells #[.int .i64 id, .slice a9 e.lits.length c9, .bool e.red] 83)
  have hlk2 := (a1.same (hB1.block bm a1.lt)).look hj
  have x3b : (W.alloc (.cells #[.int .i64 id, .slice a9 e.lits.length c9, .bool e.red] 83)).cell? ⟨bb, 3, none⟩ = some (.map (some bm)) := (hB1.cell (p := ⟨bb, 3, none⟩) (cell_lt x3)).trans x3
  have hbb : (by_ != 0) = true := by simpa using hb0
  have hme := Bas.look_mem he
  have hmd := Bas.look_mem hd
  rw [hf] at hlk
  rw [hf2] at hlk2
  simp only [Option.getD_some, Option.isSome_some, entV, hme.2] at hlk
  simp only [Option.getD_some, Option.isSome_some, entV, hmd.2] at hlk2
  have hle := hlit e hme.1
  have hld := hlit d hmd.1
  have C28 := hid (fun X (hX : Below W.heap.size W X) => full28 (hc.below hX))
  rw [hfl] at C28
  have C37 := hid (fun X (hX : Below W.heap.size W X) => spare37_by id a9 e.lits.length c9 e.red e.lits by_ b9 d.lits.length d9 d.red d.lits X hb0 (.inl hle) rfl rfl (by omega) (by omega) (hli.1.below hX) (hli2.1.below hX))
  rw [hsub] at C37
  simp only [hne, ne_eq, not_false_eq_true, decide_true, Bool.and_self] at C37
  have hredOf : Bas.redOf s id = e.red := by simp [Bas.redOf, he]
  have hS2 : Bas.dropS s id by_ = { s with live := Bas.delL (if e.red = true then s.live else Bas.keepL s.live by_) id, rules := s.rules ++ [⟨4, id, by_, false, [], []⟩] } := by
    unfold Bas.dropS
    rw [if_pos h0, hredOf]
    simp [hb0]
  rw [hS2]
  generalize hL2 : (if e.red = true then s.live else Bas.keepL s.live by_) = L2
  have C35 := hid (fun X (hX : Below W.heap.size W X) => keep35 (hc.below hX) hK by_ hj d hd)
  have C36 := hid (fun X (hX : Bs M0 bb (K + 1) { s with live := L2 } X) (hlx : LI M0 X a9 e.lits) => leave36 hX hL id hi e.red a9 e.lits.length c9 e.lits rfl (by omega) hlx)
  have C33 := hid (fun (W1 : World) (M1 : Nat → Prop) (h1 : Bs M1 bb (K + 1) { s with live := Bas.delL L2 id } W1) => note33 h1 ⟨4, id, by_, false, [], []⟩ none 0 none 0 ⟨by show (0 : Int) ≤ 4; decide, by show (4 : Int) < 256; decide⟩ ⟨Row.nil _ _ _ _ _, fun _ _ e => by cases e⟩ ⟨Row.nil _ _ _ _ _, fun _ _ e => by cases e⟩ hn)
  have OUT := hid (fun (W1 w' : World) (M1 : Nat → Prop) (hF : Fm M0 W W1) (hM1 : Mn W M0 M1) (ho : NoteOut M1 bb (K + 1) { s with live := Bas.delL L2 id, rules := s.rules ++ [⟨4, id, by_, false, [], []⟩] } W1 (.returned (.tuple #[])) w') => show ErrOut M bb (K + 1) 0 { s with live := Bas.delL L2 id, rules := s.rules ++ [⟨4, id, by_, false, [], []⟩] } W (.returned (.int .i64 0)) w' from by
    obtain ⟨_, M', o1, o2, o3⟩ := ho
    have f := hF.trans o2 hM1
    have mn := hM1.trans o3 hF.size
    exact ⟨rfl, M', o1, ⟨f.os, f.tape, f.output, f.size, fun q hq hnm => f.block q hq (fun hm => hnm (hM0l q hm).1)⟩, fun q hq => by
      rcases mn q hq with h9 | h9
      · exact .inl (hM0l q h9).1
      · exact .inr h9⟩)
  have HXX := hid (fun (B : Obj) w3 (hb3 : Below ((W.alloc (.cells #[.int .i64 id, .slice a9 e.lits.length c9, .bool e.red] 83)).alloc B).heap.size ((W.alloc (.cells #[.int .i64 id, .slice a9 e.lits.length c9, .bool e.red] 83)).alloc B) w3) => show w3.heap[W.heap.size]? = some (.cells #[.int .i64 id, .slice a9 e.lits.length c9, .bool e.red] 83 (0, 0)) ∧ Below W.heap.size W w3 from
    ⟨(hb3.block W.heap.size (by simp; omega)).trans (((below_box (W.alloc (.cells #[.int .i64 id, .slice a9 e.lits.length c9, .bool e.red] 83)) B).block W.heap.size (by simp)).trans (heap_alloc_new W _)),
      ((below_box W _).trans ((below_box _ B).mono (below_box W _).size)).trans (hb3.mono (by simp; omega))⟩)
  have HMW := hid (fun g hg => (hM0l g hg).2)
  have HLE := hid hli
  have HC := hid hc
  have HY0 := hid (fun (X : World) (hX : Below W.heap.size W X) => show X.cell? ⟨bb, 3, none⟩ = some (.map (some bm)) ∧ True from ⟨(hX.cell (p := ⟨bb, 3, none⟩) (cell_lt x3)).trans x3, trivial⟩)
  cases her : e.red with
  | true =>
    rw [her] at hlk hlk2 x3b C37 C36 HXX hL2
    rw [if_pos rfl] at hL2
    subst hL2
    have C36e := hid (fun X (hX : Bs M0 bb (K + 1) s X) (hlx : LI M0 X a9 e.lits) => C36.out X hX hlx)
    clear C36
    have C36 := C36e
    clear C36e
    have HCM := hid (fun X (hX : Below W.heap.size W X) => show Bs M0 bb (K + 1) s X from (HC.out.more (Nat.le_succ K)).below hX)
    clear h hc hB1 a1 a3 hb he hd hf hf2 hme hmd hlit hli hli2 hn hM0 hM0l C35 hredOf hS2 hfl hsub her
    generalize e.lits.length = el at *
    generalize d.lits.length = dl at *
    generalize d.red = dr at *
    go_enter Tryz.func24, Tryz.ntmps24
    go_wp2_with (first
      | (go_at_call 79; go_loud (refine (C37.out _ ((below_box W _).trans ((below_box _ _).mono (below_box W _).size))).mono ?_; clear C37; rintro e w3 ⟨rfl, hb3⟩
                                 have HB3 := hid (HXX.out _ _ hb3)
                                 have z0 : w3.cell? ⟨W.heap.size, 0, none⟩ = some (.int .i64 id) := row_cell HB3.out.1 0
                                 have z1 : w3.cell? ⟨W.heap.size, 1, none⟩ = some (.slice a9 el c9) := row_cell HB3.out.1 1
                                 have z2 : w3.cell? ⟨W.heap.size, 2, none⟩ = some (.bool true) := row_cell HB3.out.1 2
                                 clear hb3))
      | (go_at_call 66; go_loud (refine (C28.out _ HB3.out.2).mono ?_; clear C28; rintro e w4 ⟨rfl, hw4⟩; rw [hw4]; clear hw4))
      | (go_at_call 78; go_loud (refine (C36.out _ (HCM.out _ HB3.out.2) (HLE.out.below HB3.out.2)).mono ?_; clear C36; rintro e w4 ⟨rfl, M4, hB4, hF4, hN4⟩; have HB4 := hid hB4; have HF4 := hid (show Fm M0 W w4 ∧ Mn W M0 M4 from ⟨(Fm.of_below HB3.out.2).trans hF4 (Mn.refl _ _), (Mn.refl _ _).trans hN4 HB3.out.2.size⟩); clear hB4 hF4 hN4))
      | (go_at_call 69; go_loud (refine (C33.out _ _ HB4.out).mono ?_; clear C33; rintro e w5 ho; have hen := ho.1; subst hen; have HO5 := hid (OUT.out _ _ _ HF4.out.1 HF4.out.2 ho); clear ho)))
    go_ret
    exact HO5.out
  | false =>
    rw [her] at hlk hlk2 x3b C37 C36 HXX hL2
    rw [if_neg (by decide)] at hL2
    subst hL2
    clear h hc hB1 a1 a3 hb he hd hf hf2 hme hmd hlit hli hli2 hn hM0 hM0l hredOf hS2 hfl hsub her
    generalize e.lits.length = el at *
    generalize d.lits.length = dl at *
    generalize d.red = dr at *
    go_enter Tryz.func24, Tryz.ntmps24
    go_wp2_with (first
      | (go_at_call 79; go_loud (refine (C37.out _ ((below_box W _).trans ((below_box _ _).mono (below_box W _).size))).mono ?_; clear C37; rintro e w3 ⟨rfl, hb3⟩
                                 have HB3 := hid (HXX.out _ _ hb3)
                                 have z0 : w3.cell? ⟨W.heap.size, 0, none⟩ = some (.int .i64 id) := row_cell HB3.out.1 0
                                 have z1 : w3.cell? ⟨W.heap.size, 1, none⟩ = some (.slice a9 el c9) := row_cell HB3.out.1 1
                                 have z2 : w3.cell? ⟨W.heap.size, 2, none⟩ = some (.bool false) := row_cell HB3.out.1 2
                                 clear hb3))
      | (go_at_call 66; go_loud (refine (C28.out _ HB3.out.2).mono ?_; clear C28; rintro e w4 ⟨rfl, hw4⟩; rw [hw4]; clear hw4))
      | (go_at_call 77; go_loud (refine (C35.out _ HB3.out.2).mono ?_; clear C35; rintro e w4 ⟨rfl, hB4, hF4⟩
                                 have HK4 := hid hB4
                                 have HG4 := hid ((Fm.of_below HB3.out.2).trans hF4 (Mn.refl _ _))
                                 have hh4 := (hF4.block W.heap.size (lt_of_blk HB3.out.1) (fun hm => Nat.lt_irrefl _ (HMW.out _ hm))).trans HB3.out.1
                                 have v0 : w4.cell? ⟨W.heap.size, 0, none⟩ = some (.int .i64 id) := row_cell hh4 0
                                 have v1 : w4.cell? ⟨W.heap.size, 1, none⟩ = some (.slice a9 el c9) := row_cell hh4 1
                                 have v2 : w4.cell? ⟨W.heap.size, 2, none⟩ = some (.bool false) := row_cell hh4 2
                                 clear hB4 hF4 hh4 z0 z1 z2))
      | (go_at_call 78; go_loud (refine (C36.out _ HK4.out (HLE.out.fm HG4.out (Mn.refl _ _))).mono ?_; clear C36; rintro e w5 ⟨rfl, M4, hB5, hF5, hN5⟩; have HB4 := hid hB5; have HF4 := hid (show Fm M0 W w5 ∧ Mn W M0 M4 from ⟨HG4.out.trans hF5 (Mn.refl _ _), (Mn.refl _ _).trans hN5 HG4.out.size⟩); clear hB5 hF5 hN5))
      | (go_at_call 69; go_loud (refine (C33.out _ _ HB4.out).mono ?_; clear C33; rintro e w6 ho; have hen := ho.1; subst hen; have HO5 := hid (OUT.out _ _ _ HF4.out.1 HF4.out.2 ho); clear ho)))
    go_ret
    exact HO5.out
end Go.Proofs.YthpebfojkpnojaaGreat

