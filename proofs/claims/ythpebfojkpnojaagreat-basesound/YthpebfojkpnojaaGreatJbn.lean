/- Clauses as sets: what a row in order has, found by halving; subsumption. -/
import Derived.Test.YthpebfojkpnojaaGreatJbm
/- Clauses as sets: what a row in order has, found by halving; subsumption. -/
namespace Cnf

theorem count_split (p s : List Int) (l : Int) (h : (p ++ l :: s).Pairwise LtL) : (p ++ l :: s).countP (fun y => decide (cmpL y l < 0)) = p.length := by
  have h' := List.pairwise_append.1 h
  have h2 := List.pairwise_cons.1 h'.2.1
  rw [List.countP_append, List.countP_cons]
  have e1 : p.countP (fun y => decide (cmpL y l < 0)) = p.length := by
    rw [List.countP_eq_length]
    intro x hx
    rw [decide_eq_true_iff, cmpL_neg]
    exact h'.2.2 x hx l (by simp)
  have e2 : s.countP (fun y => decide (cmpL y l < 0)) = 0 := by
    rw [List.countP_eq_zero]
    intro x hx
    rw [decide_eq_true_iff, cmpL_neg]
    intro hlt
    exact LtL.irrefl _ (hlt.trans (h2.1 x hx))
  have e3 : decide (cmpL l l < 0) = false := by rw [decide_eq_false_iff_not, cmpL_neg]; exact LtL.irrefl _
  rw [e1, e2, e3]
  simp

theorem found_iff (ys : List Int) (l : Int) (h : ys.Pairwise LtL) :
    (decide (ys.countP (fun y => decide (cmpL y l < 0)) < ys.length) && decide (cmpL (ys.getD (ys.countP (fun y => decide (cmpL y l < 0))) 0) l = 0)) = has ys l := by
  rw [Bool.eq_iff_iff, Bool.and_eq_true, decide_eq_true_iff, decide_eq_true_iff, has_iff, cmpL_zero]
  constructor
  · rintro ⟨h1, h2⟩
    rw [← h2]
    exact getD_mem ys _ h1
  · intro hm
    obtain ⟨p, s, rfl⟩ := List.append_of_mem hm
    rw [count_split p s l h]
    simp

def sub (xs ys : List Int) : Bool := xs.all (fun x => has ys x)
theorem sub_iff (xs ys : List Int) : sub xs ys = true ↔ ∀ x ∈ xs, x ∈ ys := by simp [sub, has_iff]
theorem sub_take (xs ys : List Int) (k : Nat) (h : k < xs.length) : sub (xs.take (k + 1)) ys = (sub (xs.take k) ys && has ys (xs.getD k 0)) := by
  rw [take_snoc xs k h]; simp [sub]
theorem sub_false (xs ys : List Int) (k : Nat) (h : k < xs.length) (hf : has ys (xs.getD k 0) = false) : sub xs ys = false := by
  cases hs : sub xs ys
  · rfl
  · have := (sub_iff xs ys).1 hs _ (getD_mem xs k h)
    rw [← has_iff, hf] at this
    cases this

end Cnf
namespace Go.Proofs.YthpebfojkpnojaaGreat.Cf
open Go.RowKit Go.Lib Go.Sort Go.Shelf
set_option linter.unusedVariables false
set_option maxRecDepth 100000

theorem owns_below {w w' : World} {base : Nat} {e : TypeId} {v : Value} {n : Nat} {xs : List Value} (h : w.ownsRow base e 1 v n xs) (hb : Below w.heap.size w w') : w'.ownsRow base e 1 v n xs :=
  h.kept (row := none) ⟨hb.os, hb.tape, hb.output, hb.size, fun k hk _ => hb.block k hk⟩ (by cases v.ownBlock <;> simp)

set_option maxHeartbeats 1000000 in
theorem search67 (blk off cap n : Nat) (ys : List Int) (l : Int) (w : World) (hl1 : -2147483648 ≤ l) (hl2 : l ≤ 2147483647) (hyb : ∀ x ∈ ys, -2147483648 ≤ x ∧ x ≤ 2147483647) (hs : ys.Pairwise Cnf.LtL) (hn : ys.length = n) (hN : n ≤ 1099511627776)
    (hH : Holds Cnf.enc32 w blk off (Cnf.to32 ys).toArray) (hblk : blk < w.heap.size) :
    Calls Tryz.prog 146 #[.slice (some ⟨blk, off, none⟩) n cap, .int .i32 l, .func (.func 157) #[] #[]] w fun e w' => (∃ i : Int, e = .returned (.tuple #[.int .i64 i, .bool (Cnf.has ys l)])) ∧ Below w.heap.size w w' := by
  have eg : ∀ args w, (callFunc 157 args).run Tryz.prog w = .ok (.enter 157 args) w := enters_of Tryz.func157 (by kernel_rfl) rfl
  have hsz : (Cnf.to32 ys).toArray.size = n := by simp [Cnf.to32, hn]
  have hget : ∀ i, i < n → (Cnf.to32 ys).toArray[i]!.toInt = ys.getD i 0 := by
    intro i hi
    have hi' : i < ys.length := by omega
    have hb := hyb ys[i] (List.getElem_mem hi')
    simp [Cnf.to32, hi', List.getD, Cnf.toInt_to32 _ hb.1 hb.2]
  have hcmp : CmpLaysT Tryz.prog 157 #[] Cnf.enc32 (.int .i32 l) (fun x => Cnf.cmpL x.toInt l) blk off (Cnf.to32 ys).toArray.size w := fun m os dk hdk x =>
    (cmp83 x.toInt l _ (Cnf.bounds32 x).1 (Cnf.bounds32 x).2 hl1 hl2).mono fun _ _ ⟨he, hw⟩ => ⟨he, 0, #[], by rw [hw, grow_empty]; rfl⟩
  have h := Any.slices_BinarySearchFunc Tryz.bsearchL Cnf.enc32 (fun _ => rfl) (.int .i32 l) (fun x => Cnf.cmpL x.toInt l) 157 #[] blk off cap (Cnf.to32 ys).toArray w eg hcmp hH hblk (by rw [hsz]; omega) (by
    intro a b hab hb hlt
    rw [hsz] at hb
    rw [hget b hb, Cnf.cmpL_neg] at hlt
    rw [hget a (by omega), Cnf.cmpL_neg]
    rcases Nat.lt_or_eq_of_le hab with h | h
    · have := List.pairwise_iff_getElem.1 hs a b (by omega) (by omega) h
      have e1 : ys.getD a 0 = ys[a] := by simp [List.getD, show a < ys.length by omega]
      have e2 : ys.getD b 0 = ys[b] := by simp [List.getD, show b < ys.length by omega]
      rw [e1]; rw [e2] at hlt
      exact this.trans hlt
    · rw [h]; exact hlt)
  rw [hsz] at h
  refine Calls.mono (f := 146) h ?_
  rintro e w' ⟨rfl, m, os, rfl⟩
  have hc : (Cnf.to32 ys).toArray.toList.countP (fun x => decide (Cnf.cmpL x.toInt l < 0)) = ys.countP (fun y => decide (Cnf.cmpL y l < 0)) := by
    conv => rhs; rw [← Cnf.back_to32 ys hyb]
    rw [List.countP_map]
    rfl
  have hB : Below w.heap.size w (sortWorld Cnf.enc32 w blk off m (Cnf.to32 ys).toArray os) := by
    have e : sortWorld Cnf.enc32 w blk off m (Cnf.to32 ys).toArray os = grow (w.drewN m) os := by
      unfold sortWorld
      rw [putRow_self _ _ _ _ _ (holds_ahead _ _ _ _ _ _ hH)]
      rfl
    rw [e]
    exact below_grow ((Drawn.drewN (Drawn.refl w) m).below (Below.refl _ _)) (Nat.le_refl _) os
  refine ⟨⟨((ys.countP (fun y => decide (Cnf.cmpL y l < 0)) : Nat) : Int), ?_⟩, hB⟩
  rw [hc]
  refine tup2 rfl (congrArg Value.bool ?_)
  rw [← Cnf.found_iff ys l hs, hn]
  by_cases hlt : ys.countP (fun y => decide (Cnf.cmpL y l < 0)) < n
  · rw [hget _ hlt]
  · simp [hlt]

set_option maxHeartbeats 1000000 in
theorem finds60 (v : Value) (base n : Nat) (ys : List Int) (l : Int) (w : World) (hl1 : -2147483648 ≤ l) (hl2 : l ≤ 2147483647) (hyb : ∀ x ∈ ys, -2147483648 ≤ x ∧ x ≤ 2147483647) (hs : ys.Pairwise Cnf.LtL) (hne : v ≠ .slice none 0 0) (hN : n ≤ 1099511627776)
    (hown : w.ownsRow base 66 1 v n (ys.map (Value.int .i32))) :
    Calls Tryz.prog 121 #[v, .int .i32 l] w fun e w' => e = .returned (.bool (Cnf.has ys l)) ∧ Below w.heap.size w w' := by
  rw [← Cnf.enc_to32 ys hyb] at hown
  obtain ⟨g, cap, rfl, hbg, hlt, hnc, hcm, hl32, hH⟩ := holds_of_ownsRow hown hne
  have hyl : ys.length = n := by simpa [Cnf.to32] using hl32
  have H := hid (search67 g 0 cap n ys l w hl1 hl2 hyb hs hyl hN hH hlt)
  clear hown hH hl32 hyl hyb hs
  generalize Cnf.has ys l = r at H
  go_enter Tryz.func121, Tryz.ntmps121
  go_wp2_with fail
  refine (order68 _).mono ?_
  rintro e w' ⟨rfl, rfl⟩
  go_wp2_with fail
  refine H.out.mono ?_
  rintro e w1 ⟨⟨i, rfl⟩, hb⟩
  have HB := hid hb
  clear hb
  go_wp2
  go_ret
  exact ⟨rfl, HB.out⟩

set_option maxHeartbeats 1000000 in
theorem asked48_many (a : Option Addr) (n cap : Nat) (xs : List Int) (t : Int) (w : World) (h1 : 16 < n) (h2 : 16 < t) (hn : xs.length = n) (hN : n ≤ 1099511627776) (hx : Lits w a xs) :
    Calls Tryz.prog 110 #[.slice a n cap, .int .i64 t] w fun e w' => ∃ v' ys, e = .returned (.tuple #[v', .func (.func 121) #[] #[]]) ∧ Cnf.Nrm xs ys ∧ w'.ownsRow w.heap.size 66 1 v' ys.length (ys.map (Value.int .i32)) ∧ Below w.heap.size w w' ∧ ys.length ≤ n := by
  have H := hid (normal53 a n cap xs w hn hN hx)
  have h1' : ¬ (n : Int) ≤ 16 := by omega
  have h2' : ¬ t ≤ 16 := by omega
  clear hn hx h1 h2
  go_enter Tryz.func110, Tryz.ntmps110
  go_wp2_with fail
  refine H.out.mono ?_
  rintro e w1 ⟨v', ys, rfl, g1, g2, g3, g4⟩
  have G := hid (And.intro g1 (And.intro g2 (And.intro g3 g4)))
  clear g1 g2 g3 g4 H
  go_wp2
  go_ret2
  exact ⟨v', ys, tup2 rfl rfl, G.out.1, G.out.2.1, G.out.2.2.1, G.out.2.2.2⟩


theorem sub_bas (xs ys : List Int) : Bas.sub xs ys = Cnf.sub xs ys := by
  rw [Bool.eq_iff_iff, Cnf.sub_iff]
  simp [Bas.sub]
theorem subsumes27_few (a b : Option Addr) (n ca m cb : Nat) (xs ys : List Int) (w : World) (h : m ≤ 16 ∨ n ≤ 16) (hn : xs.length = n) (hm : ys.length = m) (hN : n ≤ 1099511627776) (hM : m ≤ 1099511627776) (hx : Lits w a xs) (hy : Lits w b ys) :
    Calls Tryz.prog 82 #[.slice a n ca, .slice b m cb] w fun e w' => e = .returned (.bool (Cnf.sub xs ys)) ∧ w' = w := by
  rw [← sub_bas]
  exact YthpebfojkpnojaaGreat.subsumes27_few a b n ca m cb xs ys w h hn hm hN hM hx hy

set_option maxHeartbeats 2000000 in
theorem subsumes27_many (a b : Option Addr) (n ca m cb : Nat) (xs ys : List Int) (w : World) (h1 : 16 < m) (h2 : 16 < n) (hn : xs.length = n) (hm : ys.length = m) (hN : n ≤ 1099511627776) (hM : m ≤ 1099511627776) (hx : Lits w a xs) (hy : Lits w b ys) :
    Calls Tryz.prog 82 #[.slice a n ca, .slice b m cb] w fun e w' => e = .returned (.bool (Cnf.sub xs ys)) ∧ Below w.heap.size w w' := by
  have A := hid (asked48_many b m cb ys n w h1 (by omega) hm hM hy)
  have HX := hid hx
  have HN := hid hn
  have HYB := hid hy.1
  have hne : ys ≠ [] := by intro e; subst e; simp at hm; omega
  have HNE := hid hne
  clear hx hy hn hm hne
  go_enter Tryz.func82, Tryz.ntmps82
  go_wp2_with fail
  refine A.out.mono ?_
  rintro e w1 ⟨v, zs, rfl, hN1, hO1, hB1, hl1⟩
  clear A
  have hv : v ≠ .slice none 0 0 := by
    intro e
    obtain ⟨y, hy⟩ := List.exists_mem_of_ne_nil ys HNE.out
    have hz := (hN1.2 y).2 hy
    rcases hO1.2 with ⟨_, h0⟩ | ⟨g, cap, cur, hv, _⟩
    · rw [List.length_eq_zero_iff.1 h0] at hz; simp at hz
    · rw [e] at hv; cases hv
  have HC : Hid (∀ (x : Int) (W : World), -2147483648 ≤ x → x ≤ 2147483647 → Below w1.heap.size w1 W → Calls Tryz.prog 121 #[v, .int .i32 x] W fun e w' => e = .returned (.bool (Cnf.has ys x)) ∧ Below w1.heap.size w1 w') := by
    intro x W hx1 hx2 hW
    have h := finds60 v w.heap.size zs.length zs x W hx1 hx2 (fun z hz => HYB.out z ((hN1.2 z).1 hz)) hN1.1 hv (by omega) (owns_below hO1 hW)
    have e : Cnf.has zs x = Cnf.has ys x := by rw [Bool.eq_iff_iff, Cnf.has_iff, Cnf.has_iff]; exact hN1.2 x
    rw [e] at h
    exact h.mono fun _ _ ⟨he, hb⟩ => ⟨he, hW.trans (hb.mono hW.size)⟩
  have HB := hid hB1
  have HX1 : Hid (∀ W, Below w1.heap.size w1 W → Lits W a xs) := fun W hW => (HX.out.below HB.out).below hW
  clear hN1 hO1 hB1 hv hl1 HX
  go_wp2
  go_loopw [18] (fun i wr => ∃ k : Nat, k ≤ n ∧ i = .int .i64 k ∧ Cnf.sub (xs.take k) ys = true ∧ Below w1.heap.size w1 wr) (fun i _ => n - (intOf i).toNat)
  case atStart => exact ⟨0, Nat.zero_le _, rfl, rfl, Below.refl _ _⟩
  case round =>
    obtain ⟨k, hk, rfl, hv, hW⟩ := hrel
    have HV := hid hv
    have HW := hid hW
    clear hv hW
    by_cases hlt : k < n
    · obtain ⟨b1, o1, rfl, hc, hx1, hx2⟩ := litAt (HX1.out _ HW.out) (k := k) (by rw [HN.out]; exact hlt)
      have HS := hid (Cnf.sub_take xs ys k (by rw [HN.out]; exact hlt))
      have HF := hid (Cnf.sub_false xs ys k (by rw [HN.out]; exact hlt))
      generalize xs.getD k 0 = x at hc hx1 hx2 HS HF
      have C := hid (HC.out x _ hx1 hx2 HW.out)
      generalize Cnf.has ys x = r at C HS HF
      cases r
      · go_wp2_with (go_at_call 121; refine C.out.mono ?_; rintro e w' ⟨rfl, hw2⟩)
        go_ret
        exact ⟨ret_bool (HF.out (by simp)).symm, HB.out.trans (hw2.mono HB.out.size)⟩
      · go_wp2_with (go_at_call 121; refine C.out.mono ?_; rintro e w' ⟨rfl, hw2⟩)
        go_roundw
        case rel => exact ⟨k + 1, by omega, by go_num, by rw [HS.out, HV.out]; rfl, hw2⟩
        case measure => simp [intOf]; omega
    · go_wp2
      go_ret
      have e : xs.take k = xs := List.take_of_length_le (by rw [HN.out]; omega)
      exact ⟨ret_bool (by have h := HV.out; rw [e] at h; exact h.symm), HB.out.trans (HW.out.mono HB.out.size)⟩

theorem subsumes27 (a b : Option Addr) (n ca m cb : Nat) (xs ys : List Int) (w : World) (hn : xs.length = n) (hm : ys.length = m) (hN : n ≤ 1099511627776) (hM : m ≤ 1099511627776) (hx : Lits w a xs) (hy : Lits w b ys) :
    Calls Tryz.prog 82 #[.slice a n ca, .slice b m cb] w fun e w' => e = .returned (.bool (Cnf.sub xs ys)) ∧ Below w.heap.size w w' := by
  by_cases h : m ≤ 16 ∨ n ≤ 16
  · exact (subsumes27_few a b n ca m cb xs ys w h hn hm hN hM hx hy).mono fun _ _ ⟨he, hw⟩ => ⟨he, by rw [hw]; exact Below.refl _ _⟩
  · exact subsumes27_many a b n ca m cb xs ys w (by omega) (by omega) hn hm hN hM hx hy

end Go.Proofs.YthpebfojkpnojaaGreat.Cf

/- spare, whole. -/
namespace Go.Proofs.YthpebfojkpnojaaGreat
open Go.RowKit Go.Maps
set_option linter.unusedVariables false
set_option linter.unusedSimpArgs false
set_option maxRecDepth 100000
theorem both_eq (xs : List Int) (h0 : ∀ x ∈ xs, x ≠ 0) : Cnf.both xs = Bas.both xs := by
  rw [Bool.eq_iff_iff]
  simp only [Cnf.both, Bas.both, List.any_eq_true, Bool.and_eq_true, decide_eq_true_eq, List.contains_iff_mem]
  constructor
  · rintro ⟨x, hx, _, h⟩
    exact ⟨x, hx, h⟩
  · rintro ⟨x, hx, h⟩
    have := h0 x hx
    rcases Int.lt_or_gt_of_ne this with h1 | h1
    · exact ⟨-x, h, by omega, by rw [Int.neg_neg]; exact hx⟩
    · exact ⟨x, hx, h1, h⟩
def spareB (id : Int) (xs : List Int) (id2 : Int) (ys : List Int) : Bool := if id2 = 0 then Bas.both xs else decide (id2 ≠ id) && Bas.subs ys xs
set_option maxHeartbeats 4000000 in
theorem spare37 (id : Int) (a : Option Addr) (n c : Nat) (red : Bool) (xs : List Int) (id2 : Int) (a2 : Option Addr) (n2 c2 : Nat) (red2 : Bool) (ys : List Int) (w : World) (h0 : ∀ x ∈ xs, x ≠ 0) (hn : xs.length = n) (hm : ys.length = n2) (hN : n ≤ 1099511627776) (hM : n2 ≤ 1099511627776) (hx : Lits w a xs) (hy : Lits w a2 ys) :
    Calls Tryz.prog 79 #[.agg #[.int .i64 id, .slice a n c, .bool red], .agg #[.int .i64 id2, .slice a2 n2 c2, .bool red2]] w fun e w' => e = .returned (.bool (spareB id xs id2 ys)) ∧ Below w.heap.size w w' := by
  have hB1 := below_box w (.cells #[.int .i64 id, .slice a n c, .bool red] 83)
  have hx1 := heap_alloc_new w (.cells #[.int .i64 id, .slice a n c, .bool red] 83)
  generalize hW1 : w.alloc (.cells #[.int .i64 id, .slice a n c, .bool red] 83) = W1 at hB1 hx1
  have hB2 := below_box W1 (.cells #[.int .i64 id2, .slice a2 n2 c2, .bool red2] 83)
  have hx2 := heap_alloc_new W1 (.cells #[.int .i64 id2, .slice a2 n2 c2, .bool red2] 83)
  generalize hW2 : W1.alloc (.cells #[.int .i64 id2, .slice a2 n2 c2, .bool red2] 83) = W2 at hB2 hx2
  have hs1 : W1.heap.size = w.heap.size + 1 := by rw [← hW1]; simp
  have hxx := (hB2.block w.heap.size (by omega)).trans hx1
  have x0 : W2.cell? ⟨w.heap.size, 0, none⟩ = some (.int .i64 id) := row_cell hxx 0
  have x1 : W2.cell? ⟨w.heap.size, 1, none⟩ = some (.slice a n c) := row_cell hxx 1
  have y0 : W2.cell? ⟨W1.heap.size, 0, none⟩ = some (.int .i64 id2) := row_cell hx2 0
  have y1 : W2.cell? ⟨W1.heap.size, 1, none⟩ = some (.slice a2 n2 c2) := row_cell hx2 1
  rw [hs1] at y0 y1
  have hB := hB1.trans (hB2.mono hB1.size)
  have HC := hid (Cf.subsumes27 a2 a n2 c2 n c ys xs W2 hm hn hM hN (hy.below hB) (hx.below hB))
  have HNm := hid (Cf.normal53 a n c xs W2 hn hN (hx.below hB))
  rw [← Cf.sub_bas, Bas.sub_subs] at HC
  rw [both_eq xs h0] at HNm
  have HB := hid hB
  clear hxx hx1 hx2 hn hm hx hy hB hB1 hB2
  unfold spareB
  generalize Bas.subs ys xs = r at HC ⊢
  generalize Bas.both xs = q at HNm ⊢
  by_cases hz : id2 = 0
  · subst hz
    rw [if_pos rfl]
    clear HC
    go_enter Tryz.func79, Tryz.ntmps79
    go_wp2_with (go_at_call 109; refine HNm.out.mono ?_; clear HNm; rintro e w3 ⟨v', zs, rfl, _, _, hb, _⟩; have HB3 := hid hb; clear hb)
    go_ret
    exact ⟨rfl, HB.out.trans (HB3.out.mono HB.out.size)⟩
  · rw [if_neg hz]
    have hz' : (id2 == 0) = false := by simpa using hz
    clear HNm hz
    by_cases hi : id2 = id
    · subst hi
      have hne : (id2 != id2) = false := by simp
      have hd : (decide (id2 ≠ id2) && r) = false := by simp
      rw [hd]
      go_enter Tryz.func79, Tryz.ntmps79
      go_wp2_with fail
      go_ret
      exact ⟨rfl, HB.out⟩
    · have hne : (id2 != id) = true := by simpa using hi
      have hd : (decide (id2 ≠ id) && r) = r := by simp [hi]
      rw [hd]
      go_enter Tryz.func79, Tryz.ntmps79
      go_wp2_with (go_at_call 82; refine HC.out.mono ?_; clear HC; rintro e w3 ⟨rfl, hb⟩; have HB3 := hid hb; clear hb)
      go_ret
      exact ⟨rfl, HB.out.trans (HB3.out.mono HB.out.size)⟩
end Go.Proofs.YthpebfojkpnojaaGreat

/- turns: whether a witness may stand for a clause. -/
namespace Go.Proofs.YthpebfojkpnojaaGreat
open Go.RowKit Go.Maps
set_option linter.unusedVariables false
set_option linter.unusedSimpArgs false
set_option maxRecDepth 100000
def turnsB (ws cs : List Int) : Bool := match ws with
  | [] => false
  | l :: _ => cs.contains l && !Bas.both ws
set_option maxHeartbeats 2000000 in
theorem turns38 (a : Option Addr) (n c : Nat) (ws : List Int) (a2 : Option Addr) (n2 c2 : Nat) (cs : List Int) (w : World) (h0 : ∀ x ∈ ws, x ≠ 0) (hn : ws.length = n) (hm : cs.length = n2) (hN : n ≤ 1099511627776) (hM : n2 ≤ 1099511627776) (hx : Lits w a ws) (hy : Lits w a2 cs) :
    Calls Tryz.prog 92 #[.slice a n c, .slice a2 n2 c2] w fun e w' => e = .returned (.bool (turnsB ws cs)) ∧ Below w.heap.size w w' := by
  cases ws with
  | nil =>
    obtain rfl : n = 0 := by simpa using hn.symm
    clear hx hy hn hm
    go_enter Tryz.func92, Tryz.ntmps92
    go_wp2_with fail
    go_ret
    exact ⟨rfl, Below.refl _ _⟩
  | cons l ls =>
    obtain ⟨b, off, e, _, hc, hl1, hl2⟩ := Row.at hx (j := 0) (by simp)
    subst e
    have HC := hid (contains54 l a2 n2 c2 cs w hm (by omega) hy)
    have HNm := hid (Cf.normal53 (some ⟨b, off, none⟩) n c (l :: ls) w hn hN hx)
    rw [both_eq _ h0] at HNm
    have hn0 : ((n : Int) == 0) = false := by simp at hn; simp; omega
    have hn1 : (0 : Int) < n := by simp at hn; omega
    have hT : turnsB (l :: ls) cs = (decide (l ∈ cs) && !Bas.both (l :: ls)) := by simp [turnsB]
    rw [hT]
    simp only [List.getD_cons_zero, Nat.add_zero] at hc
    clear hx hy hn hm h0 hT
    generalize Bas.both (l :: ls) = q at HNm ⊢
    generalize decide (l ∈ cs) = r at HC ⊢
    cases r with
    | false =>
      clear HNm
      go_enter Tryz.func92, Tryz.ntmps92
      go_wp2_with (go_at_call 112; refine HC.out.mono ?_; clear HC; rintro e w3 ⟨rfl, hw⟩; rw [hw]; clear hw)
      go_ret
      exact ⟨rfl, Below.refl _ _⟩
    | true =>
      go_enter Tryz.func92, Tryz.ntmps92
      go_wp2_with (first
        | (go_at_call 112; refine HC.out.mono ?_; clear HC; rintro e w3 ⟨rfl, hw⟩; rw [hw]; clear hw)
        | (go_at_call 109; refine HNm.out.mono ?_; clear HNm; rintro e w3 ⟨v', zs, rfl, _, _, hb, _⟩; have HB3 := hid hb; clear hb))
      go_ret
      exact ⟨by simp, HB3.out⟩
end Go.Proofs.YthpebfojkpnojaaGreat

