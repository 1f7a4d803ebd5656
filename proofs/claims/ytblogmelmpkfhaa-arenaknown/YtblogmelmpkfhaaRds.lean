/- What the arena tells. -/
import Derived.Test.YtblogmelmpkfhaaLv
import Derived.Deep.RegionHeld3
namespace Arn
def lenOf (o : Option It) : Int := (o.map (fun x => (x.lits.length : Int))).getD 0
def litsOf (o : Option It) : List Int := (o.map It.lits).getD []
def litOf (o : Option It) (i : Int) : Int := if 0 ≤ i ∧ i < (litsOf o).length then (litsOf o).getD i.toNat 0 else 0
def idOf (o : Option It) : Int := (o.map It.id).getD 0
def redOf (o : Option It) : Bool := (o.map It.red).getD false
def lbdOf (o : Option It) : Int := (o.map It.lbd).getD 0
def usedOf (o : Option It) : Int := (o.map It.used).getD 0
end Arn
namespace Go.Proofs.Ytblogmelmpkfhaa
open Go.RowKit Go.Maps
set_option linter.unusedVariables false

/-- The clause that lives at r, as it lies. -/
theorem Ar.hit {n ab lim bm : Nat} {v : Value} {M : List Arn.It} {W : World} (h : Ar n ab lim v bm M W) {r : Int} {x : Arn.It} (hx : Arn.find M r = some x) :
    ∃ g c k : Nat, v = .slice (some ⟨g, 0, none⟩) (Arn.size M) c ∧ r = (k : Int) ∧ Arn.at? M k = some x ∧ x.dead = false ∧ x.ok ∧ k + x.room ≤ Arn.size M ∧ 4 + x.lits.length ≤ x.room ∧ Arn.size M ≤ 268435456 ∧ n ≤ g ∧ (∃ cur, W.heap[g]? = some (.cells cur 84 (0, 0))) ∧ Arn.size M ≤ c ∧ c ≤ 9223372036854775807 ∧ g < W.heap.size := by
  obtain ⟨ha, hd⟩ := Arn.find_some.1 hx
  obtain ⟨g, c, k, e1, e2, h1, h2, ⟨cur, h3⟩, h4, h5, h6⟩ := h.row ha
  obtain ⟨_, _, hok⟩ := Arn.at_lt h.ok ha
  subst e2
  exact ⟨g, c, k, e1, rfl, ha, hd, hok, h1, hok.fits, Nat.le_trans h.fit h.lim, h2, ⟨cur, h3⟩, h4, by unfold maxLen at h5; omega, lt_of_blk h3⟩
theorem Ar.word {n ab lim bm g c k : Nat} {M : List Arn.It} {W : World} (h : Ar n ab lim (.slice (some ⟨g, 0, none⟩) (Arn.size M) c) bm M W) {x : Arn.It} (hx : Arn.at? M k = some x) (j : Nat) (hj : j < x.room) :
    W.cell? ⟨g, k + j, none⟩ = some (.int .u32 (x.cells.getD j 0)) := by
  obtain ⟨g', c', k', e1, e2, h1, h2, ⟨cur, h3⟩, h4, h5, h6⟩ := h.row hx
  cases e1
  obtain rfl : k = k' := by omega
  exact h6 j hj
theorem lit_word {x : Arn.It} (j : Nat) (hj : j < x.lits.length) : x.cells.getD (4 + j) 0 = Arn.u32 (x.lits.getD j 0) := by
  rw [show 4 + j = j + 4 by omega]
  simp only [Arn.It.cells, List.getD, List.getElem?_cons_succ]
  rw [List.getElem?_append_left (by simpa using hj), List.getElem?_map, List.getElem?_eq_getElem hj]
  rfl

set_option maxRecDepth 100000 in
set_option maxHeartbeats 1000000 in
theorem words14 {n ab lim bm : Nat} {v : Value} {M : List Arn.It} {W : World} (h : Ar n ab lim v bm M W) :
    Calls Try.prog 14 #[.pointer (some ⟨ab, 0, none⟩)] W fun e w' => e = .returned (.tuple #[.int .i64 (Arn.size M), .int .i64 (Arn.waste M)]) ∧ Below W.heap.size W w' := by
  obtain ⟨o, c, rfl⟩ := own_slc h.own
  have c1 := row_cell h.blk 1
  have c3 := row_cell h.blk 3
  generalize Arn.size M = N at *
  generalize Arn.waste M = Wst at *
  clear h
  go_enter Try.func14, Try.ntmps14
  go_wp2
  go_region
  go_wp2
  go_ret2
  exact ⟨rfl, (Below.refl _ _).drew⟩
set_option maxRecDepth 100000 in
set_option maxHeartbeats 1000000 in
theorem len21 {n ab lim bm : Nat} {v : Value} {M : List Arn.It} {W : World} (h : Ar n ab lim v bm M W) (r : Int) (hr : I64 r) :
    Calls Try.prog 21 #[.pointer (some ⟨ab, 0, none⟩), .int .i64 r] W fun e w' => e = .returned (.int .i64 (Arn.lenOf (Arn.find M r))) ∧ Below W.heap.size W w' := by
  have HL := hid (live42 h r hr)
  cases hx : Arn.find M r with
  | none =>
    rw [hx] at HL
    go_enter Try.func21, Try.ntmps21
    go_wp2_with (go_at_call 42; refine HL.out.mono ?_; rintro e w3 ⟨rfl, hw3⟩)
    go_ret
    exact ⟨rfl, hw3⟩
  | some x =>
    rw [hx] at HL
    obtain ⟨g, c, k, rfl, rfl, ha, hd, hok, hk, hfits, hN, hg, hgb, hc, hcm, hlt⟩ := h.hit hx
    have HC := hid (fun (w' : World) (hw : Below W.heap.size W w') => lits45 (h.below hw) ha)
    show Calls Try.prog 21 _ W fun e w' => e = .returned (.int .i64 (x.lits.length : Int)) ∧ Below W.heap.size W w'
    generalize x.lits.length = L at *
    clear h hx hr ha
    go_enter Try.func21, Try.ntmps21
    go_wp2_with (first | (go_at_call 42; refine HL.out.mono ?_; rintro e w3 ⟨rfl, hw3⟩) | (go_at_call 45; refine (HC.out _ hw3).mono ?_; rintro e w4 ⟨rfl, hw4⟩; rw [hw4]; clear hw4))
    go_ret
    exact ⟨rfl, hw3⟩
set_option maxRecDepth 100000 in
set_option maxHeartbeats 1000000 in
theorem red24 {n ab lim bm : Nat} {v : Value} {M : List Arn.It} {W : World} (h : Ar n ab lim v bm M W) (r : Int) (hr : I64 r) :
    Calls Try.prog 24 #[.pointer (some ⟨ab, 0, none⟩), .int .i64 r] W fun e w' => e = .returned (.bool (Arn.redOf (Arn.find M r))) ∧ Below W.heap.size W w' := by
  have HL := hid (live42 h r hr)
  cases hx : Arn.find M r with
  | none =>
    rw [hx] at HL
    go_enter Try.func24, Try.ntmps24
    go_wp2_with (go_at_call 42; refine HL.out.mono ?_; rintro e w3 ⟨rfl, hw3⟩)
    go_ret
    exact ⟨rfl, hw3⟩
  | some x =>
    rw [hx] at HL
    obtain ⟨g, c, k, rfl, rfl, ha, hd, hok, hk, hfits, hN, hg, hgb, hc, hcm, hlt⟩ := h.hit hx
    have HC := hid (fun (w' : World) (hw : Below W.heap.size W w') => And.intro (row_cell (h.below hw).blk 1) ((h.below hw).word ha 0 (by omega)))
    rw [show x.cells.getD 0 0 = x.head from rfl] at HC
    have hh1 : 0 ≤ x.head := by unfold Arn.It.head; split <;> split <;> omega
    have hh2 : x.head ≤ 1073741827 := by unfold Arn.It.head; split <;> split <;> omega
    have hand := and_two x.head hh1 (by omega)
    have HF := hid (show Arn.redOf (some x) = !(2 * (x.head / 2 % 2) == 0) by
      have e : x.head / 2 % 2 = if x.red then 1 else 0 := by unfold Arn.It.head; rw [hd]; split <;> simp <;> omega
      rw [e]
      show x.red = _
      cases x.red <;> rfl)
    rw [HF.out]
    generalize 2 * (x.head / 2 % 2) = d at *
    generalize x.head = hv at *
    have hkN : (k : Int) < (Arn.size M : Nat) := by omega
    generalize Arn.size M = N at *
    clear h hx hr ha hok hd HF
    go_enter Try.func24, Try.ntmps24
    go_wp2_with (go_at_call 42; refine HL.out.mono ?_; rintro e w3 ⟨rfl, hw3⟩; obtain ⟨c1, c0⟩ := HC.out _ hw3; rw [Nat.add_zero] at c0)
    go_ret
    exact ⟨rfl, hw3⟩
set_option maxRecDepth 100000 in
set_option maxHeartbeats 1000000 in
theorem lbd15 {n ab lim bm : Nat} {v : Value} {M : List Arn.It} {W : World} (h : Ar n ab lim v bm M W) (r : Int) (hr : I64 r) :
    Calls Try.prog 15 #[.pointer (some ⟨ab, 0, none⟩), .int .i64 r] W fun e w' => e = .returned (.tuple #[.int .i64 (Arn.lbdOf (Arn.find M r)), .int .i64 (Arn.usedOf (Arn.find M r))]) ∧ Below W.heap.size W w' := by
  have HL := hid (live42 h r hr)
  cases hx : Arn.find M r with
  | none =>
    rw [hx] at HL
    go_enter Try.func15, Try.ntmps15
    go_wp2_with (go_at_call 42; refine HL.out.mono ?_; rintro e w3 ⟨rfl, hw3⟩)
    go_ret2
    exact ⟨rfl, hw3⟩
  | some x =>
    rw [hx] at HL
    obtain ⟨g, c, k, rfl, rfl, ha, hd, hok, hk, hfits, hN, hg, hgb, hc, hcm, hlt⟩ := h.hit hx
    have HC := hid (fun (w' : World) (hw : Below W.heap.size W w') => And.intro (row_cell (h.below hw).blk 1) ((h.below hw).word ha 3 (by omega)))
    rw [show x.cells.getD 3 0 = x.lbd * 65536 + x.used from rfl] at HC
    have h1 := hok.lbd1
    have h2 := hok.lbd2
    have h3 := hok.used1
    have h4 := hok.used2
    have hand := and_most (x.lbd * 65536 + x.used) (by omega) (by omega)
    rw [show (x.lbd * 65536 + x.used) % 65536 = x.used by omega] at hand
    have hsh : (x.lbd * 65536 + x.used) / 65536 = x.lbd := by omega
    show Calls Try.prog 15 _ W fun e w' => e = .returned (.tuple #[.int .i64 x.lbd, .int .i64 x.used]) ∧ Below W.heap.size W w'
    have hb1 : 0 ≤ x.lbd * 65536 + x.used := by omega
    have hb2 : x.lbd * 65536 + x.used ≤ 4294967295 := by omega
    generalize x.lbd * 65536 + x.used = hv at *
    generalize x.lbd = ld at *
    generalize x.used = us at *
    have hkN : (k : Int) + 3 < (Arn.size M : Nat) := by omega
    generalize Arn.size M = N at *
    clear h hx hr ha hok hd
    go_enter Try.func15, Try.ntmps15
    go_wp2_with (go_at_call 42; refine HL.out.mono ?_; rintro e w3 ⟨rfl, hw3⟩; obtain ⟨c1, c0⟩ := HC.out _ hw3)
    go_ret2
    exact ⟨rfl, hw3⟩
set_option maxRecDepth 100000 in
set_option maxHeartbeats 1000000 in
theorem id23 {n ab lim bm : Nat} {v : Value} {M : List Arn.It} {W : World} (h : Ar n ab lim v bm M W) (r : Int) (hr : I64 r) :
    Calls Try.prog 23 #[.pointer (some ⟨ab, 0, none⟩), .int .i64 r] W fun e w' => e = .returned (.int .i64 (Arn.idOf (Arn.find M r))) ∧ Below W.heap.size W w' := by
  have HL := hid (live42 h r hr)
  cases hx : Arn.find M r with
  | none =>
    rw [hx] at HL
    go_enter Try.func23, Try.ntmps23
    go_wp2_with (go_at_call 42; refine HL.out.mono ?_; rintro e w3 ⟨rfl, hw3⟩)
    go_ret
    exact ⟨rfl, hw3⟩
  | some x =>
    rw [hx] at HL
    obtain ⟨g, c, k, rfl, rfl, ha, hd, hok, hk, hfits, hN, hg, hgb, hc, hcm, hlt⟩ := h.hit hx
    have HC := hid (fun (w' : World) (hw : Below W.heap.size W w') => And.intro (row_cell (h.below hw).blk 1) (And.intro ((h.below hw).word ha 1 (by omega)) ((h.below hw).word ha 2 (by omega))))
    rw [show x.cells.getD 1 0 = x.id % 4294967296 from rfl, show x.cells.getD 2 0 = x.id / 4294967296 from rfl] at HC
    have h1 := hok.id1
    have h2 := hok.id2
    show Calls Try.prog 23 _ W fun e w' => e = .returned (.int .i64 x.id) ∧ Below W.heap.size W w'
    have e0 : x.id = x.id / 4294967296 * 4294967296 + x.id % 4294967296 := by omega
    have hb1 : 0 ≤ x.id / 4294967296 ∧ x.id / 4294967296 ≤ 1073741823 := by omega
    have hb2 : 0 ≤ x.id % 4294967296 ∧ x.id % 4294967296 ≤ 4294967295 := by omega
    have hb3 := hb1.2
    have hb4 := hb2.2
    have hb5 := hb1.1
    have hb6 := hb2.1
    have E := hid e0
    clear e0 hb1 hb2 h1 h2
    generalize x.id / 4294967296 = up at *
    generalize x.id % 4294967296 = lw at *
    have hkN : (k : Int) + 2 < (Arn.size M : Nat) := by omega
    have hkN1 : (k : Int) + 1 < (Arn.size M : Nat) := by omega
    generalize Arn.size M = N at *
    clear h hx hr ha hok hd
    go_enter Try.func23, Try.ntmps23
    go_wp2_with (go_at_call 42; refine HL.out.mono ?_; rintro e w3 ⟨rfl, hw3⟩; obtain ⟨c1, c0, c2⟩ := HC.out _ hw3)
    go_region
    go_wp2
    go_ret
    exact ⟨by rw [E.out]; rfl, hw3.drew⟩
theorem i32_back (l : Int) (h1 : -2147483648 ≤ l) (h2 : l ≤ 2147483647) : IntKind.i32.wrap (l % 4294967296) = l := by rw [IntKind.wrap_i32]; omega
set_option maxRecDepth 100000 in
set_option maxHeartbeats 1000000 in
theorem lit22 {n ab lim bm : Nat} {v : Value} {M : List Arn.It} {W : World} (h : Ar n ab lim v bm M W) (r : Int) (hr : I64 r) (i : Int) (hi : I64 i) :
    Calls Try.prog 22 #[.pointer (some ⟨ab, 0, none⟩), .int .i64 r, .int .i64 i] W fun e w' => e = .returned (.int .i32 (Arn.litOf (Arn.find M r) i)) ∧ Below W.heap.size W w' := by
  have HL := hid (live42 h r hr)
  cases hx : Arn.find M r with
  | none =>
    rw [hx] at HL
    have e0 : Arn.litOf none i = 0 := by simp [Arn.litOf, Arn.litsOf]
    rw [e0]
    go_enter Try.func22, Try.ntmps22
    go_wp2_with (go_at_call 42; refine HL.out.mono ?_; rintro e w3 ⟨rfl, hw3⟩)
    go_ret
    exact ⟨rfl, hw3⟩
  | some x =>
    rw [hx] at HL
    obtain ⟨g, c, k, rfl, rfl, ha, hd, hok, hk, hfits, hN, hg, hgb, hc, hcm, hlt⟩ := h.hit hx
    have HC := hid (fun (w' : World) (hw : Below W.heap.size W w') => lits45 (h.below hw) ha)
    have HP := hid (fun (w' : World) => place46 (some ⟨g, lo c k, none⟩) x.lits.length (c - k - 4) i w' (by omega))
    by_cases hp : 0 ≤ i ∧ i < x.lits.length
    · obtain ⟨j, rfl⟩ : ∃ j : Nat, i = j := ⟨i.toNat, by omega⟩
      have hj : j < x.lits.length := by omega
      have HW := hid (fun (w' : World) (hw : Below W.heap.size W w') => (h.below hw).word ha (4 + j) (by omega))
      rw [lit_word j hj] at HW
      have hm := hok.lits _ (Arn.getD_mem x.lits j hj)
      have hlo : lo c k = k + 4 := by unfold lo; rw [if_neg (by omega)]
      rw [hlo] at HC HP
      have hw32 := i32_back _ hm.1 hm.2
      have e0 : Arn.litOf (some x) j = x.lits.getD j 0 := by
        show (if 0 ≤ (j : Int) ∧ (j : Int) < x.lits.length then x.lits.getD (j : Int).toNat 0 else 0) = _
        rw [if_pos hp, Int.toNat_natCast]
      rw [e0]
      rw [show (decide (0 ≤ (j : Int)) && decide ((j : Int) < x.lits.length)) = true by simp; omega] at HP
      have hjL := hp.2
      have hb1 : 0 ≤ Arn.u32 (x.lits.getD j 0) ∧ Arn.u32 (x.lits.getD j 0) ≤ 4294967295 := by unfold Arn.u32; omega
      change IntKind.i32.wrap (Arn.u32 (x.lits.getD j 0)) = _ at hw32
      have hb2 := hb1.1
      have hb3 := hb1.2
      generalize Arn.u32 (x.lits.getD j 0) = uv at *
      generalize x.lits.getD j 0 = lv at *
      generalize x.lits.length = L at *
      generalize Arn.size M = N at *
      clear h hx hr ha hok hd hp e0 hb1
      go_enter Try.func22, Try.ntmps22
      go_wp2_with (first | (go_at_call 42; refine HL.out.mono ?_; rintro e w3 ⟨rfl, hw3⟩; have c0 := HW.out _ hw3; rw [← Nat.add_assoc] at c0) | (go_at_call 45; refine (HC.out _ hw3).mono ?_; rintro e w4 ⟨rfl, hw4⟩; rw [hw4]; clear hw4) | (go_at_call 46; refine (HP.out _).mono ?_; rintro e w4 ⟨rfl, hw4⟩; rw [hw4]; clear hw4))
      go_ret
      exact ⟨rfl, hw3⟩
    · have e0 : Arn.litOf (some x) i = 0 := by
        show (if 0 ≤ i ∧ i < x.lits.length then _ else 0) = _
        rw [if_neg hp]
      rw [e0]
      rw [show (decide (0 ≤ i) && decide (i < x.lits.length)) = false by simp; omega] at HP
      generalize x.lits.length = L at *
      clear h hx hr ha hok hd hp e0
      go_enter Try.func22, Try.ntmps22
      go_wp2_with (first | (go_at_call 42; refine HL.out.mono ?_; rintro e w3 ⟨rfl, hw3⟩) | (go_at_call 45; refine (HC.out _ hw3).mono ?_; rintro e w4 ⟨rfl, hw4⟩; rw [hw4]; clear hw4) | (go_at_call 46; refine (HP.out _).mono ?_; rintro e w4 ⟨rfl, hw4⟩; rw [hw4]; clear hw4))
      go_ret
      exact ⟨rfl, hw3⟩
end Go.Proofs.Ytblogmelmpkfhaa
