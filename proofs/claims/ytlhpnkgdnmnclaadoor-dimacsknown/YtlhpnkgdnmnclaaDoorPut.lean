/- The lines of values: one number more. -/
import Derived.Test.YtlhpnkgdnmnclaaDoorSame
import Derived.Lib.ItoaLen
import Derived.Lib.AppendStr
import Derived.Deep.AppendLies
import Derived.Lib.AppendIntMem
namespace Dim
def putX (xs : List UInt8) (l : Nat) (i : Int) : List UInt8 := if 78 < xs.length - l + 1 + (Go.Lib.itoa i).length then xs ++ [10] ++ [118] ++ [32] ++ Go.Lib.itoa i else xs ++ [32] ++ Go.Lib.itoa i
def putL (xs : List UInt8) (l : Nat) (i : Int) : Nat := if 78 < xs.length - l + 1 + (Go.Lib.itoa i).length then xs.length + 1 else l
end Dim
namespace Go.Proofs.YtlhpnkgdnmnclaaDoor
open Go.RowKit
set_option linter.unusedVariables false

theorem info5' : (Tryd.prog.info? 5).map (fun i => (i.zero, i.size, i.bytes)) = some (some (.int .u8 0), 1, 1) := by kernel_rfl

theorem news5 {X : World} {u : Value} {n : Nat} (hn : X.heap.size = n) : ∀ j v, [u][j]? = some v → (X.alloc (.cells #[u] 5)).cell? ((⟨n, 0, none⟩ : Addr).add j) = some v := by
  subst hn
  intro j v hu
  obtain rfl : j = 0 := by
    cases j with
    | zero => rfl
    | succ j => simp at hu
  simp at hu
  subst hu
  simp [World.cell?_alloc_new, Go.WideShapes.add_plain]

/-- A page in block pb: its bytes, and where its last line begins. -/
structure Pg (base pb : Nat) (W : World) (bv : Value) (xs : List UInt8) (l : Nat) : Prop where
  blk : W.heap[pb]? = some (.cells #[bv, .int .i64 l] 76 (0, 0))
  hb : base ≤ pb
  row : W.ownsRow base 5 1 bv xs.length (Lib.byteCells xs)

/-- A row of bytes grew: the page's own variable is as it was, and may be set. -/
theorem Pg.step {base pb : Nat} {W w1 : World} {bv v' : Value} {xs ys : List UInt8} {l : Nat} {o : Value} (h : Pg base pb W bv xs l) (hbs : base ≤ W.heap.size) (hg : (W.alloc (.cells #[o] 5)).grownBy w1 bv.ownBlock) (hr : w1.ownsRow base 5 1 v' ys.length (Lib.byteCells ys)) :
    w1.heap[pb]? = some (.cells #[bv, .int .i64 l] 76 (0, 0)) ∧ Pg base pb (w1.setCell ⟨pb, 0, none⟩ v') v' ys l ∧ Below base W (w1.setCell ⟨pb, 0, none⟩ v') := by
  have hlt : pb < W.heap.size := (Array.getElem?_eq_some_iff.1 h.blk).1
  have hblk1 : (W.alloc (.cells #[o] 5)).heap[pb]? = _ := (Below.heap_alloc W _ pb hlt).trans h.blk
  have hrow1 : (W.alloc (.cells #[o] 5)).ownsRow base 5 1 bv xs.length (Lib.byteCells xs) := h.row.alloc _
  have hb1 : w1.heap[pb]? = some (.cells #[bv, .int .i64 l] 76 (0, 0)) := (hg.block pb (by simp; omega) (row_ne hblk1 hrow1 (by decide))).trans hblk1
  refine ⟨hb1, ⟨heap_set_row hb1 _, h.hb, row_same hr (fun k cs hk hkk => heap_other _ _ ?_)⟩, ?_⟩
  · rintro rfl
    rw [hb1] at hkk
    cases hkk
  · have hown : ∀ k, bv.ownBlock = some k → base ≤ k := fun k hk => by
      rcases h.row.2 with ⟨rfl, _⟩ | ⟨g, cap, cur, rfl, h1, h2, _⟩
      · simp [Value.ownBlock] at hk
      · simp [Value.ownBlock] at hk; omega
    exact (((Below.refl _ W).alloc hbs _).grown hg (by simp; omega) hown).setCell (p := ⟨pb, 0, none⟩) h.hb _

theorem Pg.two {base pb n1 : Nat} {W w1 w2 : World} {bv v1 v2 : Value} {xs ys : List UInt8} {zs : List Value} {l : Nat} {o : Value} (h : Pg base pb W bv xs l) (hbs : base ≤ W.heap.size) (hg : (W.alloc (.cells #[o] 5)).grownBy w1 bv.ownBlock) (hr1 : w1.ownsRow base 5 1 v1 n1 zs) (hg2 : w1.grownBy w2 v1.ownBlock) (hr2 : w2.ownsRow base 5 1 v2 ys.length (Lib.byteCells ys)) :
    w2.heap[pb]? = some (.cells #[bv, .int .i64 l] 76 (0, 0)) ∧ Pg base pb (w2.setCell ⟨pb, 0, none⟩ v2) v2 ys l ∧ Below base W (w2.setCell ⟨pb, 0, none⟩ v2) := by
  have hlt : pb < W.heap.size := (Array.getElem?_eq_some_iff.1 h.blk).1
  have hblk1 : (W.alloc (.cells #[o] 5)).heap[pb]? = _ := (Below.heap_alloc W _ pb hlt).trans h.blk
  have hrow1 : (W.alloc (.cells #[o] 5)).ownsRow base 5 1 bv xs.length (Lib.byteCells xs) := h.row.alloc _
  have hb1 : w1.heap[pb]? = some (.cells #[bv, .int .i64 l] 76 (0, 0)) := (hg.block pb (by simp; omega) (row_ne hblk1 hrow1 (by decide))).trans hblk1
  have hb2 : w2.heap[pb]? = some (.cells #[bv, .int .i64 l] 76 (0, 0)) := (hg2.block pb (Array.getElem?_eq_some_iff.1 hb1).1 (row_ne hb1 hr1 (by decide))).trans hb1
  have own : ∀ {W' : World} {v : Value} {n : Nat} {zs : List Value}, W'.ownsRow base 5 1 v n zs → ∀ k, v.ownBlock = some k → base ≤ k := fun hr k hk => by
    rcases hr.2 with ⟨rfl, _⟩ | ⟨g, cap, cur, rfl, h1, h2, _⟩
    · simp [Value.ownBlock] at hk
    · simp [Value.ownBlock] at hk; omega
  have hs1 : base ≤ w1.heap.size := by have := hg.size; simp at this; omega
  refine ⟨hb2, ⟨heap_set_row hb2 _, h.hb, row_same hr2 (fun k cs hk hkk => heap_other _ _ ?_)⟩, ?_⟩
  · rintro rfl
    rw [hb2] at hkk
    cases hkk
  · exact ((((Below.refl _ W).alloc hbs _).grown hg (by simp; omega) (own hrow1)).grown hg2 hs1 (own hr1)).setCell (p := ⟨pb, 0, none⟩) h.hb _
theorem Pg.line {base pb : Nat} {W : World} {bv : Value} {xs : List UInt8} {l : Nat} (h : Pg base pb W bv xs l) (l' : Nat) : Pg base pb (W.setCell ⟨pb, 1, none⟩ (.int .i64 l')) bv xs l' ∧ Below base W (W.setCell ⟨pb, 1, none⟩ (.int .i64 l')) := by
  refine ⟨⟨heap_set_row h.blk _, h.hb, row_same h.row (fun k cs hk hkk => heap_other _ _ ?_)⟩, (Below.refl _ W).setCell (p := ⟨pb, 1, none⟩) h.hb _⟩
  rintro rfl
  rw [h.blk] at hkk
  cases hkk
theorem Pg.below {base pb : Nat} {W W' : World} {bv : Value} {xs : List UInt8} {l : Nat} (h : Pg base pb W bv xs l) (hb : Below W.heap.size W W') : Pg base pb W' bv xs l :=
  ⟨(hb.block pb (Array.getElem?_eq_some_iff.1 h.blk).1).trans h.blk, h.hb, row_same h.row (fun k cs hk hkk => hb.block k (Array.getElem?_eq_some_iff.1 hkk).1)⟩
theorem Pg.form {base pb : Nat} {W : World} {bv : Value} {xs : List UInt8} {l : Nat} (h : Pg base pb W bv xs l) (hp : 0 < xs.length) : ∃ g cap, bv = .slice (some ⟨g, 0, none⟩) xs.length cap := by
  obtain ⟨g, cap, e, _⟩ := h.row.form hp
  exact ⟨g, cap, e⟩

theorem formatInt45 (n : Int) (h0 : -9223372036854775808 ≤ n) (h1 : n ≤ 9223372036854775807) (w : World) (htab : Lib.TabIs Tryd.prog w "internal/strconv.uint64pow10" .u64 Lib.pow10Tab) :
    Calls Tryd.prog 45 #[.int .i64 n, .int .i64 10] w fun e w' => e = .returned (.string ⟨(Lib.itoa n).toArray⟩) ∧ Below w.heap.size w w' := by
  refine (Any.strconv_FormatInt_10 Tryd.fiL n h0 h1 w htab).mono ?_
  rintro e w' ⟨he, k, os, rfl⟩
  exact ⟨he, Lib.below_grow _ _ (Nat.le_refl _) k os⟩

set_option maxRecDepth 100000 in
set_option maxHeartbeats 4000000 in
theorem put34 (base pb l : Nat) (i : Int) (bv : Value) (xs : List UInt8) (W : World) (hbs : base ≤ W.heap.size) (hp : 0 < xs.length) (hl : l ≤ xs.length) (hx : xs.length ≤ 1099511627776) (h0 : -9223372036854775808 ≤ i) (h1 : i ≤ 9223372036854775807) (h : Pg base pb W bv xs l)
    (htab : Lib.TabIs Tryd.prog W "internal/strconv.uint64pow10" .u64 Lib.pow10Tab) :
    Calls Tryd.prog 34 #[.pointer (some ⟨pb, 0, none⟩), .int .i64 i] W fun e W' => (∃ v, e = .returned v) ∧ (∃ bv', Pg base pb W' bv' (Dim.putX xs l i) (Dim.putL xs l i)) ∧ Below base W W' := by
  have C45 := hid (formatInt45 i h0 h1 W htab)
  have hit := Lib.itoa_length_le i h0 h1
  have HP := hid h
  obtain ⟨sz, hsz⟩ : ∃ sz, (Lib.itoa i).length = sz := ⟨_, rfl⟩
  have HSZ := hid hsz
  rw [hsz] at hit
  obtain ⟨S, hS⟩ : ∃ S : ByteArray, (⟨(Lib.itoa i).toArray⟩ : ByteArray) = S := ⟨_, rfl⟩
  rw [hS] at C45
  have hSs : S.size = sz := by rw [← hS, ← hsz]; simp [ByteArray.size]
  have hSc : Lib.strCells S = Lib.byteCells (Lib.itoa i) := by rw [← hS]; rfl
  have HSC := hid hSc
  clear h htab hsz hS hSc
  obtain ⟨i0, hi, hz0, hz1, hz2⟩ := info_parts info5'
  by_cases hw : 78 < xs.length - l + 1 + sz
  · have hX : Dim.putX xs l i = xs ++ [10] ++ [118] ++ [32] ++ Lib.itoa i := by unfold Dim.putX; rw [HSZ.out, if_pos hw]
    have hL : Dim.putL xs l i = xs.length + 1 := by unfold Dim.putL; rw [HSZ.out, if_pos hw]
    rw [hX, hL]
    clear hX hL
    have hw' : (78 : Int) < (xs.length : Int) - l + 1 + sz := by omega
    obtain ⟨g, cap, rfl⟩ := HP.out.form hp
    go_enter Tryd.func34, Tryd.ntmps34
    go_wp2_with (go_at_call 45; refine C45.out.mono ?_; clear C45; rintro e W1 ⟨rfl, hb1⟩
                 have P1 := HP.out.below hb1
                 have c0 := row_cell P1.blk 0
                 have c1 := row_cell P1.blk 1
                 simp only [List.getElem?_toArray, List.getElem?_cons_zero, List.getElem?_cons_succ] at c0 c1
                 replace P1 := hid P1
                 replace hb1 := hid hb1)
    go_quiet (fail)
    have P2 := hid (P1.out.below (below_drewN _ W1 nq))
    have hb2 := hid (hb1.out.trans (below_drewN _ W1 nq))
    clear c0 c1 P1 hb1 HP
    generalize W1.drewN nq = W2 at P2 hb2 ⊢
    have c0 := row_cell P2.out.blk 0
    have c1 := row_cell P2.out.blk 1
    simp only [List.getElem?_toArray, List.getElem?_cons_zero, List.getElem?_cons_succ] at c0 c1
    have f0 := row_frozen P2.out.blk 0
    have f1 := row_frozen P2.out.blk 1
    have hbs2 : base ≤ W2.heap.size := Nat.le_trans hbs hb2.out.size
    go_wp2_with (at_builtin; refine wpList_append_lies _ rfl _ _ 22 rfl base 5 i0 (.int .u8 0) 1 1 Tryd.underlying22 hi hz0 hz1 hz2 rfl (by decide) _ xs.length (Lib.byteCells xs) rfl (P2.out.row.alloc _) ⟨W2.heap.size, 0, none⟩ 1 1 [.int .u8 10] rfl rfl ?c1 ?c2 (by decide) ?c3 ?c4 ?c5 (W2.heap.size + 1) ?c6 ?_)
    case c1 => exact news5 (by first | rfl | simp [World.setCell])
    case c2 => intro u hu; simp at hu; subst hu; rfl
    case c3 => simp [maxLen]; omega
    case c4 => omega
    case c5 => simp; omega
    case c6 => simp
    intro ga capa wa howna hgrowa hata hlta
    have FA := hid (Pg.step (ys := xs ++ [10]) P2.out hbs2 hgrowa (by
      have e1 : (xs ++ [10]).length = xs.length + 1 := by simp
      have e2 : Lib.byteCells (xs ++ [10]) = Lib.byteCells xs ++ [.int .u8 10] := by simp [Lib.byteCells]
      rw [e1, e2]
      exact howna))
    have PA := hid (FA.out.2.1.line (xs.length + 1))
    have a0 := row_cell FA.out.1 0
    have a1 := row_cell FA.out.1 1
    simp only [List.getElem?_toArray, List.getElem?_cons_zero, List.getElem?_cons_succ] at a0 a1
    have af0 := row_frozen FA.out.1 0
    have af1 := row_frozen FA.out.1 1
    clear howna hgrowa hata hlta c0 c1 f0 f1
    have RA : ((wa.setCell ⟨pb, 0, none⟩ (.slice (some ⟨ga, 0, none⟩) (xs.length + 1) capa)).setCell ⟨pb, 1, none⟩ (.int .i64 ((xs.length + 1 : Nat) : Int))).ownsRow base 5 1 (.slice (some ⟨ga, 0, none⟩) (xs.length + 1) capa) (xs.length + 1) (Lib.byteCells (xs ++ [10])) := by
      have := PA.out.1.row
      simpa using this
    have hwa : base ≤ wa.heap.size := by have := FA.out.2.2.size; simp [World.setCell] at this; omega
    go_wp2_with (at_builtin; refine wpList_append_lies _ rfl _ _ 22 rfl base 5 i0 (.int .u8 0) 1 1 Tryd.underlying22 hi hz0 hz1 hz2 rfl (by decide) _ (xs.length + 1) (Lib.byteCells (xs ++ [10])) rfl ((RA).alloc _) ⟨wa.heap.size, 0, none⟩ 1 1 [.int .u8 118] rfl rfl ?c1 ?c2 (by decide) ?c3 ?c4 ?c5 (wa.heap.size + 1) ?c6 ?_)
    case c1 => exact news5 (by first | rfl | simp [World.setCell])
    case c2 => intro u hu; simp at hu; subst hu; rfl
    case c3 => simp [maxLen]; omega
    case c4 => omega
    case c5 => simp [World.setCell]; omega
    case c6 => simp [World.setCell]
    intro gb capb wb hownb hgrowb hatb hltb
    have FB := hid (Pg.step (ys := xs ++ [10] ++ [118]) PA.out.1 (by simp [World.setCell]; exact hwa) hgrowb (by
      have e1 : (xs ++ [10] ++ [118]).length = xs.length + 1 + 1 := by simp
      have e2 : Lib.byteCells (xs ++ [10] ++ [118]) = Lib.byteCells (xs ++ [10]) ++ [.int .u8 118] := by simp [Lib.byteCells]
      rw [e1, e2]
      exact hownb))
    have b0 := row_cell FB.out.1 0
    simp only [List.getElem?_toArray, List.getElem?_cons_zero] at b0
    have bf0 := row_frozen FB.out.1 0
    have hwb : base ≤ wb.heap.size := by have := FB.out.2.2.size; simp [World.setCell] at this; omega
    have RB : (wb.setCell ⟨pb, 0, none⟩ (.slice (some ⟨gb, 0, none⟩) (xs.length + 1 + 1) capb)).ownsRow base 5 1 (.slice (some ⟨gb, 0, none⟩) (xs.length + 1 + 1) capb) (xs.length + 1 + 1) (Lib.byteCells (xs ++ [10] ++ [118])) := by
      have := FB.out.2.1.row
      simpa using this
    clear hownb hgrowb hatb hltb a0 a1 af0 af1
    go_wp2_with (at_builtin; refine wpList_append_lies _ rfl _ _ 22 rfl base 5 i0 (.int .u8 0) 1 1 Tryd.underlying22 hi hz0 hz1 hz2 rfl (by decide) _ (xs.length + 1 + 1) (Lib.byteCells (xs ++ [10] ++ [118])) rfl ((RB).alloc _) ⟨wb.heap.size, 0, none⟩ 1 1 [.int .u8 32] rfl rfl ?c1 ?c2 (by decide) ?c3 ?c4 ?c5 (wb.heap.size + 1) ?c6 ?_)
    case c1 => exact news5 (by first | rfl | simp [World.setCell])
    case c2 => intro u hu; simp at hu; subst hu; rfl
    case c3 => simp [maxLen]; omega
    case c4 => omega
    case c5 => simp [World.setCell]; omega
    case c6 => simp [World.setCell]
    intro g1 cap1 w1 hown1 hgrow1 hat1 hlt1
    go_wp2_with (at_builtin; refine Lib.wpList_append_own_string _ rfl _ _ 22 9 rfl base 5 i0 Tryd.underlying22 Tryd.underlying9 hi hz0 hz1 hz2 _ (xs.length + 1 + 1 + 1) _ rfl hown1 S rfl ?d1 ?d2 ?d3 ?_)
    case d1 => rw [hSs]; simp [maxLen]; omega
    case d2 => rw [hSs]; omega
    case d3 => have := hgrow1.size; simp [World.setCell] at this; omega
    intro v2 w2 hown2 hgrow2 hnn
    obtain ⟨g2, cap2, rfl, _⟩ := hown2.form (by omega)
    have FIN := hid (Pg.two (ys := xs ++ [10] ++ [118] ++ [32] ++ Lib.itoa i) FB.out.2.1 (by simp [World.setCell]; exact hwb) hgrow1 hown1 hgrow2 (by
      have e1 : (xs ++ [10] ++ [118] ++ [32] ++ Lib.itoa i).length = xs.length + 1 + 1 + 1 + sz := by simp [HSZ.out]; omega
      have e2 : Lib.byteCells (xs ++ [10] ++ [118] ++ [32] ++ Lib.itoa i) = Lib.byteCells (xs ++ [10] ++ [118]) ++ .int .u8 32 :: Lib.byteCells (Lib.itoa i) := by simp [Lib.byteCells]
      rw [e1, e2, ← HSC.out, show xs ++ [10] ++ [118] = xs ++ [10, 118] by simp]
      exact hown2))
    have q0 := row_cell FIN.out.1 0
    simp only [List.getElem?_toArray, List.getElem?_cons_zero] at q0
    have qf := row_frozen FIN.out.1 0
    clear hown1 hgrow1 hat1 hlt1 hown2 hgrow2 hnn
    go_wp2
    go_end0
    exact ⟨⟨_, rfl⟩, ⟨_, FIN.out.2.1⟩, (hb2.out.mono hbs).trans (FA.out.2.2.trans (PA.out.2.trans (FB.out.2.2.trans FIN.out.2.2)))⟩
  · have hX : Dim.putX xs l i = xs ++ [32] ++ Lib.itoa i := by unfold Dim.putX; rw [HSZ.out, if_neg hw]
    have hL : Dim.putL xs l i = l := by unfold Dim.putL; rw [HSZ.out, if_neg hw]
    rw [hX, hL]
    clear hX hL
    have hw' : ¬ (78 : Int) < (xs.length : Int) - l + 1 + sz := by omega
    obtain ⟨g, cap, rfl⟩ := HP.out.form hp
    go_enter Tryd.func34, Tryd.ntmps34
    go_wp2_with (go_at_call 45; refine C45.out.mono ?_; clear C45; rintro e W1 ⟨rfl, hb1⟩
                 have P1 := HP.out.below hb1
                 have c0 := row_cell P1.blk 0
                 have c1 := row_cell P1.blk 1
                 simp only [List.getElem?_toArray, List.getElem?_cons_zero, List.getElem?_cons_succ] at c0 c1
                 replace P1 := hid P1
                 replace hb1 := hid hb1)
    go_quiet (fail)
    have P2 := hid (P1.out.below (below_drewN _ W1 nq))
    have hb2 := hid (hb1.out.trans (below_drewN _ W1 nq))
    clear c0 c1 P1 hb1 HP
    generalize W1.drewN nq = W2 at P2 hb2 ⊢
    have c0 := row_cell P2.out.blk 0
    have c1 := row_cell P2.out.blk 1
    simp only [List.getElem?_toArray, List.getElem?_cons_zero, List.getElem?_cons_succ] at c0 c1
    have f0 := row_frozen P2.out.blk 0
    have f1 := row_frozen P2.out.blk 1
    have hbs2 : base ≤ W2.heap.size := Nat.le_trans hbs hb2.out.size
    go_wp2_with (at_builtin; refine wpList_append_lies _ rfl _ _ 22 rfl base 5 i0 (.int .u8 0) 1 1 Tryd.underlying22 hi hz0 hz1 hz2 rfl (by decide) _ xs.length (Lib.byteCells xs) rfl (P2.out.row.alloc _) ⟨W2.heap.size, 0, none⟩ 1 1 [.int .u8 32] rfl rfl ?c1 ?c2 (by decide) ?c3 ?c4 ?c5 (W2.heap.size + 1) ?c6 ?_)
    case c1 => exact news5 (by first | rfl | simp [World.setCell])
    case c2 => intro u hu; simp at hu; subst hu; rfl
    case c3 => simp [maxLen]; omega
    case c4 => omega
    case c5 => simp; omega
    case c6 => simp
    intro g1 cap1 w1 hown1 hgrow1 hat1 hlt1
    go_wp2_with (at_builtin; refine Lib.wpList_append_own_string _ rfl _ _ 22 9 rfl base 5 i0 Tryd.underlying22 Tryd.underlying9 hi hz0 hz1 hz2 _ (xs.length + 1) _ rfl hown1 S rfl ?d1 ?d2 ?d3 ?_)
    case d1 => rw [hSs]; simp [maxLen]; omega
    case d2 => rw [hSs]; omega
    case d3 => have := hgrow1.size; simp at this; omega
    intro v2 w2 hown2 hgrow2 hnn
    obtain ⟨g2, cap2, rfl, _⟩ := hown2.form (by omega)
    have FIN := hid (Pg.two (ys := xs ++ [32] ++ Lib.itoa i) P2.out hbs2 hgrow1 hown1 hgrow2 (by
      have e1 : (xs ++ [32] ++ Lib.itoa i).length = xs.length + 1 + sz := by simp [HSZ.out]; omega
      have e2 : Lib.byteCells (xs ++ [32] ++ Lib.itoa i) = Lib.byteCells (xs) ++ .int .u8 32 :: Lib.byteCells (Lib.itoa i) := by simp [Lib.byteCells]
      rw [e1, e2, ← HSC.out]
      exact hown2))
    have q0 := row_cell FIN.out.1 0
    simp only [List.getElem?_toArray, List.getElem?_cons_zero] at q0
    have qf := row_frozen FIN.out.1 0
    clear hown1 hgrow1 hat1 hlt1 hown2 hgrow2 hnn
    go_wp2
    go_end0
    exact ⟨⟨_, rfl⟩, ⟨_, FIN.out.2.1⟩, (hb2.out.mono hbs).trans FIN.out.2.2⟩

end Go.Proofs.YtlhpnkgdnmnclaaDoor
