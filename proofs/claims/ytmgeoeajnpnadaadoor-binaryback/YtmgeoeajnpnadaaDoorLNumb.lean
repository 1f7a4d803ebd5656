/- A number, a step on the page. -/
import Derived.Test.YtmgeoeajnpnadaaDoorLPage
import Derived.Test.YtmgeoeajnpnadaaDoorSteps
import Derived.Deep.RegionHeld3
import Derived.Deep.RegionLaw
namespace Go.Proofs.YtmgeoeajnpnadaaDoor
open Go.RowKit
set_option linter.unusedVariables false

theorem put_page (p v : Value) (ws xs : List Value) (k : Nat) (h : k + xs.length ≤ ws.length) : put (p :: v :: ws).toArray (2 + k) xs = (p :: v :: (ws.take k ++ xs ++ ws.drop (k + xs.length))).toArray := by
  unfold put
  rw [List.toList_toArray, show 2 + k = k + 1 + 1 by omega, List.take_succ_cons, List.take_succ_cons, show k + 1 + 1 + xs.length = k + xs.length + 1 + 1 by omega, List.drop_succ_cons, List.drop_succ_cons]
  simp
/-- What the page is behind what was written. -/
def PgTo (base pb : Nat) (W : World) (bs : List UInt8) : Prop := ∃ p v ws, Pg base pb W bs p v ws
abbrev Tab (base : Nat) (w0 : World) : Prop := Lib.TabBelow Tryd.prog base w0 "internal/strconv.uint64pow10" .u64 Lib.pow10Tab

theorem nDig_le (k : Nat) : ∀ u, u < 10 ^ (k + 1) → Lib.nDigits u ≤ k + 1 := by
  induction k with
  | zero => intro u h; rw [Lib.nDigits_small (by simpa using h)]; omega
  | succ k ih =>
    intro u h
    by_cases h10 : u < 10
    · rw [Lib.nDigits_small h10]; omega
    · rw [Lib.nDigits_big h10]
      have := ih (u / 10) (by rw [Nat.div_lt_iff_lt_mul (by omega)]; rw [Nat.pow_succ] at h; exact h)
      omega
theorem itoa_le (n : Int) (h0 : -9223372036854775808 ≤ n) (h1 : n ≤ 9223372036854775807) : (Lib.itoa n).length ≤ 20 := by
  by_cases hneg : n < 0
  · obtain ⟨u, rfl⟩ : ∃ u : Nat, n = -(u : Int) := ⟨n.natAbs, by omega⟩
    rw [Lib.itoa_neg u (by omega), List.length_cons, Lib.decDigits_length]
    have := nDig_le 18 u (by omega)
    omega
  · obtain ⟨u, rfl⟩ : ∃ u : Nat, n = u := ⟨n.toNat, by omega⟩
    rw [Lib.itoa_nonneg, Lib.decDigits_length]
    have := nDig_le 18 u (by omega)
    omega
theorem step_append_run4 {P : Program} {w w' : World} {ops : Array Oper} {o : Oper} {a : Act} {K : Act → World → Prop} {Q : Exit → Act → World → Prop} {E : Prop} (hgd : o.guard = none) (s x : Operand) (t u : TypeId)
    (ho : o.op = .call { callee := .builtin .append, args := #[s, x], argTypes := #[t, u] }) {v xv v' : Value} (hs : a.eval s = v) (hx : a.eval x = xv)
    (hrun : (Builtin.append_ #[t, u] o.type #[v, xv]).run P w = .ok v' w') (h : K (a.put o.dst v') w') :
    if Region.wanted o (yielded ops a.tmps) = true then Oper.wp P o a w K Q else E := by
  have hw : Region.wanted o (yielded ops a.tmps) = true := by simp [Region.wanted, hgd]
  rw [if_pos hw]
  unfold Oper.wp
  simp [execOp, ho, resolve, invoke, builtin, hs, hx, hrun, Result.andThen]
  exact h

set_option maxRecDepth 100000 in
set_option maxHeartbeats 4000000 in
theorem number37 (base pb : Nat) (w0 W : World) (bs : List UInt8) (n : Int) (c : UInt8) (h0 : -9223372036854775808 ≤ n) (h1 : n ≤ 9223372036854775807) (hP : PgTo base pb W bs) (hB : Below pb w0 W) (hT : Tab pb w0) (hb : base ≤ W.heap.size) (hl : bs.length + 21 ≤ 1099511627776) :
    Calls Tryd.prog 36 #[.pointer (some ⟨pb, 0, none⟩), .int .i64 n, .int .u8 (c.toNat : Int)] W fun e w' => (∃ r, e = .returned r) ∧ PgTo base pb w' (bs ++ (Lib.itoa n ++ [c])) ∧ Fr pb base W w' := by
  obtain ⟨p, v, ws, h⟩ := hP
  have hL := itoa_le n h0 h1
  obtain ⟨i0, hi, hz⟩ := Option.map_eq_some_iff.1 info5r
  simp only [Prod.mk.injEq] at hz
  have hal : Tryd.prog.arrayLen 47 = 21 := by kernel_rfl
  have hpl := (Array.getElem?_eq_some_iff.1 h.blk).1
  have hlt := h.lt
  have hsl : ∀ X, (Instr.sliceAt 47 (.pointer (some ⟨pb, 2, none⟩)) none (some (.int .i64 0)) none).run Tryd.prog X = .ok (.slice (some ⟨pb, 2, none⟩) 0 21) X := fun X => by
    rw [run_sliceAt_array_h X 47 ⟨pb, 2, none⟩ (by kernel_rfl) .i64 0 (by omega) (by rw [hal]; omega), hal]
    go_simp
  obtain ⟨I, hI⟩ : ∃ I, Lib.itoa n = I := ⟨_, rfl⟩
  have C57 := hid (fun (X : World) (hx : Below W.heap.size W X) => appendInt57 pb 2 21 n h0 h1 (p :: v :: ws).toArray 49 pb w0 X (hB.trans (hx.mono (by omega))) (Nat.le_refl _) (Nat.le_refl _) (by simp [h.len]) (by omega) (h.below hx).blk hT)
  rw [hI] at hL C57 ⊢
  have AP := hid (fun (Y : World) (nb : Nat) (hY : Y.heap[pb]? = some (.cells (put (p :: v :: ws).toArray 2 (Lib.byteCells I)) 49 (0, 0))) (hc : Y.cell? ⟨nb, 0, none⟩ = some (.int .u8 (c.toNat : Int))) =>
    run_append_in (P := Tryd.prog) Y 23 23 5 i0 Tryd.underlying23 hi hz.2.1 pb 2 I.length 21 _ 49 hY ⟨nb, 0, none⟩ 1 1 [.int .u8 (c.toNat : Int)] rfl (fun j u hu => by
      match j, hu with
      | 0, hu => simp at hu; subst hu; exact hc
      | j + 1, hu => simp at hu) (by intro u hu; simp at hu; subst hu; rfl) (by omega) (by rw [put_size _ _ _ (by simp [Lib.byteCells_length, h.len]; omega)]; simp [h.len]; omega))
  have PP : put (put (p :: v :: ws).toArray 2 (Lib.byteCells I)) (2 + I.length) [.int .u8 (c.toNat : Int)] = (p :: v :: (Lib.byteCells (I ++ [c]) ++ ws.drop (I.length + 1))).toArray := by
    have e1 := put_put (p :: v :: ws).toArray 2 (Lib.byteCells I) [.int .u8 (c.toNat : Int)] (by simp [Lib.byteCells_length, h.len]; omega)
    rw [Lib.byteCells_length] at e1
    rw [e1, show Lib.byteCells I ++ [.int .u8 (c.toNat : Int)] = Lib.byteCells (I ++ [c]) by simp [Lib.byteCells]]
    have e2 := put_page p v ws (Lib.byteCells (I ++ [c])) 0 (by rw [Lib.byteCells_length, h.len]; simp; omega)
    simp only [Nat.add_zero, List.take_zero, List.nil_append, Nat.zero_add] at e2
    rw [e2, Lib.byteCells_length]
    simp
  rw [PP] at AP
  have C56 := hid (fun (Z : World) (hz : Pg base pb Z bs p v (Lib.byteCells (I ++ [c]) ++ ws.drop (I.length + 1))) (hs : base ≤ Z.heap.size) => write56 base pb Z bs p v _ (I ++ [c]) 21 (by
    rw [List.take_append_of_le_length (by rw [Lib.byteCells_length]; exact Nat.le_refl _), List.take_of_length_le (by rw [Lib.byteCells_length]; exact Nat.le_refl _)]) hz hs (by simp; omega))
  rw [show (I ++ [c]).length = I.length + 1 by simp] at C56
  -- the page where the word has been written
  have PG := hid (fun (Y : World) (hx : Ex pb W.heap.size W Y) (hY : Y.heap[pb]? = some (.cells (put (p :: v :: ws).toArray 2 (Lib.byteCells I)) 49 (0, 0))) => (show Pg base pb (Y.setRow pb (p :: v :: (Lib.byteCells (I ++ [c]) ++ ws.drop (I.length + 1))).toArray) bs p v (Lib.byteCells (I ++ [c]) ++ ws.drop (I.length + 1)) from ⟨setRow_heap Y pb _ _ 49 (0, 0) hY, by rw [List.length_append, Lib.byteCells_length, List.length_drop, h.len]; simp; omega, h.ptr, by
      refine ⟨h.own.1, h.own.2.imp id ?_⟩
      rintro ⟨g, cc, cur, e1, g1, g2, g3⟩
      exact ⟨g, cc, cur, e1, g1, (setRow_other Y pb g _ (by omega)).trans ((hx.block g (Array.getElem?_eq_some_iff.1 g2).1 (by omega)).trans g2), g3⟩, h.lt⟩))
  have HH := hid h
  clear PP h hi hz hal hT hB
  go_enter Tryd.func36, Tryd.ntmps36
  go_wp2
  go_region_law (first
    | (go_simp; go_at_call 50; refine (C57.out _ (Below.refl _ _).drew).mono ?_; rintro e X1 ⟨rfl, hg1, hx1⟩
       have hxW : Ex pb W.heap.size W X1 := ⟨hx1.os, hx1.tape, hx1.output, hx1.size, hx1.block⟩
       have bY := below_box X1 (.cells #[.int .u8 (c.toNat : Int)] 5)
       have hxY : Ex pb W.heap.size W (X1.alloc (.cells #[.int .u8 (c.toNat : Int)] 5)) := hxW.trans (Ex.of_below (bY.mono hxW.size))
       have hgY := (bY.block pb (Array.getElem?_eq_some_iff.1 hg1).1).trans hg1
       have HR := hid (AP.out _ X1.heap.size hgY (by rw [row_cell (heap_alloc_new X1 _) 0]; rfl))
       have C56' := hid (C56.out _ (PG.out _ hxY hgY) (by have := hxY.size; simp [World.setRow] at this ⊢; omega))
       have HXX := hid (hxY.trans (Ex.setRow pb W.heap.size _ (p :: v :: (Lib.byteCells (I ++ [c]) ++ ws.drop (I.length + 1))).toArray))
       clear hg1 hx1 hxW bY hxY hgY AP C56 PG C57)
    | (go_simp; go_at_call 50; refine (C57.out _ (((Below.refl _ _).drew).alloc (Nat.le_refl _) _)).mono ?_; rintro e X1 ⟨rfl, hg1, hx1⟩
       have bY := below_box W (.cells #[.int .u8 (c.toNat : Int)] 5)
       have hcn := (hx1.block W.heap.size (by simp) (by omega)).trans (heap_alloc_new W.drew (.cells #[.int .u8 (c.toNat : Int)] 5))
       have hxW : Ex pb W.heap.size W X1 := (Ex.of_below bY).trans ⟨hx1.os, hx1.tape, hx1.output, hx1.size, fun i hi hne => hx1.block i (by simp; omega) hne⟩
       have HR := hid (AP.out _ W.heap.size hg1 (by rw [row_cell hcn 0]; rfl))
       have C56' := hid (C56.out _ (PG.out _ hxW hg1) (by have := hxW.size; simp [World.setRow] at this ⊢; omega))
       have HXX := hid (hxW.trans (Ex.setRow pb W.heap.size _ (p :: v :: (Lib.byteCells (I ++ [c]) ++ ws.drop (I.length + 1))).toArray))
       clear hg1 hx1 hxW bY hcn AP C56 PG C57)
    | (refine step_append_run4 rfl (.tmp 14) (.tmp 16) 23 23 (by rfl) (by rfl) (by rfl) HR.out ?_)
    | (go_simp; go_at_call 49; refine C56'.out.mono ?_; clear C56'; rintro e X2 ⟨⟨r, rfl⟩, hp2, hx2⟩
       have HP2 := hid hp2
       have HX2 := hid ((Fr.of_ex HXX.out hb).trans hx2)
       clear hp2 hx2))
  all_goals
    go_wp2
    go_end0
    obtain ⟨p', v', hp'⟩ := HP2.out
    exact ⟨⟨_, rfl⟩, ⟨p', v', _, hp'⟩, HX2.out⟩
end Go.Proofs.YtmgeoeajnpnadaaDoor
