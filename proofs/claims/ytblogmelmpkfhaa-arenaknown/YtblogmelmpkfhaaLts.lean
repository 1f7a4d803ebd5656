/- The literals that the arena tells: new memory. -/
import Derived.Test.YtblogmelmpkfhaaRds
namespace Arn
/-- The first j of a row, noughts behind. -/
def part (xs : List Int) (j : Nat) : List Int := xs.take j ++ List.replicate (xs.length - j) 0
theorem part_set (xs : List Int) (j : Nat) (hj : j < xs.length) : (part xs j).set j (xs.getD j 0) = part xs (j + 1) := by
  unfold part
  apply List.ext_getElem?
  intro k
  rw [List.getElem?_set]
  by_cases h1 : j = k
  · subst h1
    rw [if_pos rfl, if_pos (by simp; omega), List.getElem?_append_left (by simp; omega), List.getElem?_take_of_lt (by omega)]
    simp [List.getD, List.getElem?_eq_getElem hj]
  · rw [if_neg h1]
    by_cases h2 : k < j
    · rw [List.getElem?_append_left (by simp; omega), List.getElem?_append_left (by simp; omega), List.getElem?_take_of_lt h2, List.getElem?_take_of_lt (by omega)]
    · rw [List.getElem?_append_right (by simp; omega), List.getElem?_append_right (by simp; omega)]
      simp only [List.length_take, List.getElem?_replicate]
      by_cases h3 : k < xs.length
      · rw [if_pos (by omega), if_pos (by omega)]
      · rw [if_neg (by omega), if_neg (by omega)]
theorem part_zero (xs : List Int) : part xs 0 = List.replicate xs.length 0 := by simp [part]
theorem part_all (xs : List Int) : part xs xs.length = xs := by simp [part]
end Arn
namespace Go.Proofs.Ytblogmelmpkfhaa
open Go.RowKit Go.Maps
set_option linter.unusedVariables false

theorem info48 : (Try.prog.info? 48).map (fun i => (i.zero, i.size, i.bytes)) = some (some (.int .i32 0), 1, 4) := by kernel_rfl
/-- A row of literals, new. -/
def LitsOut (n : Nat) (xs : List Int) (e : Ending) (w' : World) : Prop := ∃ v, e = .returned v ∧ w'.ownsRow n 48 1 v xs.length (xs.map (Value.int .i32))

set_option maxRecDepth 100000 in
set_option maxHeartbeats 2000000 in
theorem lits20 {n ab lim bm : Nat} {v : Value} {M : List Arn.It} {W : World} (h : Ar n ab lim v bm M W) (r : Int) (hr : I64 r) :
    Calls Try.prog 20 #[.pointer (some ⟨ab, 0, none⟩), .int .i64 r] W fun e w' => LitsOut W.heap.size (Arn.litsOf (Arn.find M r)) e w' ∧ Below W.heap.size W w' := by
  have HL := hid (live42 h r hr)
  cases hx : Arn.find M r with
  | none =>
    rw [hx] at HL
    go_enter Try.func20, Try.ntmps20
    go_wp2_with (go_at_call 42; refine HL.out.mono ?_; rintro e w3 ⟨rfl, hw3⟩)
    go_ret
    exact ⟨⟨_, rfl, World.ownsRow_nil _ _ _ _⟩, hw3⟩
  | some x =>
    rw [hx] at HL
    obtain ⟨g, c, k, rfl, rfl, ha, hd, hok, hk, hfits, hN, hg, hgb, hc, hcm, hlt⟩ := h.hit hx
    have HC := hid (fun (w' : World) (hw : Below W.heap.size W w') => lits45 (h.below hw) ha)
    have HW := hid (fun (w' : World) (hw : Below W.heap.size W w') (j : Nat) (hj : j < x.lits.length) => ((h.below hw).word ha (4 + j) (by omega)).trans (by rw [lit_word j hj]))
    have HLO := hid (show 0 < x.lits.length → lo c k = k + 4 by intro h0; unfold lo; rw [if_neg (by omega)])
    have HR := hid (show ∀ j, j < x.lits.length → IntKind.i32.wrap (Arn.u32 (x.lits.getD j 0)) = x.lits.getD j 0 ∧ 0 ≤ Arn.u32 (x.lits.getD j 0) ∧ Arn.u32 (x.lits.getD j 0) ≤ 4294967295 from fun j hj => by
      have hm := hok.lits _ (Arn.getD_mem x.lits j hj)
      exact ⟨i32_back _ hm.1 hm.2, by unfold Arn.u32; omega, by unfold Arn.u32; omega⟩)
    show Calls Try.prog 20 _ W fun e w' => LitsOut W.heap.size x.lits e w' ∧ Below W.heap.size W w'
    obtain ⟨i0, hi, hz⟩ := Option.map_eq_some_iff.1 info48
    simp only [Prod.mk.injEq] at hz
    have HM := hid (fun (w' : World) (hw : W.heap.size ≤ w'.heap.size) => run_make_full (P := Try.prog) w' W.heap.size 30 48 i0 (.int .i32 0) 1 Try.underlying30 hi hz.1 hz.2.1 .i64 .i64 x.lits.length (by rw [hz.2.2]; omega) (by unfold maxLen; omega) hw)
    have hL : x.lits.length ≤ 268435456 := by omega
    generalize hxs : x.lits = xs at *
    obtain ⟨L, hLn⟩ : ∃ L, xs.length = L := ⟨_, rfl⟩
    have HLn := hid hLn
    rw [hLn] at HC HW HLO HR HM hL hfits
    generalize lo c k = o at *
    generalize c - k - 4 = cc at *
    clear h hx hr ha hok hd hi hz hxs hLn hgb
    go_enter Try.func20, Try.ntmps20
    go_wp2_with (fail)
    go_at_call 42
    refine HL.out.mono ?_
    rintro e w3 ⟨rfl, hw3⟩
    clear HL
    go_wp2_with (fail)
    go_at_call 45
    refine (HC.out _ hw3).mono ?_
    rintro e w4 ⟨rfl, hw4⟩
    rw [hw4]
    clear hw4 w4 HC
    obtain ⟨w5, hmk, hown, hgr⟩ := HM.out w3 hw3.size
    have hB5 := hid (hw3.trans ((Below.refl _ _).grown hgr hw3.size (fun q hq => by cases hq)))
    have hO5 := hid hown
    have hG := hw3.size
    generalize w3.heap.size = G at *
    clear hown hgr HM hw3
    go_wp2
    go_loopw [21] (fun i wr => ∃ (j : Nat), j ≤ L ∧ i = .int .i64 j ∧ Hid (wr.ownsRow W.heap.size 48 1 (.slice (some ⟨G, 0, none⟩) L L) L ((Arn.part xs j).map (Value.int .i32))) ∧ Hid (Below W.heap.size W wr)) (fun i _ => L - (intOf i).toNat)
    case atStart => 
      refine ⟨0, Nat.zero_le _, rfl, ?_, hB5⟩
      rw [Arn.part_zero, HLn.out]
      have := hO5.out
      simp only [Nat.mul_one] at this
      rw [show (Value.int .i32 0).cells = #[.int .i32 0] from rfl, toList_madeCells_one] at this
      rw [List.map_replicate]
      exact hid this
    case round =>
      obtain ⟨j, hj, rfl, HO, HB⟩ := hrel
      by_cases hlt' : j < L
      · have hjL : (j : Int) < L := by omega
        have ho := HLO.out (by omega)
        subst ho
        have hc := HW.out wr HB.out j (by omega)
        rw [← Nat.add_assoc] at hc
        obtain ⟨hr1, hr2, hr3⟩ := HR.out j (by omega)
        have hst := HO.out.stored j (.int .i32 (xs.getD j 0))
        have hfz := HO.out.frozenAt j
        have hcl := HO.out.cellAt j (by omega)
        rw [List.getElem?_map, List.getElem?_eq_getElem (by simp [Arn.part, HLn.out]; omega), Option.map_some] at hcl
        have HS := hid (Arn.part_set xs j (by rw [HLn.out]; omega))
        rw [← List.map_set] at hst
        have HO' := hid hst.1
        have HB' := hid (HB.out.trans ((Below.refl _ wr).grown hst.2 HB.out.size (fun q hq => by cases hq; exact hG)))
        rw [HS.out] at HO'
        generalize xs.getD j 0 = lv at *
        generalize Arn.u32 lv = uv at *
        clear hst HS HO HB
        go_wp2
        go_roundw
        case rel => exact ⟨j + 1, by omega, by go_num, HO', HB'⟩
        case measure => simp [intOf]; omega
      · have hge : ¬ (j : Int) < L := by omega
        obtain rfl : j = L := by omega
        have HO' := HO.out
        rw [show Arn.part xs j = xs by rw [← HLn.out, Arn.part_all]] at HO'
        have HO2 := hid HO'
        clear HO'
        go_wp2
        go_ret
        exact ⟨⟨_, rfl, by rw [HLn.out]; exact HO2.out⟩, HB.out⟩
end Go.Proofs.Ytblogmelmpkfhaa
