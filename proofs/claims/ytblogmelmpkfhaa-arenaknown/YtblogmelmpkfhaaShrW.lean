/- Shrink: the call. -/
import Derived.Test.YtblogmelmpkfhaaShr
namespace Go.Proofs.Ytblogmelmpkfhaa
open Go.RowKit Go.Maps
set_option linter.unusedVariables false

theorem wpList_clear_run {P : Program} {w w' : World} {ops : Array Oper} {rest : List Oper} {o : Oper} {a : Act} {Q : Exit → Act → World → Prop} (hgd : o.guard = none) (s : Operand) (t : TypeId)
    (ho : o.op = .call { callee := .builtin .clear, args := #[s], argTypes := #[t] }) {v v' : Value} (hs : a.eval s = v)
    (hrun : (Builtin.clear_ #[t] o.type #[v]).run P w = .ok v' w') (h : wpList P ops Q rest (a.put o.dst v') w') : wpList P ops Q (o :: rest) a w := by
  refine wpList_plain hgd fun K hK => ?_
  unfold Oper.wp
  simp [execOp, ho, resolve, invoke, builtin, hs, hrun, Result.andThen]
  exact hK _ _ h
set_option maxRecDepth 100000 in
set_option maxHeartbeats 2000000 in
theorem shrink17 {n ab lim : Nat} {M : List Arn.It} {W : World} (hA : Arx n ab lim M W) (r i : Int) (hr : I64 r) :
    Calls Try.prog 17 #[.pointer (some ⟨ab, 0, none⟩), .int .i64 r, .int .i64 i] W fun e w' => e = .returned (.int .i64 (Arn.errS (Arn.find M r) i)) ∧ Did n ab lim W (Arn.shrink M r i) w' := by
  obtain ⟨v, bm, h⟩ := hA
  have HL := hid (wrong43 h r hr)
  cases hx : Arn.find M r with
  | none =>
    rw [hx] at HL
    have HD := hid (fun (w' : World) (hw : Below W.heap.size W w') => show Did n ab lim W (Arn.shrink M r i) w' from ⟨by unfold Arn.shrink; rw [hx]; exact ⟨v, bm, h.below hw⟩, Fr.of_below hw⟩)
    clear h hr
    go_enter Try.func17, Try.ntmps17
    go_wp2_with (go_at_call 43; refine HL.out.mono ?_; rintro e w3 ⟨rfl, hw3⟩)
    go_ret
    exact ⟨rfl, HD.out _ hw3⟩
  | some x =>
    rw [hx] at HL
    obtain ⟨g, c, k, rfl, rfl, ha, hd, hok, hk, hfits, hN, hg, hgb, hc, hcm, hlt⟩ := h.hit hx
    have HC := hid (fun (w' : World) (hw : Below W.heap.size W w') => lits45 (h.below hw) ha)
    by_cases hi : 0 ≤ i ∧ i ≤ x.lits.length
    · obtain ⟨j, rfl⟩ : ∃ j : Nat, i = j := ⟨i.toNat, by omega⟩
      have hj : j ≤ x.lits.length := by omega
      have HK := hid (show Arn.shrink M k j = Arn.upd M k { x with lits := x.lits.take j } by
        unfold Arn.shrink; rw [hx]; simp only []; rw [if_pos hi, Int.toNat_natCast])
      have HE := hid (show Arn.errS (some x) j = 0 by simp only [Arn.errS]; rw [if_pos hi])
      rw [HE.out]
      have HB := hid (fun (w' : World) (hw : Below W.heap.size W w') => (h.below hw).facts)
      have HA := hid h
      have hh1 : 4 * (x.lits.length : Int) ≤ x.head := by unfold Arn.It.head; split <;> split <;> omega
      have hh2 : x.head ≤ 1073741827 := by unfold Arn.It.head; split <;> split <;> omega
      obtain ⟨L, hL⟩ : ∃ L, x.lits.length = L := ⟨_, rfl⟩
      obtain ⟨cc, hcc⟩ : ∃ cc, c - k - 4 = cc := ⟨_, rfl⟩
      have hccL : L ≤ cc := by omega
      have hcc2 : cc ≤ 9223372036854775807 := by omega
      have hjL : (j : Int) ≤ L := by omega
      have hL268 : L ≤ 268435456 := by omega
      have HLO := hid (show 0 < L → lo c k = k + 4 by intro h0; unfold lo; rw [if_neg (by omega)])
      obtain ⟨o0, ho0⟩ : ∃ o0, lo c k = o0 := ⟨_, rfl⟩
      rw [hL, hcc, ho0] at HC
      rw [hL] at hh1
      rw [ho0] at HLO
      obtain ⟨o1, ho1⟩ : ∃ o1 : Nat, (if cc = j then o0 else o0 + j) = o1 := ⟨_, rfl⟩
      have HO1 := hid (show 0 < x.lits.length - j → o1 = k + (4 + j) by
        intro h0
        rw [← ho1, if_neg (by omega), HLO.out (by omega)]
        omega)
      have hkN : (k : Int) < (Arn.size M : Nat) := by omega
      have hwl := Arn.waste_le h.ok
      have HX := hid hx
      have HAT := hid ha
      have HJ := hid hj
      have HDD := hid hd
      have HLL := hid hL
      clear h hr hx ha hok hj hi hd
      go_enter Try.func17, Try.ntmps17
      go_wp2_with (fail)
      go_at_call 43
      refine HL.out.mono ?_
      rintro e w3 ⟨rfl, hw3⟩
      clear HL
      have hA3 := HA.out.below hw3
      obtain ⟨W1, hr1, ho1', hg1⟩ := hA3.clr HAT.out j HJ.out 0 o1 HO1.out (cc - j)
      have hD := hA3.shr HAT.out HDD.out j HJ.out ho1' hg1 (x.head - 4 * (x.lits.length - j : Nat)) ((Arn.waste M : Nat) + (x.lits.length - j : Nat)) rfl rfl
      have HD1 := hid hD.1
      have HD2 := hid hD.2
      obtain ⟨_, curg, hgc⟩ := own_blk (g := g) hA3.own rfl
      have hne := (hA3.ne hgc).1
      have hblk1 : W1.heap[ab]? = _ := (hg1.block ab (lt_of_blk hA3.blk) (fun e => hne (by cases e; rfl))).trans hA3.blk
      have c1 := row_cell hblk1 1
      have c3 := row_cell hblk1 3
      have f3 := row_frozen hblk1 3
      have f0 := ho1'.frozenAt k
      have c0 : W1.cell? ⟨g, k, none⟩ = some (.int .u32 x.head) := by
        rw [ho1'.cellAt k (by omega), List.getElem?_map, List.append_assoc, List.getElem?_append_left (by rw [List.length_take, Arn.row_len hA3.ok]; omega), List.getElem?_take_of_lt (by omega)]
        have := hA3.word HAT.out 0 (by omega)
        rw [hA3.own.cellAt _ (by omega), List.getElem?_map, Nat.add_zero] at this
        exact this
      have hhv : x.head - 4 * ((x.lits.length - j : Nat) : Int) = x.head - (L - j) * 4 := by rw [HLL.out]; omega
      have hwv : ((Arn.waste M : Nat) : Int) + ((x.lits.length - j : Nat) : Int) = (Arn.waste M : Nat) + ((L : Int) - j) := by rw [HLL.out]; omega
      rw [hhv, hwv] at HD1 HD2
      have HR1 := hid hr1
      rw [HLL.out] at HR1
      generalize x.head = hv at *
      generalize Arn.size M = N at *
      generalize Arn.waste M = ws at *
      have hws2 : (ws : Int) ≤ 268435456 := by omega
      clear hr1 hD hA3 hblk1 ho1' hg1 hgc HA HB hgb hL hhv hwv
      have hb1 : (0 : Int) ≤ hv - (L - j) * 4 := by omega
      by_cases q1 : cc = j
      all_goals
        first | rw [if_pos q1] at ho1 | rw [if_neg q1] at ho1
        subst ho1
        have hrr := HR1.out
        first | rw [show cc - j = 0 by omega] at hrr | skip
        go_wp2_with (go_at_call 45; refine (HC.out _ hw3).mono ?_; rintro e w4 ⟨rfl, hw4⟩; rw [hw4]; clear hw4)
        go_ret
        exact ⟨rfl, by rw [HK.out]; exact ⟨⟨_, _, HD1.out⟩, (Fr.of_below hw3).trans HD2.out⟩⟩
    · have HD := hid (fun (w' : World) (hw : Below W.heap.size W w') => show Did n ab lim W (Arn.shrink M k i) w' from ⟨by unfold Arn.shrink; rw [hx]; simp only []; rw [if_neg hi]; exact ⟨_, bm, h.below hw⟩, Fr.of_below hw⟩)
      have HE := hid (show Arn.errS (some x) i = 2 by simp only [Arn.errS]; rw [if_neg hi])
      rw [HE.out]
      generalize x.lits.length = L at *
      clear h hr hx ha hok hd
      by_cases h1 : i < 0
      · go_enter Try.func17, Try.ntmps17
        go_wp2_with (first
          | (go_at_call 43; refine HL.out.mono ?_; rintro e w3 ⟨rfl, hw3⟩)
          | (go_at_call 45; refine (HC.out _ hw3).mono ?_; rintro e w4 ⟨rfl, hw4⟩; rw [hw4]; clear hw4))
        go_ret
        exact ⟨rfl, HD.out _ hw3⟩
      · have h2 : (L : Int) < i := by omega
        go_enter Try.func17, Try.ntmps17
        go_wp2_with (first
          | (go_at_call 43; refine HL.out.mono ?_; rintro e w3 ⟨rfl, hw3⟩)
          | (go_at_call 45; refine (HC.out _ hw3).mono ?_; rintro e w4 ⟨rfl, hw4⟩; rw [hw4]; clear hw4))
        go_ret
        exact ⟨rfl, HD.out _ hw3⟩
end Go.Proofs.Ytblogmelmpkfhaa
