/- The document's Extend. -/
import Derived.Test.YtjakfgpgcnbclaaTurn
import Derived.Maps.AppendAt
namespace Ext
theorem one_true {m : List Bool} {p : Wt} (h : Cnf.val p.2 m = true) : one m p = m := by simp [one, h]
theorem one_false {m : List Bool} {p : Wt} (h : Cnf.val p.2 m = false) : one m p = turn m p.1 := by simp [one, h]
theorem okC_pos {n : Nat} {c : List Int} (h : okC n c = true) (hc : 0 < c.length) : 0 < n := by
  have := okC_at h hc
  omega
end Ext
namespace Go.Proofs.Ytjakfgpgcnbclaa
open Go.RowKit
set_option linter.unusedVariables false
set_option linter.unusedSimpArgs false

theorem wpList_append_run {P : Program} {w w' : World} {ops : Array Oper} {rest : List Oper} {o : Oper} {a : Act} {Q : Exit → Act → World → Prop} (hgd : o.guard = none) (s x : Operand) (t u : TypeId)
    (ho : o.op = .call { callee := .builtin .append, args := #[s, x], argTypes := #[t, u] }) {v xv v' : Value} (hs : a.eval s = v) (hx : a.eval x = xv)
    (hrun : (Builtin.append_ #[t, u] o.type #[v, xv]).run P w = .ok v' w') (h : wpList P ops Q rest (a.put o.dst v') w') : wpList P ops Q (o :: rest) a w := by
  refine wpList_plain hgd fun K hK => ?_
  unfold Oper.wp
  simp [execOp, ho, resolve, invoke, builtin, hs, hx, hrun, Result.andThen]
  exact hK _ _ h
theorem grown_below {W B : World} (h : W.grownBy B none) : Below W.heap.size W B := ⟨h.os, h.tape, h.output, h.size, fun k hk => h.block k hk (by simp)⟩
theorem own_mown {B : Nat} {W : World} {a : Option Addr} {cap n : Nat} {bs : List Bool} (hn : bs.length = n) (h : W.ownsRow B 4 1 (.slice a n cap) n (bs.map Value.bool)) : MOwn B W a n bs := by
  refine ⟨hn, ?_⟩
  rcases h.2 with ⟨e, h0⟩ | ⟨g, cap', cur, e, h1, h2, h3, h4, h5, h6⟩
  · exact .inl h0
  · injection e with e1 e2 e3
    subst e1
    refine .inr ⟨g, cur, rfl, h1, h2, by omega, fun j hj => ?_⟩
    rw [← Array.getElem?_toList]
    have := congrArg (fun l : List Value => l[j]?) h6
    simp only [Nat.mul_one] at this
    rw [List.getElem?_take_of_lt (by omega)] at this
    rw [this]
    simp [List.getD, List.getElem?_eq_getElem (show j < bs.length by omega)]
theorem own_slc {W : World} {base n e size : Nat} {v : Value} {xs : List Value} (h : W.ownsRow base e size v n xs) : ∃ o c, v = .slice o n c := by
  rcases h.2 with ⟨e1, h0⟩ | ⟨g, c, cur, e1, _⟩
  · exact ⟨none, 0, by rw [e1, h0]⟩
  · exact ⟨_, _, e1⟩
/-- A model put behind nothing. -/
theorem copy_bools (W : World) (a : Option Addr) (n cap : Nat) (xs : List Bool) (hn : xs.length = n) (hb : n ≤ 16777216) (hx : Bools W a xs) :
    ∃ o c B, (Builtin.append_ #[23, 23] 23 #[.slice none 0 0, .slice a n cap]).run Try.prog W = .ok (.slice o n c) B ∧ MOwn W.heap.size B o n xs ∧ Below W.heap.size W B := by
  obtain ⟨i0, hi, hz⟩ := Option.map_eq_some_iff.1 info4
  simp only [Prod.mk.injEq] at hz
  cases a with
  | none =>
    have hz0 : xs = [] := by
      rcases hx with h | ⟨b, off, e, _⟩
      · exact h
      · cases e
    subst hz0
    simp at hn
    subst hn
    refine ⟨none, 0, W, ?_, ⟨rfl, .inl rfl⟩, Below.refl _ _⟩
    simp [Builtin.append_, run_underlying Try.underlying23, sizeOf, typeInfo, zeroValue, hi, hz.1, Builtin.lenOf, Question.forced, run_firstCells_none]
  | some x =>
    obtain ⟨v2, B, hr, ho2, hgb, _, _⟩ := run_append_own_at (P := Try.prog) W W.heap.size 23 23 4 i0 (.bool false) 1 1 Try.underlying23 hi hz.1 hz.2.1 hz.2.2 rfl (by decide) (.slice none 0 0) 0 [] (World.ownsRow_nil _ _ _ _) x n cap (xs.map Value.bool) (by simpa using hn) (fun j u hu => by
      have hj : j < xs.length := by
        rcases Nat.lt_or_ge j xs.length with h' | h'
        · exact h'
        · rw [List.getElem?_eq_none (by simpa using h')] at hu; cases hu
      rcases hx with h | ⟨b, off, e, hl, hc⟩
      · rw [h] at hj; simp at hj
      · cases e
        rw [show (⟨b, off, none⟩ : Addr).add j = ⟨b, off + j, none⟩ from Go.WideShapes.add_plain _ _ _, hc j hj]
        simp [List.getD, List.getElem?_eq_getElem hj] at hu ⊢
        exact hu) (by intro u hu; obtain ⟨x, _, rfl⟩ := List.mem_map.1 hu; rfl) (by simp [maxLen]; omega) (by omega) (Nat.le_refl _)
    obtain ⟨o, c, rfl⟩ := own_slc ho2
    rw [Nat.zero_add] at hr ho2
    rw [List.nil_append] at ho2
    exact ⟨o, c, B, hr, own_mown hn ho2, grown_below hgb⟩

/-- What Extend tells. -/
def ExtOut (w : World) (n : Nat) (m : List Bool) (s : List Ext.Wt) (e : Ending) (w' : World) : Prop :=
  (Ext.okS n s = false ∧ e = .returned (.tuple #[.slice none 0 0, .int .i64 4])) ∨ (Ext.okS n s = true ∧ ∃ o c, e = .returned (.tuple #[.slice o n c, .int .i64 0]) ∧ MOwn w.heap.size w' o n (Ext.ext m s))

set_option maxRecDepth 100000 in
set_option maxHeartbeats 4000000 in
theorem ext8 (a la : Option Addr) (n cap ln lcap : Nat) (m : List Bool) (s : List Ext.Wt) (w : World) (hm : m.length = n) (hn : n ≤ 16777216) (hbm : Bools w a m) (hs : s.length = ln) (hsn : ln ≤ 8796093022208) (hws : Wits w la s) :
    Calls Try.prog 8 #[.slice a n cap, .slice la ln lcap] w fun e w' => ExtOut w n m s e w' ∧ Below w.heap.size w w' := by
  have HS := hid hws
  have HN := hid hs
  have HMN := hid hm
  obtain ⟨o, c, B, hr, ho, hB⟩ := copy_bools w a n cap m hm hn hbm
  have HR := hid hr
  have HO := hid ho
  have HB := hid hB
  have sh : Hid (n = 0) ∨ ∃ g, o = some ⟨g, 0, none⟩ := by
    rcases Nat.eq_zero_or_pos n with h | h
    · exact .inl h
    · obtain ⟨g, e, _⟩ := ho.at h; exact .inr ⟨g, e⟩
  clear hws hs hm hr ho hB hbm
  go_enter Try.func8, Try.ntmps8
  go_wp2
  go_loop [6] (fun i => ∃ k : Nat, k ≤ ln ∧ i = .int .i64 k ∧ Hid (Ext.okS n (s.take k) = true)) (fun i => ln - (intOf i).toNat)
  case atStart => exact ⟨0, Nat.zero_le _, rfl, hid rfl⟩
  case round =>
    obtain ⟨k, hk, rfl, HV⟩ := hrel
    by_cases hlt : k < ln
    · have hlt' : (k : Int) < ln := by omega
      obtain ⟨b, off, a1, c1, a2, c2, rfl, hw⟩ := HS.out.at (j := k) (by rw [HN.out]; exact hlt)
      have HT := hid (Ext.okS_take n s k (by rw [HN.out]; exact hlt))
      have HF := hid (Ext.okS_false n s k (by rw [HN.out]; exact hlt))
      obtain ⟨x0, x1, hl, hc, hn1, hn2⟩ := hw
      generalize s.getD k ([], []) = p at x0 x1 hl hc hn1 hn2 HT HF
      have C1 := hid (right21 a1 p.1.length c1 n p.1 w rfl hn1 (by omega) hl)
      have C2 := hid (right21 a2 p.2.length c2 n p.2 w rfl hn2 (by omega) hc)
      generalize p.1.length = n1 at x0 C1
      generalize p.2.length = n2 at x1 C2
      clear hl hc hn1 hn2
      generalize Ext.okC n p.1 = r1 at C1 HT HF
      generalize Ext.okC n p.2 = r2 at C2 HT HF
      cases r1
      · go_wp2_with (go_at_call 21; refine C1.out.mono ?_; clear C1; rintro e w' ⟨rfl, hw'⟩; rw [hw']; clear hw')
        go_ret2
        exact ⟨.inl ⟨HF.out (by simp), rfl⟩, Below.refl _ _⟩
      · cases r2
        · go_wp2_with (go_at_call 21; first | (refine C1.out.mono ?_; clear C1; rintro e w' ⟨rfl, hw'⟩; rw [hw']; clear hw') | (refine C2.out.mono ?_; clear C2; rintro e w' ⟨rfl, hw'⟩; rw [hw']; clear hw'))
          go_ret2
          exact ⟨.inl ⟨HF.out (by simp), rfl⟩, Below.refl _ _⟩
        · go_wp2_with (go_at_call 21; first | (refine C1.out.mono ?_; clear C1; rintro e w' ⟨rfl, hw'⟩; rw [hw']; clear hw') | (refine C2.out.mono ?_; clear C2; rintro e w' ⟨rfl, hw'⟩; rw [hw']; clear hw'))
          go_round
          case rel => exact ⟨k + 1, by omega, by go_num, hid (by rw [HT.out, HV.out]; rfl)⟩
          case measure => simp [intOf]; omega
    · have hlt' : ¬ (k : Int) < ln := by omega
      have HK := hid (show Ext.okS n s = true by have h := HV.out; rwa [List.take_of_length_le (by rw [HN.out]; omega)] at h)
      clear HV hlt hk
      rcases sh with Z | ⟨g, rfl⟩
      all_goals
        go_wp2_with (at_builtin; refine wpList_append_run rfl (.tmp 37) (.tmp 38) 23 23 rfl rfl rfl HR.out ?_)
        go_loopw [8, 9, 10] (fun i _ _ wr => ∃ k : Nat, k ≤ ln ∧ i = .int .i64 ((k : Int) - 1) ∧ Hid (MOwn w.heap.size wr _ n (Ext.ext m (s.drop k))) ∧ Hid (Below w.heap.size w wr)) (fun i _ _ _ => (intOf i + 1).toNat)
        case atStart => exact ⟨ln, Nat.le_refl _, rfl, hid (by rw [List.drop_of_length_le (by rw [HN.out]; omega)]; exact HO.out), HB⟩
        case round =>
          clear HO HB HR
          obtain ⟨k, hk, rfl, HM, HW⟩ := hrel
          rcases Nat.eq_zero_or_pos k with h0 | hkp
          · have h0' : ¬ (0 : Int) ≤ (k : Int) - 1 := by omega
            go_wp2
            go_ret2
            have h := HM.out
            rw [h0, List.drop_zero] at h
            exact ⟨.inr ⟨HK.out, _, _, rfl, h⟩, HW.out⟩
          · obtain ⟨j, rfl⟩ : ∃ j, k = j + 1 := ⟨k - 1, by omega⟩
            rw [show ((j + 1 : Nat) : Int) - 1 = (j : Int) by omega]
            have hjl : j < s.length := by rw [HN.out]; omega
            have hj' : (j : Int) < ln := by omega
            have hj0 : (0 : Int) ≤ (j : Int) := by omega
            obtain ⟨b, off, a1, c1, a2, c2, rfl, hw⟩ := HS.out.at (j := j) hjl
            have hw2 := hw.below HW.out
            have HD := hid (Ext.ext_drop m s j hjl)
            have HOK := hid (Ext.okS_at HK.out hjl)
            obtain ⟨x0, x1, hl, hc, hn1, hn2⟩ := hw2
            have HWC := hid hw
            have HMl := hid (show (Ext.ext m (s.drop (j + 1))).length = n from HM.out.1)
            generalize s.getD j ([], []) = p at x0 x1 hl hc hn1 hn2 HD HOK HWC
            generalize Ext.ext m (s.drop (j + 1)) = M at HM HD HMl
            have C2 := hid (value22 a2 _ p.2.length c2 n c p.2 M wr rfl (by omega) HMl.out (by omega) hc HM.out.bools)
            clear hw hl hc
            obtain ⟨r, hr⟩ : ∃ r, Cnf.val p.2 M = r := ⟨_, rfl⟩
            rw [hr] at C2
            have HVR := hid hr
            clear hr
            cases r
            · generalize p.2.length = n2 at x1 hn2 C2
              have HD2 := hid (show Ext.ext m (s.drop j) = Ext.turn M p.1 by rw [HD.out, Ext.one_false HVR.out])
              obtain ⟨n1, hn1e⟩ : ∃ n1, p.1.length = n1 := ⟨_, rfl⟩
              rw [hn1e] at x0 hn1
              have HL1 := hid hn1e
              clear HD HVR hn1e
              go_wp2_with (go_at_call 22; refine C2.out.mono ?_; clear C2; rintro e w' ⟨rfl, hw'⟩; rw [hw']; clear hw')
              clear x0 x1
              obtain ⟨wo, hwo⟩ : ∃ wo, wo = wr := ⟨wr, rfl⟩
              subst hwo
              go_loopw [9, 10] (fun q _ wr => ∃ k : Nat, k ≤ n1 ∧ q = .int .i64 k ∧ Hid (MOwn w.heap.size wr _ n (Ext.turn M (p.1.take k))) ∧ Hid (Below w.heap.size w wr)) (fun q _ _ => n1 - (intOf q).toNat)
              case atStart => exact ⟨0, Nat.zero_le _, rfl, HM, HW⟩
              case round =>
                clear HM HW
                obtain ⟨q, hq, rfl, HM, HW⟩ := hrel
                obtain ⟨y0, y1, hl, _, _, _⟩ := HWC.out.below HW.out
                rw [HL1.out] at y0
                by_cases hqn : q < n1
                · first
                  | (exfalso; have := Ext.okC_pos HOK.out.1 (by rw [HL1.out]; omega); have := Z.out; omega)
                  | (have hqn' : (q : Int) < n1 := by omega
                     have hqs : q < p.1.length := by rw [HL1.out]; exact hqn
                     obtain ⟨b2, off2, rfl, hcx, hx1, hx2⟩ := hl.at (k := q) hqs
                     have HT := hid (Ext.turn_take M p.1 q hqs)
                     obtain ⟨hv0, hv1⟩ := Ext.okC_at HOK.out.1 hqs
                     unfold Ext.put at HT
                     generalize p.1.getD q 0 = x at hcx hx1 hx2 HT hv0 hv1
                     have HC := hid (var23 x wr hx1 hx2)
                     generalize Cnf.vr x = v at HC HT hv0 hv1
                     obtain ⟨t, ht⟩ : ∃ t : Nat, v = (t : Int) + 1 := ⟨(v - 1).toNat, by omega⟩
                     subst ht
                     rw [show ((t : Int) + 1 - 1).toNat = t by omega] at HT
                     have htn : t < n := by omega
                     have htn' : (t : Int) < n := by omega
                     obtain ⟨z0, z1, hgg⟩ := HM.out.cell htn
                     have HMS := hid (fun b => HM.out.set htn b)
                     have HWS := hid (fun b => HW.out.setCell (p := ⟨g, t, none⟩) hgg (.bool b))
                     clear HM HW hv0 hv1 hl y1 hgg
                     generalize (Ext.turn M (p.1.take q)).getD t false = old at z0
                     go_wp2_with (go_at_call 23; refine HC.out.mono ?_; rintro e w' ⟨rfl, hw'⟩; rw [hw']; clear hw')
                     go_roundw
                     case rel => exact ⟨q + 1, by omega, by go_num, hid (by rw [HT.out]; exact HMS.out _), hid (HWS.out _)⟩
                     case measure => simp [intOf]; omega)
                · have hqn' : ¬ (q : Int) < n1 := by omega
                  have HE := hid (show p.1.take q = p.1 from List.take_of_length_le (by rw [HL1.out]; omega))
                  clear hl y1
                  go_wp2
                  go_roundw
                  case rel => exact ⟨j, by omega, by go_num, hid (by rw [HD2.out]; have h := HM.out; rwa [HE.out] at h), HW⟩
                  case measure => simp [intOf] <;> omega
            · generalize p.2.length = n2 at x1 hn2 C2
              generalize p.1.length = n1 at x0 hn1
              have HD2 := hid (show Ext.ext m (s.drop j) = M by rw [HD.out, Ext.one_true HVR.out])
              clear HD HVR
              go_wp2_with (go_at_call 22; refine C2.out.mono ?_; clear C2; rintro e w' ⟨rfl, hw'⟩; rw [hw']; clear hw')
              go_roundw
              case rel => exact ⟨j, by omega, by go_num, hid (by rw [HD2.out]; exact HM.out), HW⟩
              case measure => simp [intOf] <;> omega
end Go.Proofs.Ytjakfgpgcnbclaa
