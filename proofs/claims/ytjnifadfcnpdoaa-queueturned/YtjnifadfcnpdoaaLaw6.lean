/- QueueTurned: in which order variables are told, and how often each, changes nothing. -/
import Derived.Test.YtjnifadfcnpdoaaTwo
namespace Go.Proofs.Ytjnifadfcnpdoaa
open Go.RowKit Go.Maps
set_option linter.unusedVariables false
set_option maxRecDepth 100000

theorem step_append_run {P : Program} {w w' : World} {ops : Array Oper} {o : Oper} {a : Act} {K : Act → World → Prop} {Q : Exit → Act → World → Prop} {E : Prop} (hgd : o.guard = none) (s x : Operand) (t u : TypeId)
    (ho : o.op = .call { callee := .builtin .append, args := #[s, x], argTypes := #[t, u] }) {v xv v' : Value} (hs : a.eval s = v) (hx : a.eval x = xv)
    (hrun : (Builtin.append_ #[t, u] o.type #[v, xv]).run P w = .ok v' w') (h : K (a.put o.dst v') w') :
    if Region.wanted o (yielded ops a.tmps) = true then Oper.wp P o a w K Q else E := by
  have hw : Region.wanted o (yielded ops a.tmps) = true := by simp [Region.wanted, hgd]
  rw [if_pos hw]
  unfold Oper.wp
  simp [execOp, ho, resolve, invoke, builtin, hs, hx, hrun, Result.andThen]
  exact h
/-- While the second row is made. -/
structure TwI (W0 : World) (A B : Adr) (n : Nat) (p : Qst) (l : List Int) (k : Nat) (ov : Value) (W : World) : Prop where
  q : Qq W0.heap.size A B n (1048577 * 101) p p W
  row : W.ownsRow W0.heap.size 3 1 ov (Qp.tw (l.drop k)).length (iss (Qp.tw (l.drop k)))
  own : ∀ g, ov.ownBlock = some g → ¬ A.own g ∧ ¬ B.own g
  bel : Below W0.heap.size W0 W
theorem twI_next {W0 : World} {A B : Adr} {n : Nat} {p : Qst} {l : List Int} {k : Nat} {ov : Value} {W X : World} {x : Int} {g c : Nat} (h : TwI W0 A B n p l k ov W) (hd : l.drop (k - 1) = x :: l.drop k)
    (ho : X.ownsRow W0.heap.size 3 1 (.slice (some ⟨g, 0, none⟩) ((Qp.tw (l.drop k)).length + 2) c) ((Qp.tw (l.drop k)).length + 2) (iss (Qp.tw (l.drop k) ++ [x, x]))) (hf : Fq (fun q => ov.ownBlock ≠ some q) W.drew X) (hg : ov.ownBlock = some g ∨ W.heap.size ≤ g) :
    TwI W0 A B n p l (k - 1) (.slice (some ⟨g, 0, none⟩) ((Qp.tw (l.drop k)).length + 2) c) X := by
  have hd0 : Below W.heap.size W W.drew := (Below.refl _ _).drew
  have q0 := h.q.below hd0
  have e : Qp.tw (l.drop (k - 1)) = Qp.tw (l.drop k) ++ [x, x] := by rw [hd, Qp.tw_cons]
  refine ⟨⟨⟨q0.a.qx.keep hf (fun y hy e => (h.own y e).1 hy), h.q.a.new, h.q.a.all, h.q.a.k0⟩, ⟨q0.b.qx.keep hf (fun y hy e => (h.own y e).2 hy), h.q.b.new, h.q.b.all, h.q.b.k0⟩, h.q.ap⟩, ?_, ?_, ?_⟩
  · rw [e, List.length_append]; exact ho
  · intro y hy
    obtain rfl : g = y := by injection hy
    rcases hg with hg | hg
    · exact h.own _ hg
    · exact ⟨fun ha => by have := h.q.a.qx.lt ha; omega, fun ha => by have := h.q.b.qx.lt ha; omega⟩
  · refine h.bel.trans ((hd0.mono h.bel.size).trans (hf.below h.bel.size (fun y hy e => ?_)))
    have := (own_blk h.row e).1
    omega
theorem meas3 {k : Nat} (h : 0 < k) : ((((k - 1 : Nat) : Int) - 1) + 1).toNat < (((k : Int) - 1) + 1).toNat := by omega
set_option maxHeartbeats 8000000 in
theorem law6 (n : Int) {a b : Option Addr} {ca cb : Nat} {ss : List Opr} {l : List Int} {W : World} (h1 : Ops W a ss) (h8 : ss.length ≤ 8796093022208) (h2 : Iw W b l) (hl : l.length ≤ maxLen) :
    Calls Try.prog 6 #[.int .i64 n, .slice a ss.length ca, .slice b l.length cb] W fun e w' => e = .returned (.bool true) ∧ Below W.heap.size W w' := by
  have CW := hid (fun (w : World) (hb : Below W.heap.size W w) => show Calls Try.prog 9 #[] w fun e w' => e = .returned (.bool true) ∧ Below W.heap.size W w' from (works9 w).mono (by rintro e w' ⟨rfl, b1⟩; exact ⟨rfl, hb.trans (b1.mono hb.size)⟩))
  have C8 := hid (large8 (c := ca) n h1 h8)
  have HO := hid (fun (w : World) (hb : Below W.heap.size W w) => h1.below hb)
  have HL := hid (fun (w : World) (hb : Below W.heap.size W w) => h2.all hb)
  have hml := hid hl
  have hsh : Hid (l.length = 0) ∨ ∃ b' off, b = some ⟨b', off, none⟩ := by
    rcases Nat.eq_zero_or_pos l.length with h | h
    · exact .inl h
    · exact .inr (h2.blk h)
  have HF := hid (fun (e : lrg n ss = false) => And.intro (few_of e) (lrg_few e).1)
  generalize hD : lrg n ss = D at *
  obtain ⟨t, ht⟩ : ∃ t, l.length = t := ⟨_, rfl⟩
  obtain ⟨u, hu⟩ : ∃ u, ss.length = u := ⟨_, rfl⟩
  have HT := hid ht
  have HU := hid hu
  rw [hu] at C8
  rw [ht] at hsh
  rw [ht, hu]
  clear h1 h2 h8 hl ht hu hD
  go_enter Try.func6, Try.ntmps6
  go_wp2_with (fail)
  go_at_call 8
  refine C8.out.mono ?_
  rintro e w1 ⟨rfl, d1⟩
  have HD1 := hid (show Below W.heap.size W w1 from d1.below)
  clear d1 C8
  cases D
  · by_cases ht1 : (1000 : Int) < t
    · have C9 := hid (CW.out w1 HD1.out)
      go_wp2_with (fail)
      go_at_call 9
      refine C9.out.mono ?_
      rintro e w2 ⟨rfl, b2⟩
      have HB := hid b2
      clear b2 C9
      go_wp2
      go_ret
      exact ⟨rfl, HB.out⟩
    · obtain ⟨hfew, hnn⟩ := HF.out rfl
      have HFW := hid hfew
      have ht1' : t ≤ 1000 := by omega
      by_cases hn : n < 0 ∨ 1048576 < n
      · have CB := hid (fun (w : World) => bumped20_no (a := a) (l := u) (c := ca) n (W := w) hn)
        have C9 := hid (CW.out w1 HD1.out)
        clear hn hnn hfew
        go_wp2_with (fail)
        go_at_call 20
        refine (CB.out w1).mono ?_
        rintro e w2 ⟨rfl, hw2⟩
        rw [hw2]
        clear hw2
        go_wp2_with (fail)
        go_at_call 20
        refine (CB.out w1).mono ?_
        rintro e w2 ⟨rfl, hw2⟩
        rw [hw2]
        clear hw2
        go_wp2_with (fail)
        go_at_call 9
        refine C9.out.mono ?_
        rintro e w2 ⟨rfl, b2⟩
        have HB := hid b2
        clear b2 C9
        go_wp2
        go_ret
        exact ⟨rfl, HB.out⟩
      · obtain ⟨m, rfl⟩ : ∃ m : Nat, n = m := ⟨n.toNat, by omega⟩
        have hm : m ≤ 100 := by omega
        have CB := hid (fun (w : World) (hb : Below W.heap.size W w) => bumped20 (n := m) (c := ca) (by omega) (HO.out w hb) HFW.out)
        rw [HU.out] at CB
        have C1 := hid (CB.out w1 HD1.out)
        clear hn hnn hfew HF
        go_wp2_with (fail)
        go_at_call 20
        refine C1.out.mono ?_
        rintro e w2 ⟨A, rfl, q2, b2⟩
        have HB2 := hid (HD1.out.trans (b2.mono HD1.out.size))
        have C2 := hid (CB.out w2 HB2.out)
        have HQ2 := hid q2
        have HS := hid HD1.out.size
        clear q2 b2 C1 HD1
        go_wp2_with (fail)
        go_at_call 20
        refine C2.out.mono ?_
        rintro e w3 ⟨B, rfl, q3, b3⟩
        have HB3 := hid (HB2.out.trans (b3.mono HB2.out.size))
        have HQQ := hid (show Qq W.heap.size A B m (1048577 * 101) (runB m ss) (runB m ss) w3 from ⟨(HQ2.out.below b3).old HS.out, q3.old HB2.out.size, fun g ha hb => by
          have := HQ2.out.qx.lt ha
          have := q3.new g hb
          omega⟩)
        generalize runB m ss = p at *
        clear q3 b3 C2 CB HB2 HQ2 HS
        have hw1 : wrap64 ((t : Int) - 1) = (t : Int) - 1 := by unfold wrap64; omega
        have H0 := hid (show TwI W A B m p l t (.slice none 0 0) w3 from by
          refine ⟨HQQ.out, ?_, fun g hg => (by cases hg), HB3.out⟩
          rw [List.drop_of_length_le (by rw [HT.out]; exact Nat.le_refl _)]
          exact World.ownsRow_nil _ _ _ _)
        clear HQQ HB3
        go_wp2_with (fail)
        rcases hsh with Z | ⟨b', off, hb'⟩
        case' inr => subst hb'
        all_goals
          go_loopw [9, 10] (fun ov i wr => ∃ k : Nat, k ≤ t ∧ i = .int .i64 ((k : Int) - 1) ∧ Hid (TwI W A B m p l k ov wr)) (fun _ i _ => (intOf i + 1).toNat)
          case atStart => exact ⟨t, Nat.le_refl _, rfl, H0⟩
          case round =>
            obtain ⟨k, hk, rfl, HI⟩ := hrel
            obtain ⟨oo, cc, hoo⟩ := own_slc HI.out.row
            by_cases hlt : 0 < k
            · first
                | (exfalso; have := Z.out; omega)
                | (have hge : (0 : Int) ≤ (k : Int) - 1 := by omega
                   have hlt2 : (k : Int) - 1 < t := by omega
                   have hkl : k - 1 < l.length := by rw [HT.out]; omega
                   have x1 := (HL.out wr HI.out.bel).at hkl
                   have htn : ((k : Int) - 1).toNat = k - 1 := by omega
                   have hwk : wrap64 ((k : Int) - 1 - 1) = ((k - 1 : Nat) : Int) - 1 := by unfold wrap64; omega
                   have hdr := Qp.drop_at hkl
                   rw [show k - 1 + 1 = k by omega] at hdr
                   obtain ⟨g, c9, X, hr, ho, hbl, hgl⟩ := app2 (W := wr.drew) (own_below HI.out.row ((Below.refl _ _).drew)) HI.out.bel.size (l.getD (k - 1) 0) (l.getD (k - 1) 0) (by rw [Qp.tw_len]; simp; have := HT.out; omega)
                   have hN := twI_next HI.out hdr ho hbl hgl
                   have HN := hid (show TwI W A B m p l (k - 1) (.slice (some ⟨g, 0, none⟩) ((Qp.tw (l.drop k)).length + 2) c9) X from hN)
                   rw [hoo] at hr
                   have HRN := hid hr
                   generalize l.getD (k - 1) 0 = v at *
                   generalize (Qp.tw (l.drop k)).length = z at *
                   have hk1 : ((k - 1 : Nat) : Int) = (k : Int) - 1 := by omega
                   clear hr ho hbl hdr hkl H0 HI hN hgl
                   subst hoo
                   go_wp2_with (fail)
                   go_region_law (refine step_append_run rfl (.tmp 43) (.tmp 52) 32 32 (by rfl) (by rfl) (by rfl) HRN.out ?_)
                   all_goals
                     go_wp2_with (fail)
                     exact ⟨⟨k - 1, by omega, by rw [hk1], HN⟩, by simp only [intOf]; omega⟩)
            · have hk0 : k = 0 := by omega
              have hge : ¬ (0 : Int) ≤ (k : Int) - 1 := by omega
              generalize hkk : (k : Int) - 1 = kk at *
              have HI2 := hid HI.out
              rw [hk0, List.drop_zero] at hoo
              rw [hk0, hoo] at HI2
              clear HI hkk
              have HLW := hid (HL.out wr HI2.out.bel)
              have HIW := hid (iss_iw HI2.out.row)
              have CA := hid (HI2.out.q.a.bump HI2.out.bel.size (by omega) (c := cb) HLW.out (by have := HT.out; omega))
              rw [HT.out] at CA
              have htl := hid (Qp.tw_len l)
              clear hk0
              subst hoo
              go_wp2_with (fail)
              go_at_call 17
              refine CA.out.mono ?_
              rintro e w4 ⟨rfl, q4, b4, f4⟩
              have h4 : Qn W.heap.size B m (1048577 * 101) p.1 p.2 w4 := HI2.out.q.b.keep f4 (fun g hb ha => HI2.out.q.ap g ha hb)
              have o4 : w4.ownsRow W.heap.size 3 1 (.slice oo (Qp.tw l).length cc) (Qp.tw l).length (iss (Qp.tw l)) := own_fq HI2.out.row f4 (fun g hg => (HI2.out.own g hg).1)
              have HB4 := hid (HI2.out.bel.trans b4)
              have CB := hid (h4.bump (K := 1048577 * 101) HB4.out.size (by omega) (c := cc) (iss_iw o4) (by rw [Qp.tw_len]; have := HT.out; omega))
              have HQ4 := hid q4
              have HAP := hid HI2.out.q.ap
              obtain ⟨s1, s2, s3⟩ := Qp.bL_same (n := m) (Qp.tw_mem l) p.1 p.2
              have HS := hid (And.intro s1 s2)
              obtain ⟨ee, hee0⟩ : ∃ ee, Qp.bE m (Qp.tw l) = ee := ⟨_, rfl⟩
              have HEE := hid hee0
              rw [s3, hee0]
              clear hee0
              generalize (Qp.tw l).length = zz at *
              clear q4 b4 f4 h4 o4 CA HI2 HLW HIW s1 s2 s3 htl
              go_wp2_with (fail)
              go_at_call 17
              refine CB.out.mono ?_
              rintro e w5 ⟨rfl, q5, b5, f5⟩
              rw [HEE.out]
              have HQ5 := hid (show Qq W.heap.size A B m (1048577 * 101 + 1048577) (Qp.bL m l p.1, Qp.bS m l p.1 p.2) (Qp.bL m l p.1, Qp.bS m l p.1 p.2) w5 from ⟨HQ4.out.keep f5 HAP.out, by rw [HS.out.1, HS.out.2]; exact q5, HAP.out⟩)
              have HB5 := hid (HB4.out.trans b5)
              generalize (Qp.bL m l p.1, Qp.bS m l p.1 p.2) = r at *
              have CO := hid (order16 HQ5.out.a.qx)
              have hee : (ee != ee) = false := by simp
              clear q5 b5 f5 CB HB4 HQ4 HAP HS
              go_wp2_with (fail)
              go_at_call 16
              refine CO.out.mono ?_
              rintro e w6 ⟨o6, c6, rfl, ow6, b6⟩
              have HQ6 := hid (HQ5.out.below b6)
              have HB6 := hid (HB5.out.trans (b6.mono HB5.out.size))
              have CO2 := hid (order16 HQ6.out.b.qx)
              have HW6 := hid ow6
              have hrl := hid (show r.1.length ≤ 100 from by
                have h4 := List.Nodup.length_le_of_subset (l₂ := List.range' 1 m) HQ6.out.a.qx.rg.2.1 (fun x hx => by have := HQ6.out.a.qx.rg.1 x hx; rw [List.mem_range'_1]; omega)
                simp at h4
                omega)
              have CS := hid (fun (w : World) (o : Option Addr) (c : Nat) (hb : Below w6.heap.size w6 w) (ho : w.ownsRow w6.heap.size 3 1 (.slice o r.1.length c) r.1.length (inn r.1)) => same22 (c := c6) (d := c) (own_iw (own_below HW6.out hb)) (own_iw ho) (by rw [List.length_map]; have := hrl.out; omega) (by rw [List.length_map]; have := hrl.out; omega))
              rw [List.length_map] at CS
              generalize hrz : r.1.length = rz at *
              clear ow6 b6 CO HQ5 HB5
              go_wp2_with (fail)
              go_at_call 16
              refine CO2.out.mono ?_
              rintro e w7 ⟨o7, c7, rfl, ow7, b7⟩
              rw [hrz] at ow7 ⊢
              have HQ7 := hid (HQ6.out.below b7)
              have HB7 := hid (HB6.out.trans (b7.mono HB6.out.size))
              have CS7 := hid (CS.out w7 o7 c7 b7 ow7)
              clear ow7 b7 CO2 HQ6 HB6 CS
              go_wp2_with (fail)
              go_at_call 22
              refine CS7.out.mono ?_
              rintro e w8 ⟨rfl, d8⟩
              simp only [decide_true]
              have HQ8 := hid (HQ7.out.below d8.below)
              have HB8 := hid (HB7.out.trans (d8.below.mono HB7.out.size))
              clear d8 CS7 HQ7 HB7
              go_wp2_with (fail)
              have hm' : (m : Int) ≤ 100 := by omega
              go_loopw [13] (fun i wr => ∃ k : Nat, k ≤ m + 1 ∧ i = .int .i64 (k : Nat) ∧ wr = w8) (fun i _ => m + 1 - (intOf i).toNat)
              case atStart => exact ⟨0, Nat.zero_le _, rfl, rfl⟩
              case round =>
                obtain ⟨k, hk, rfl, hw⟩ := hrel
                rw [hw]
                clear hw
                by_cases hkm : k ≤ m
                · have hkm' : (k : Int) ≤ m := by omega
                  have hwk : wrap64 ((k : Int) + 1) = (k : Int) + 1 := by unfold wrap64; omega
                  have CA := hid (HQ8.out.a.stamp (k : Int))
                  have CB := hid (HQ8.out.b.stamp (k : Int))
                  generalize (if (1 : Int) ≤ (k : Int) ∧ (k : Int) ≤ (m : Int) then r.2.getD (Int.toNat (k : Int)) 0 else 0) = y at *
                  have hyy : (y != y) = false := by simp
                  go_wp2_with (fail)
                  go_at_call 18
                  refine CA.out.mono ?_
                  rintro e w9 ⟨rfl, hw9⟩
                  rw [hw9]
                  clear hw9
                  go_wp2_with (fail)
                  go_at_call 18
                  refine CB.out.mono ?_
                  rintro e w9 ⟨rfl, hw9⟩
                  rw [hw9]
                  clear hw9
                  go_wp2_with (fail)
                  exact ⟨⟨k + 1, by omega, by first | rfl | (rw [hwk]; rfl), trivial⟩, by first | (simp only [intOf]; exact meas (Nat.lt_succ_of_le hkm)) | (rw [hwk]; simp only [intOf]; exact meas (Nat.lt_succ_of_le hkm))⟩
                · have hkm' : ¬ (k : Int) ≤ m := by omega
                  have C9 := hid (CW.out w8 HB8.out)
                  go_wp2_with (fail)
                  go_at_call 9
                  refine C9.out.mono ?_
                  rintro e w2 ⟨rfl, b2⟩
                  have HB := hid b2
                  clear b2 C9
                  go_wp2
                  go_ret
                  exact ⟨rfl, HB.out⟩
  · have C9 := hid (CW.out w1 HD1.out)
    go_wp2_with (fail)
    go_at_call 9
    refine C9.out.mono ?_
    rintro e w2 ⟨rfl, b2⟩
    have HB := hid b2
    clear b2 C9
    go_wp2
    go_ret
    exact ⟨rfl, HB.out⟩
end Go.Proofs.Ytjnifadfcnpdoaa
