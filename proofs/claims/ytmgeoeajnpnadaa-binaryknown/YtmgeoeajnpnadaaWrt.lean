/- Steps written as bytes, by the program. -/
import Derived.Test.YtmgeoeajnpnadaaAStp
namespace Go.Proofs.Ytmgeoeajnpnadaa
open Go.RowKit
set_option linter.unusedVariables false
set_option linter.unusedSimpArgs false

set_option maxRecDepth 100000 in
set_option maxHeartbeats 8000000 in
theorem write11 (a : Option Addr) (n c : Nat) (ss : List Lra.Stp) (w : World) (hn : ss.length = n) (hb : n ≤ 1000000) (hi : Lra.items ss ≤ 1000000) (hs : Steps w a ss) :
    Calls Try.prog 11 #[.slice a n c] w fun e w' => WOut w ss e w' := by
  have C17 := hid (tooMany17 a n c ss w hn (by omega) hs (by omega))
  rw [decide_eq_false (by omega)] at C17
  have HS := hid hs
  have HN := hid hn
  have HI := hid hi
  have sh := hs.shape
  rw [hn] at sh
  clear hs hn hi
  rcases sh with Z | ⟨b, off, rfl⟩
  all_goals
    go_enter Try.func11, Try.ntmps11
    go_wp2_with (first
      | (go_at_call 17; refine C17.out.mono ?_; clear C17; rintro e W1 ⟨rfl, hb1⟩
         have HB1 := hid hb1
         clear hb1))
    go_loopw [13] (fun iv wr => ∃ k : Nat, iv = .int .i64 k ∧ k ≤ n ∧ Hid ((ss.take k).all Lra.may = true) ∧ Hid (Below w.heap.size w wr)) (fun iv _ => n - (intOf iv).toNat)
    case atStart => exact ⟨0, rfl, by omega, hid (by simp), HB1⟩
    case round =>
      clear HB1
      obtain ⟨k, rfl, hk, HA, HB⟩ := hrel
      by_cases hlt : k < n
      · have hlt' : (k : Int) < n := by omega
        first
        | (exfalso; have := Z.out; omega)
        | (have hks : k < ss.length := by rw [HN.out]; exact hlt
           obtain ⟨a1, c1, a2, c2, hst⟩ := (HS.out.below HB.out).at (j := k) hks
           have HK := hid (show (ss.take (k + 1)).all Lra.may = ((ss.take k).all Lra.may && Lra.may ss[k]) by rw [List.take_succ_eq_append_getElem hks, List.all_append]; simp)
           have HM := hid (show Lra.may ss[k] = false → ss.all Lra.may = false from fun h => by
             cases e : ss.all Lra.may
             · rfl
             · have := List.all_eq_true.1 e _ (List.getElem_mem hks); rw [h] at this; cases this)
           have hbx := below_box wr (.cells #[.int .u8 ss[k].kind, .int .i64 ss[k].id, .slice a1 ss[k].lits.length c1, .slice a2 ss[k].hints.length c2] 43)
           have C18 := hid (mayBe18 ss[k] a1 c1 a2 c2 _ (hst.v.below hbx))
           have HBX := hid hbx
           unfold sval at C18
           obtain ⟨x0, x1, x2, x3, _⟩ := hst
           generalize ss[k] = s at x0 x1 x2 x3 C18 HK HM HBX hbx
           generalize s.lits.length = m1 at x2 C18 HBX hbx
           generalize s.hints.length = m2 at x3 C18 HBX hbx
           generalize s.kind = kd at x0 C18 HBX hbx
           generalize s.id = id at x1 C18 HBX hbx
           clear hbx
           cases hm : Lra.may s
           · have HF := hid (HM.out hm)
             rw [hm] at C18
             clear HK HM hm
             go_wp2_with (first
               | (go_at_call 18; refine C18.out.mono ?_; clear C18; rintro e W4 ⟨rfl, hb4⟩
                  have HB4 := hid (HB.out.trans ((HBX.out.trans (hb4.mono HBX.out.size)).mono HB.out.size))
                  clear hb4))
             go_ret2
             exact .inl ⟨HF.out, rfl, HB4.out⟩
           · have HK2 := hid (show (ss.take (k + 1)).all Lra.may = true by rw [HK.out, HA.out, hm]; rfl)
             rw [hm] at C18
             clear HK HM hm
             go_wp2_with (first
               | (go_at_call 18; refine C18.out.mono ?_; clear C18; rintro e W4 ⟨rfl, hb4⟩
                  have HB4 := hid (HB.out.trans ((HBX.out.trans (hb4.mono HBX.out.size)).mono HB.out.size))
                  clear hb4))
             go_roundw
             case rel => exact ⟨k + 1, by go_num, by omega, HK2, HB4⟩
             case measure => simp [intOf]; omega)
      · have hlt' : ¬ (k : Int) < n := by omega
        have HALL := hid (show ss.all Lra.may = true by
          have := HA.out
          rwa [List.take_of_length_le (by rw [HN.out]; omega)] at this)
        clear HA
        have HBW := hid HB.out
        clear HB
        go_wp2
        go_loopw [6, 23] (fun bv iv wr => ∃ (ys : List Int) (o : Option Addr) (k cp i : Nat), bv = .slice o k cp ∧ iv = .int .i64 i ∧ i ≤ n ∧ Hid (ys.length = k) ∧ Hid (ys = Bin.text (ss.take i)) ∧ Hid (wr.ownsRow w.heap.size 5 1 (.slice o k cp) k (ys.map (Value.int .u8))) ∧ Hid (Below w.heap.size w wr)) (fun _ iv _ => n - (intOf iv).toNat)
        case atStart => exact ⟨[], none, 0, 0, 0, rfl, rfl, by omega, hid rfl, hid (by simp [Bin.text]), hid (World.ownsRow_nil _ _ _ _), HBW⟩
        case round =>
          clear HBW hlt hlt'
          obtain ⟨ys, o, k2, cp, i, rfl, rfl, hi, HK, HE, HOW, HB⟩ := hrel
          by_cases hlt : i < n
          · have hlt' : (i : Int) < n := by omega
            first
            | (exfalso; have := Z.out; omega)
            | (have hks : i < ss.length := by rw [HN.out]; exact hlt
               obtain ⟨a1, c1, a2, c2, hst0⟩ := HS.out.at (j := i) hks
               have hst := hst0.below HB.out
               have HMY := hid (List.all_eq_true.1 HALL.out _ (List.getElem_mem hks))
               have HTK := hid (Lra.items_take ss i hks)
               have HTE := hid (Lra.items_le ss (i + 1))
               have HTX := hid (Bin.text_take ss i hks)
               have HV := hid hst0.v
               have HAI := hid (show (ss.take i).all Lra.may = true from List.all_eq_true.2 fun x hx => List.all_eq_true.1 HALL.out x (List.mem_of_mem_take hx))
               have HKL := hid (show k2 + 9 * (ss[i].lits.length + ss[i].hints.length + 4) ≤ 800000000 by
                 have e1 := HK.out
                 rw [HE.out] at e1
                 have e2 := Bin.text_len HAI.out
                 rw [List.length_take] at e2
                 have e3 := HTE.out
                 rw [HTK.out] at e3
                 have e4 := HI.out
                 omega)
               have hbx := below_box wr (.cells #[.int .u8 ss[i].kind, .int .i64 ss[i].id, .slice a1 ss[i].lits.length c1, .slice a2 ss[i].hints.length c2] 43)
               obtain ⟨q, hq⟩ : ∃ q, (ys ++ Bin.stp ss[i]).length = q := ⟨_, rfl⟩
               have C19 := hid ((appendStep19 w o k2 cp ys ss[i] a1 c1 a2 c2 _ HK.out HKL.out (own_below HOW.out hbx) (HB.out.trans (hbx.mono HB.out.size)) HV.out HMY.out).mono fun e W' r => r.len hq)
               have HQ := hid hq
               have HE2 := hid (show ys ++ Bin.stp ss[i] = Bin.text (ss.take (i + 1)) by rw [HTX.out, HE.out])
               unfold sval at C19
               obtain ⟨x0, x1, x2, x3, _⟩ := hst
               clear hq hbx HTX HTE HTK HKL HMY HV HAI hst0
               generalize ss[i] = s at x0 x1 x2 x3 C19 HE2 HQ
               generalize s.lits.length = m1 at x2 C19
               generalize s.hints.length = m2 at x3 C19
               generalize s.kind = kd at x0 C19
               generalize s.id = id at x1 C19
               go_wp2_with (go_at_call 19; refine C19.out.mono ?_; clear C19; rintro e W5 ⟨o5, c5, rfl, ho5, hb5⟩; have HO5 := hid ho5; have HB5 := hid hb5; clear ho5 hb5)
               go_roundw
               case rel => exact ⟨_, _, _, _, i + 1, rfl, by go_num, by omega, HQ, HE2, HO5, HB5⟩
               case measure => simp [intOf]; omega)
          · have hlt' : ¬ (i : Int) < n := by omega
            have HTL := hid (show ss.take i = ss from List.take_of_length_le (by rw [HN.out]; omega))
            go_wp2
            go_ret2
            have e1 := HE.out
            rw [HTL.out] at e1
            refine .inr ⟨HALL.out, ?_⟩
            rw [← e1, HK.out]
            exact ⟨_, _, rfl, HOW.out, HB.out⟩
end Go.Proofs.Ytmgeoeajnpnadaa
