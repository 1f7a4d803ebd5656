/- A line read, by the program. -/
import Derived.Test.YtdodfmgbjfhnpaaDoorRd28
namespace Go.Proofs.YtdodfmgbjfhnpaaDoor
open Go.RowKit
set_option linter.unusedVariables false
set_option linter.unusedSimpArgs false

theorem gone50 (base rb : Nat) (W : World) (rest : ByteArray) (more : Bool) (kd id : Int) (ls : List Int) (it : Nat) (lv hv : Value) (h : RdO base rb W rest more kd id ls [] it lv hv) (hb : base ≤ W.heap.size) (hS : it + far rest more ≤ 16777216) (hz : rest.size ≤ 16777216) :
    Calls Tryd.prog 50 #[.pointer (some ⟨rb, 0, none⟩), .func (.func 51) #[.pointer (some ⟨rb, 0, none⟩)] #[]] W fun e w' => HintsW Lra.added base rb W rest more kd id ls it lv hv e w' :=
  (list50_51 base rb W rest more kd id ls it lv hv h hb (by omega) (by omega)).mono fun e w' q => hints_words hS q
theorem hnts50 (base rb : Nat) (W : World) (rest : ByteArray) (more : Bool) (kd id : Int) (ls : List Int) (it : Nat) (lv hv : Value) (h : RdO base rb W rest more kd id ls [] it lv hv) (hb : base ≤ W.heap.size) (hS : it + far rest more ≤ 16777216) (hz : rest.size ≤ 16777216) :
    Calls Tryd.prog 50 #[.pointer (some ⟨rb, 0, none⟩), .func (.func 53) #[.pointer (some ⟨rb, 0, none⟩)] #[]] W fun e w' => HintsW Lra.hint base rb W rest more kd id ls it lv hv e w' :=
  (list50_53 base rb W rest more kd id ls it lv hv h hb (by omega) (by omega)).mono fun e w' q => hints_words hS q
theorem lits50 (base rb : Nat) (W : World) (rest : ByteArray) (more : Bool) (kd id : Int) (hs : List Int) (it : Nat) (lv hv : Value) (h : RdO base rb W rest more kd id [] hs it lv hv) (hb : base ≤ W.heap.size) (hS : it + far rest more ≤ 16777216) (hz : rest.size ≤ 16777216) :
    Calls Tryd.prog 50 #[.pointer (some ⟨rb, 0, none⟩), .func (.func 52) #[.pointer (some ⟨rb, 0, none⟩)] #[]] W fun e w' => LitsW Lra.literal base rb W rest more kd id hs it lv hv e w' :=
  (list50_52 base rb W rest more kd id hs it lv hv h hb (by omega) (by omega)).mono fun e w' q => lits_words hS q

set_option maxRecDepth 100000 in
set_option maxHeartbeats 8000000 in
theorem read28 (base rb : Nat) (W : World) (L rest0 : ByteArray) (more0 : Bool) (kd id : Int) (ls hs : List Int) (it : Int) (lv hv : Value) (h : RdO base rb W rest0 more0 kd id ls hs it lv hv) (hb : base ≤ W.heap.size) (hz : L.size ≤ 1000000) :
    Calls Tryd.prog 28 #[.pointer (some ⟨rb, 0, none⟩), .string L] W fun e w' => ReadTo base rb W lv hv (Lra.stepLine (Lra.ints L)) e w' := by
  obtain ⟨o1, n1, rfl⟩ := own_slc h.lo
  obtain ⟨o2, n2, rfl⟩ := own_slc h.ho
  have c0 := h.rd.cells 0 _ rfl
  have c1 := h.rd.cells 1 _ rfl
  have c2 := h.rd.cells 2 _ rfl
  have c3 := h.rd.cells 3 _ rfl
  have c4 := h.rd.cells 4 _ rfl
  have c5 := h.rd.cells 5 _ rfl
  have c6 := h.rd.cells 6 _ rfl
  have f0 := row_frozen h.rd.blk 0
  have f1 := row_frozen h.rd.blk 1
  have f2 := row_frozen h.rd.blk 2
  have f3 := row_frozen h.rd.blk 3
  have f4 := row_frozen h.rd.blk 4
  have f5 := row_frozen h.rd.blk 5
  have f6 := row_frozen h.rd.blk 6
  have hL : (L.size : Int) ≤ 1000000 := by omega
  have H46 := cutSuffix46 L W (by omega)
  have HN := fun r m => h.anew r m
  have MN := fun r m => Mv.anew rb W r m o1 o2 ls.length hs.length n1 n2
  by_cases hE : Ended L
  · have K46 := hid (H46.mono (R' := fun e w' => e = .returned (.tuple #[.string (L.extract 0 (L.size - 1)), .bool true]) ∧ w' = W) (by
      rintro e w' ⟨(⟨_, rfl⟩ | ⟨h9, _⟩), rfl⟩
      · exact ⟨rfl, rfl⟩
      · exact absurd hE h9))
    have hzR : (L.extract 0 (L.size - 1)).size ≤ 1000000 := by rw [ByteArray.size_extract]; omega
    have HR := HN (L.extract 0 (L.size - 1)) true
    have HM := hid (MN (L.extract 0 (L.size - 1)) true)
    rw [stepLine_ended L hE]
    clear HN MN H46 h
    unfold anew at HR HM
    generalize L.extract 0 (L.size - 1) = r at *
    generalize ls.length = m1 at *
    generalize hs.length = m2 at *
    obtain ⟨W2, hW2⟩ : ∃ W2, (((((((W.setCell ⟨rb, 0, none⟩ (.string r)).setCell ⟨rb, 1, none⟩ (.bool true)).setCell ⟨rb, 2, none⟩ (.int .u8 0)).setCell ⟨rb, 3, none⟩ (.int .i64 0)).setCell ⟨rb, 4, none⟩ (.slice o1 0 n1)).setCell ⟨rb, 5, none⟩ (.slice o2 0 n2)).setCell ⟨rb, 6, none⟩ (.int .i64 0)).drew = W2 := ⟨_, rfl⟩
    rw [hW2] at HR HM
    have H47 := one47 base rb W2 r true 0 0 [] [] 0 (.slice o1 0 n1) (.slice o2 0 n2) HR (by omega)
    obtain ⟨hw, hw2⟩ := wordsOf_word r
    have hws := (wordB_size r true).2
    rw [hw]
    generalize (wordB r true).2.2 = p3 at *
    generalize (wordB r true).2.1 = p2 at *
    generalize (wordB r true).1 = p1 at *
    have K47 := hid H47
    have HWE := hid hW2
    have hb2 := hid (Nat.le_trans hb HM.out.size)
    have HZ := hid (show p2.size ≤ 1000000 by omega)
    have HP := hid hw2
    generalize hv1 : Value.slice o1 m1 n1 = lv at *
    generalize hv2 : Value.slice o2 m2 n2 = hv at *
    clear HR H47 hw hws hw2 hE hb hW2
    go_enter Tryd.func28, Tryd.ntmps28
    subst hv1 hv2
    go_wp2_with (go_at_call 46; refine K46.out.mono ?_; clear K46; rintro e W1 ⟨rfl, rfl⟩)
    go_region
    rw [HWE.out]
    clear c0 c1 c2 c3 c4 c5 c6 f0 f1 f2 f3 f4 f5 f6 HWE
    cases hn : Lra.numL (Lra.ints p1) with
    | none =>
      have HS := hid (show Lra.stepW (Lra.ints p1 :: wordsOf p2 p3) = none by rw [Lra.stepW, hn])
      go_wp2_with (go_at_call 47; refine K47.out.mono ?_; clear K47; rintro e W3 (⟨h3, rfl, hR, hM⟩ | ⟨n, h3, rfl, hR, hM⟩) <;> first | (rw [hn] at h3; cases h3; done) | (have HM3 := hid hM; clear hR hM))
      go_ret
      exact .inl ⟨HS.out, rfl, _, _, HM.out.trans HM3.out⟩
    | some n =>
      have K2 := hid (K47.out.mono (R' := fun e w' => e = .returned (.bool (Lra.known n)) ∧ RdO base rb w' p2 p3 0 n [] [] 0 (.slice o1 0 n1) (.slice o2 0 n2) ∧ Mv rb W2 w' (.slice o1 0 n1) (.slice o2 0 n2) (.slice o1 0 n1) (.slice o2 0 n2)) (by
        rintro e W3 (⟨h3, _⟩ | ⟨n', h3, he, hR, hM⟩)
        · rw [hn] at h3; cases h3
        · rw [hn] at h3; cases h3; exact ⟨he, hR, hM⟩))
      clear K47
      cases hk : Lra.known n
      · have HS := hid (show Lra.stepW (Lra.ints p1 :: wordsOf p2 p3) = none by rw [Lra.stepW, hn]; simp [hk])
        rw [hk] at K2
        go_wp2_with (go_at_call 47; refine K2.out.mono ?_; clear K2; rintro e W3 ⟨rfl, hR, hM⟩; have HM3 := hid hM; clear hR hM)
        go_ret
        exact .inl ⟨HS.out, rfl, _, _, HM.out.trans HM3.out⟩
      · rw [hk] at K2
        by_cases hl : Lettered p2
        · have hp3 : p3 = true := by
            cases p3
            · have := HP.out rfl
              rw [this] at hl
              exact absurd hl.two (by decide)
            · rfl
          subst hp3
          have hws := (wordsOf_letter p2).1 hl
          have HS0 := show Lra.stepW (Lra.ints p1 :: wordsOf p2 true) = Lra.delW n (wordsOf (p2.extract 2 p2.size) true) by
            rw [Lra.stepW, hn]
            simp only [hk, if_true]
            rw [hws, if_pos ⟨rfl, by simpa using fun e => by have := (wordsOf_nil (p2.extract 2 p2.size) true).1 e; cases this⟩]
            rfl
          have HS := hid HS0
          clear HS0 hws
          have HL := hid hl
          have hz2 : (p2.extract 2 p2.size).size ≤ 1000000 := by rw [ByteArray.size_extract]; have := HZ.out; omega
          have hf2 : 0 + far (p2.extract 2 p2.size) true ≤ 16777216 := by have := far_le (p2.extract 2 p2.size) true; omega
          have HB3 := hid (fun (W3 : World) (hM : Mv rb W2 W3 (.slice o1 0 n1) (.slice o2 0 n2) (.slice o1 0 n1) (.slice o2 0 n2)) => Nat.le_trans hb2.out hM.size)
          have C49 := hid (fun (W3 : World) (hR : RdO base rb W3 p2 true 0 n [] [] 0 (.slice o1 0 n1) (.slice o2 0 n2)) => (takeLetter49 rb W3 p2 true 0 n (.slice o1 0 n1) (.slice o2 0 n2) 0 hR.rd).mono (R' := fun e w' => e = .returned (.bool true) ∧ w' = W3.setCell ⟨rb, 0, none⟩ (.string (p2.extract 2 p2.size))) (by
            rintro e w' (⟨_, h1, h2⟩ | ⟨h1, _⟩)
            · exact ⟨h1, h2⟩
            · exact absurd HL.out h1))
          have C50 := hid (fun (W5 : World) (hR : RdO base rb W5 (p2.extract 2 p2.size) true 2 n [] [] ((0 : Nat) : Int) (.slice o1 0 n1) (.slice o2 0 n2)) (hb5 : base ≤ W5.heap.size) => gone50 base rb W5 (p2.extract 2 p2.size) true 2 n [] 0 (.slice o1 0 n1) (.slice o2 0 n2) hR hb5 hf2 (by omega))
          generalize p2.extract 2 p2.size = q2 at *
          clear hl hk hn HP HZ hz2 hf2
          go_wp2_with (first
            | (go_at_call 47; refine K2.out.mono ?_; clear K2; rintro e W3 ⟨rfl, hR, hM⟩
               have HM3 := hid hM
               have HR3 := hid hR
               have hR4 := hR.rests q2
               have k2 := hR4.rd.cells 2 _ rfl
               have g2 := row_frozen hR4.rd.blk 2
               have HR5 := hid (hR4.kinds 2)
               clear hR hM hR4)
            | (go_at_call 49; refine (C49.out _ HR3.out).mono ?_; clear C49; rintro e W4 ⟨rfl, rfl⟩)
            | (go_at_call 50; refine (C50.out _ HR5.out (by have := HB3.out W3 HM3.out; simpa [World.setCell] using this)).mono ?_; clear C50
               rintro e W6 (⟨h6, rfl, lv', hv', hM⟩ | ⟨xs, q3, q4, hv', h6, rfl, hR, hM, _, _⟩) <;> first
                 | (have k1 := hR.rd.cells 1 _ rfl
                    have HM6 := hid hM
                    have H6 := hid h6
                    have HR6 := hid hR
                    clear hM h6 hR
                    cases q4)
                 | (have HM6 := hid hM
                    have H6 := hid h6
                    clear hM h6)))
          · go_ret
            exact .inl ⟨by rw [HS.out, Lra.delW, H6.out], rfl, _, _, HM.out.trans (HM3.out.trans ((Mv.set rb 0 _ _ _ _).trans ((Mv.set rb 2 _ _ _ _).trans HM6.out)))⟩
          · go_ret
            refine .inr ⟨⟨2, n, [], xs⟩, q3, false, _, hv', by rw [HS.out, Lra.delW, H6.out]; rfl, rfl, ?_, HM.out.trans (HM3.out.trans ((Mv.set rb 0 _ _ _ _).trans ((Mv.set rb 2 _ _ _ _).trans HM6.out)))⟩
            simpa using HR6.out
          · go_ret
            refine .inl ⟨?_, rfl, _, _, HM.out.trans (HM3.out.trans ((Mv.set rb 0 _ _ _ _).trans ((Mv.set rb 2 _ _ _ _).trans HM6.out)))⟩
            rw [HS.out, Lra.delW, H6.out]
            simp [wordsOf_nil]
        · have HS0 := show Lra.stepW (Lra.ints p1 :: wordsOf p2 p3) = Lra.addW n (wordsOf p2 p3) by
            rw [Lra.stepW, hn]
            simp only [hk, if_true]
            rw [if_neg]
            cases p3
            · rw [(wordsOf_nil p2 false).2 rfl]; simp
            · exact (wordsOf_letter p2).2 hl
          have HS := hid HS0
          clear HS0
          have HL := hid hl
          have hf2 : 0 + far p2 p3 ≤ 16777216 := by have := far_le p2 p3; have := HZ.out; omega
          have HF2 := hid hf2
          have HB3 := hid (fun (W3 : World) (hM : Mv rb W2 W3 (.slice o1 0 n1) (.slice o2 0 n2) (.slice o1 0 n1) (.slice o2 0 n2)) => Nat.le_trans hb2.out hM.size)
          have C49 := hid (fun (W3 : World) (hR : RdO base rb W3 p2 p3 0 n [] [] 0 (.slice o1 0 n1) (.slice o2 0 n2)) => (takeLetter49 rb W3 p2 p3 0 n (.slice o1 0 n1) (.slice o2 0 n2) 0 hR.rd).mono (R' := fun e w' => e = .returned (.bool false) ∧ w' = W3) (by
            rintro e w' (⟨h1, _⟩ | ⟨_, h1, h2⟩)
            · exact absurd h1 HL.out
            · exact ⟨h1, h2⟩))
          have C52 := hid (fun (W5 : World) (hR : RdO base rb W5 p2 p3 1 n [] [] ((0 : Nat) : Int) (.slice o1 0 n1) (.slice o2 0 n2)) (hb5 : base ≤ W5.heap.size) => lits50 base rb W5 p2 p3 1 n [] 0 (.slice o1 0 n1) (.slice o2 0 n2) hR hb5 hf2 (by have := HZ.out; omega))
          have C31 := fun w => added31 n w
          clear hl hk hn HP hf2
          cases ha : Lra.added n
          · rw [ha] at C31
            have K31 := hid C31
            clear C31
            have HA := hid (show Lra.stepW (Lra.ints p1 :: wordsOf p2 p3) = none by rw [HS.out, Lra.addW, ha]; rfl)
            clear HS ha C52 HZ
            go_wp2_with (first
              | (go_at_call 47; refine K2.out.mono ?_; clear K2; rintro e W3 ⟨rfl, hR, hM⟩
                 have HM3 := hid hM
                 have HR3 := hid hR
                 have k2 := hR.rd.cells 2 _ rfl
                 have g2 := row_frozen hR.rd.blk 2
                 have k3 := (hR.kinds 1).rd.cells 3 _ rfl
                 clear hR hM)
              | (go_at_call 49; refine (C49.out _ HR3.out).mono ?_; clear C49; rintro e W4 ⟨rfl, rfl⟩)
              | (go_at_call 31; refine (K31.out _).mono ?_; clear K31; rintro e W5 ⟨rfl, rfl⟩))
            go_ret
            exact .inl ⟨HA.out, rfl, _, _, HM.out.trans (HM3.out.trans (Mv.set rb 2 _ _ _ _))⟩
          · rw [ha] at C31
            have K31 := hid C31
            have HA := hid ha
            clear C31 ha
            go_wp2_with (first
              | (go_at_call 47; refine K2.out.mono ?_; clear K2; rintro e W3 ⟨rfl, hR, hM⟩
                 have HM3 := hid hM
                 have HR3 := hid hR
                 have k2 := hR.rd.cells 2 _ rfl
                 have g2 := row_frozen hR.rd.blk 2
                 have k3 := (hR.kinds 1).rd.cells 3 _ rfl
                 have HR5 := hid (hR.kinds 1)
                 clear hR hM)
              | (go_at_call 49; refine (C49.out _ HR3.out).mono ?_; clear C49; rintro e W4 ⟨rfl, rfl⟩)
              | (go_at_call 31; refine (K31.out _).mono ?_; clear K31; rintro e W5 ⟨rfl, rfl⟩)
              | (go_at_call 50; refine (C52.out _ HR5.out (by have := HB3.out _ HM3.out; simpa [World.setCell] using this)).mono ?_; clear C52
                 rintro e W6 (⟨h6, rfl, lv', hv', hM⟩ | ⟨xs, q3, q4, lv', h6, rfl, hR, hM, hq, hfq⟩) <;> first
                   | (have HR6 := hid hR
                      have HQ := hid hq
                      have HFQ := hid hfq
                      have HM6 := hid hM
                      have H6 := hid h6
                      clear hM h6 hR hq hfq)
                   | (have HM6 := hid hM
                      have H6 := hid h6
                      clear hM h6))
              | (go_at_call 50; refine (hnts50 base rb _ q3 q4 1 n xs (0 + xs.length) lv' (.slice o2 0 n2) HR6.out (by have h1 := HB3.out _ HM3.out; have h2 := HM6.out.size; simp [World.setCell] at h2; omega) (by have h1 := HFQ.out; have h2 := HF2.out; omega) (by have h1 := HQ.out; have h2 := HZ.out; omega)).mono ?_
                 rintro e W7 (⟨h7, rfl, lv7, hv7, hM⟩ | ⟨ys, q5, q6, hv7, h7, rfl, hR, hM, _, _⟩) <;> first
                   | (have k1 := hR.rd.cells 1 _ rfl
                      have HR7 := hid hR
                      have HM7 := hid hM
                      have H7 := hid h7
                      clear hM h7 hR
                      cases q6)
                   | (have HM7 := hid hM
                      have H7 := hid h7
                      clear hM h7)))
            · go_ret
              exact .inl ⟨by rw [HS.out, Lra.addW, HA.out, H6.out]; rfl, rfl, _, _, HM.out.trans (HM3.out.trans ((Mv.set rb 2 _ _ _ _).trans HM6.out))⟩
            · go_ret
              exact .inl ⟨by rw [HS.out, Lra.addW, HA.out, H6.out]; simp only [if_true]; rw [H7.out], rfl, _, _, HM.out.trans (HM3.out.trans ((Mv.set rb 2 _ _ _ _).trans (HM6.out.trans HM7.out)))⟩
            · go_ret
              refine .inr ⟨⟨1, n, xs, ys⟩, q5, false, lv', hv7, by rw [HS.out, Lra.addW, HA.out, H6.out]; simp only [if_true]; rw [H7.out]; rfl, rfl, ?_, HM.out.trans (HM3.out.trans ((Mv.set rb 2 _ _ _ _).trans (HM6.out.trans HM7.out)))⟩
              simpa using HR7.out
            · go_ret
              refine .inl ⟨?_, rfl, _, _, HM.out.trans (HM3.out.trans ((Mv.set rb 2 _ _ _ _).trans (HM6.out.trans HM7.out)))⟩
              rw [HS.out, Lra.addW, HA.out, H6.out]
              simp only [if_true]
              rw [H7.out]
              simp [wordsOf_nil]
  · have K46 := hid (H46.mono (R' := fun e w' => e = .returned (.tuple #[.string L, .bool false]) ∧ w' = W) (by
      rintro e w' ⟨(⟨h9, _⟩ | ⟨_, rfl⟩), rfl⟩
      · exact absurd h9 hE
      · exact ⟨rfl, rfl⟩))
    have HR := HN L false
    have HM := hid (MN L false)
    rw [stepLine_open L hE]
    clear HN MN H46 h
    unfold anew at HR HM
    generalize ls.length = m1 at *
    generalize hs.length = m2 at *
    obtain ⟨W2, hW2⟩ : ∃ W2, (((((((W.setCell ⟨rb, 0, none⟩ (.string L)).setCell ⟨rb, 1, none⟩ (.bool false)).setCell ⟨rb, 2, none⟩ (.int .u8 0)).setCell ⟨rb, 3, none⟩ (.int .i64 0)).setCell ⟨rb, 4, none⟩ (.slice o1 0 n1)).setCell ⟨rb, 5, none⟩ (.slice o2 0 n2)).setCell ⟨rb, 6, none⟩ (.int .i64 0)).drew = W2 := ⟨_, rfl⟩
    rw [hW2] at HR HM
    have H47 := one47 base rb W2 L false 0 0 [] [] 0 (.slice o1 0 n1) (.slice o2 0 n2) HR (by omega)
    have K2 := hid (H47.mono (R' := fun e w' => e = .returned (.bool false) ∧ Mv rb W2 w' (.slice o1 0 n1) (.slice o2 0 n2) (.slice o1 0 n1) (.slice o2 0 n2)) (by
      rintro e W3 (⟨_, he, _, hM⟩ | ⟨n', h3, _⟩)
      · exact ⟨he, hM⟩
      · rw [show (wordB L false).1 = ⟨#[]⟩ from rfl, numL_empty] at h3; cases h3))
    have HWE := hid hW2
    clear HR H47 hE hb hW2
    go_enter Tryd.func28, Tryd.ntmps28
    go_wp2_with (go_at_call 46; refine K46.out.mono ?_; clear K46; rintro e W1 ⟨rfl, rfl⟩)
    go_region
    rw [HWE.out]
    clear c0 c1 c2 c3 c4 c5 c6 f0 f1 f2 f3 f4 f5 f6 HWE
    go_wp2_with (go_at_call 47; refine K2.out.mono ?_; clear K2; rintro e W3 ⟨rfl, hM⟩; have HM3 := hid hM; clear hM)
    go_ret
    exact .inl ⟨rfl, rfl, _, _, HM.out.trans HM3.out⟩
end Go.Proofs.YtdodfmgbjfhnpaaDoor
