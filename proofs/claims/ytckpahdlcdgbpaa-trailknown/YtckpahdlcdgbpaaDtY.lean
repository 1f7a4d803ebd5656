/- The document's Move: the call. -/
import Derived.Test.YtckpahdlcdgbpaaDtX
namespace Go.Proofs.Ytckpahdlcdgbpaa
open Go.RowKit Go.Maps
set_option linter.unusedVariables false
set_option maxRecDepth 100000

theorem Dm.below {B db g c n : Nat} {s : Trl.S} {to : List Int} {W0 W W' : World} {i : Nat} (h : Dm B db g c n s to W0 i W) (hb : Below W.heap.size W W') : Dm B db g c n s to W0 i W' :=
  ⟨(hb.block _ (lt_of_blk h.blk)).trans h.blk, own_below h.own hb, h.fr.trans (Fr.of_below hb)⟩
set_option maxHeartbeats 4000000 in
theorem move36 {B db n : Nat} {s : Trl.S} {W : World} (H : Dtx B db n s W) (a : Option Addr) (k cap : Nat) (to : List Int) (hk : to.length = k) (hK : k ≤ 35184372088832) (ht : StaysD B W a to) :
    Calls Try.prog 36 #[.pointer (some ⟨db, 0, none⟩), .slice a k cap] W fun e w' => e = .returned (.int .i64 (Trl.moveE s to)) ∧ DidD B db n W (Trl.moveS s to) w' := by
  have HH := hid H
  obtain ⟨rv, h⟩ := H
  obtain ⟨o, c, rfl, hsh⟩ := h.shape
  have hlen := h.ok.len
  have hn := h.ok.n
  have c1 := row_cell h.blk 1
  have HD := hid h
  have HTO := hid ht
  have HKK := hid hk
  clear h ht hk
  go_enter Try.func36, Try.ntmps36
  go_wp2
  go_loop [5] (fun iv => ∃ i : Nat, i ≤ s.R.length ∧ iv = .int .i64 i ∧ Hid (Trl.movB (s.R.take i) to = true)) (fun iv => s.R.length - (intOf iv).toNat)
  case atStart => exact ⟨0, Nat.zero_le _, rfl, hid rfl⟩
  case round =>
    obtain ⟨i, hi, rfl, HM⟩ := hrel
    by_cases hlt : i < s.R.length
    · have hlt' : (i : Int) < s.R.length := by omega
      obtain ⟨g, rfl⟩ : ∃ g, o = some ⟨g, 0, none⟩ := by
        rcases hsh with h0 | h0
        · omega
        · exact h0
      have x2 := HD.out.cell hlt (t := 2) rfl
      have hrea := HD.out.ok.rea _ (Trl.get_mem hlt)
      have HTK := hid (Trl.movB_take (to := to) hlt)
      have HTF := hid (Trl.movB_false (to := to) hlt)
      have HOKR := hid (Trl.okR_iff (to := to) (e := Trl.get s.R i))
      obtain ⟨rr, hrr⟩ : ∃ rr, (Trl.get s.R i).rea = rr := ⟨_, rfl⟩
      rw [hrr] at x2 hrea HOKR
      generalize Trl.okR to (Trl.get s.R i) = okb at *
      clear hrr
      by_cases hr : rr = -1
      · subst hr
        have hok : okb = true := HOKR.out.2 (.inl rfl)
        have HM2 := hid (show Trl.movB (s.R.take (i + 1)) to = true by rw [HTK.out, HM.out, hok]; rfl)
        clear HOKR HTK HTF hok
        go_wp2
        exact ⟨⟨i + 1, by omega, by go_num, HM2⟩, by simp only [intOf]; omega⟩
      · have hr0 : 0 ≤ rr := by omega
        by_cases hge : (k : Int) ≤ rr
        · have hok : okb = false := by
            cases hb : okb
            · rfl
            · have := HOKR.out.1 hb; have := HKK.out; omega
          have hf := HTF.out hok
          have HE := hid (show Trl.moveE s to = 160 by unfold Trl.moveE; rw [hf]; rfl)
          have HS := hid (show Trl.moveS s to = s by unfold Trl.moveS; rw [hf]; rfl)
          clear HOKR HTK HTF hok hf
          go_wp2
          go_ret
          exact ⟨by rw [HE.out]; rfl, by rw [HS.out]; exact DidD.below HH.out (Below.refl _ _)⟩
        · obtain ⟨r0, rfl⟩ : ∃ r0 : Nat, rr = r0 := ⟨rr.toNat, by omega⟩
          have hr0k : r0 < to.length := by have := HKK.out; omega
          obtain ⟨bt, ot, e3, _, hct, _, _⟩ := HTO.out.here.at (j := r0) hr0k
          subst e3
          have hgt : (r0 : Int) < k := by omega
          by_cases hneg : to.getD r0 0 < 0
          · have hok : okb = false := by
              cases hb : okb
              · rfl
              · have := HOKR.out.1 hb; rw [Int.toNat_natCast] at this; omega
            have hf := HTF.out hok
            have HE := hid (show Trl.moveE s to = 160 by unfold Trl.moveE; rw [hf]; rfl)
            have HS := hid (show Trl.moveS s to = s by unfold Trl.moveS; rw [hf]; rfl)
            clear HOKR HTK HTF hok hf
            generalize to.getD r0 0 = tv at *
            go_wp2
            go_ret
            exact ⟨by rw [HE.out]; rfl, by rw [HS.out]; exact DidD.below HH.out (Below.refl _ _)⟩
          · have hok : okb = true := HOKR.out.2 (.inr ⟨by have := HKK.out; omega, by rw [Int.toNat_natCast]; omega⟩)
            have HM2 := hid (show Trl.movB (s.R.take (i + 1)) to = true by rw [HTK.out, HM.out, hok]; rfl)
            clear HOKR HTK HTF hok
            generalize to.getD r0 0 = tv at *
            go_wp2
            exact ⟨⟨i + 1, by omega, by go_num, HM2⟩, by simp only [intOf]; omega⟩
    · have hge : ¬ (i : Int) < s.R.length := by omega
      have hmt : Trl.movB s.R to = true := by have h := HM.out; rwa [List.take_of_length_le (by omega)] at h
      have HE := hid (show Trl.moveE s to = 0 by unfold Trl.moveE; rw [hmt]; rfl)
      have HS := hid (show Trl.moveS s to = Trl.move s to by unfold Trl.moveS; rw [hmt]; rfl)
      have HMV := hid (Trl.movB_iff.1 hmt)
      clear hmt HM
      rcases hsh with h0 | ⟨g, rfl⟩
      · have HSE := hid (show Trl.move s to = s by
          have : s.R = [] := List.eq_nil_of_length_eq_zero h0
          cases s with
          | mk R Bg hd =>
            simp only at this
            subst this
            rfl)
        rw [h0] at c1 ⊢
        go_wp2
        go_loop [7] (fun iv => iv = .int .i64 0) (fun _ => 0)
        case atStart => rfl
        case round =>
          obtain rfl := hrel
          go_wp2
          go_ret
          exact ⟨by rw [HE.out]; rfl, by rw [HS.out, HSE.out]; exact DidD.below HH.out (Below.refl _ _)⟩
      · have HDM := hid (show Dm B db g c n s to W 0 W from ⟨HD.out.blk, by rw [Trl.mvd_zero]; exact HD.out.own, Fr.refl _ _ _⟩)
        have HNB := hid HD.out.ndb
        have HOK := hid HD.out.ok
        clear HD HH
        go_wp2
        clear c1
        go_loopw [7] (fun iv wr => ∃ j : Nat, j ≤ s.R.length ∧ iv = .int .i64 j ∧ Hid (Dm B db g c n s to W j wr)) (fun iv _ => s.R.length - (intOf iv).toNat)
        case atStart => exact ⟨0, Nat.zero_le _, rfl, HDM⟩
        case round =>
          clear HDM
          obtain ⟨j, hj, rfl, HDM⟩ := hrel
          have y1 := row_cell HDM.out.blk 1
          by_cases hjl : j < s.R.length
          · have hjl' : (j : Int) < s.R.length := by omega
            have x0 := HDM.out.cell hjl (t := 0) rfl
            have x1 := HDM.out.cell hjl (t := 1) rfl
            have x2 := HDM.out.cell hjl (t := 2) rfl
            rw [Nat.add_zero] at x0
            have hrea := HOK.out.rea _ (Trl.get_mem hjl)
            have hmvi := HMV.out _ (Trl.get_mem hjl)
            obtain ⟨e', he'⟩ : ∃ e', e' = Trl.mv to (Trl.get s.R j) := ⟨_, rfl⟩
            have hml := Trl.mv_lit to (Trl.get s.R j)
            rw [← he'] at hml
            obtain ⟨V, hV⟩ : ∃ V, wr.alloc (.cells #[.int .i32 (Trl.get s.R j).lit, .int .i64 ((Trl.get s.R j).lev : Nat), .int .i64 e'.rea] 84) = V := ⟨_, rfl⟩
            have hbV : Below wr.heap.size wr V := by rw [← hV]; exact below_box _ _
            have hnewV : V.heap[wr.heap.size]? = some (.cells #[.int .i32 (Trl.get s.R j).lit, .int .i64 ((Trl.get s.R j).lev : Nat), .int .i64 e'.rea] 84 (0, 0)) := by rw [← hV]; exact heap_alloc_new wr _
            have hDV := HDM.out.below hbV
            have hst := (hDV.below (Below.refl V.heap.size V).drew).step hjl e' he'
            rw [hml.1, hml.2] at hst
            have HST := hid hst
            have z0 : V.cell? ⟨wr.heap.size, 0, none⟩ = some (.int .i32 (Trl.get s.R j).lit) := row_cell hnewV 0
            have z1 : V.cell? ⟨wr.heap.size, 1, none⟩ = some (.int .i64 ((Trl.get s.R j).lev : Nat)) := row_cell hnewV 1
            have z2 : V.cell? ⟨wr.heap.size, 2, none⟩ = some (.int .i64 e'.rea) := row_cell hnewV 2
            have w1 := row_cell hDV.blk 1
            have v0 : V.cell? ⟨g, j * 3, none⟩ = some (.int .i32 (Trl.get s.R j).lit) := by have := hDV.cell hjl (t := 0) rfl; rwa [Nat.add_zero] at this
            have v1 := hDV.cell hjl (t := 1) rfl
            have v2 := hDV.cell hjl (t := 2) rfl
            have fz := fun t => hDV.own.frozenAt t
            by_cases hr : (Trl.get s.R j).rea = -1
            · have her : e'.rea = -1 := by rw [he']; unfold Trl.mv; rw [if_pos hr]; exact hr
              rw [her] at hV z2 HST
              rw [hr] at x2 v2
              clear hst hDV hnewV hbV HDM hrea hmvi he' hml hr her
              generalize (Trl.get s.R j).lit = L at *
              generalize (Trl.get s.R j).lev = lv at *
              have f0 := fz (j * 3)
              have f1 := fz (j * 3 + 1)
              have f2 := fz (j * 3 + 2)
              clear fz
              go_wp2_with (fail)
              go_region
              all_goals
                go_wp2
                exact ⟨⟨j + 1, by omega, by go_num, hid HST.out⟩, by simp only [intOf]; omega⟩
            · have hrk : 0 ≤ (Trl.get s.R j).rea ∧ (Trl.get s.R j).rea < to.length := by omega
              obtain ⟨r0, hr0⟩ : ∃ r0 : Nat, (Trl.get s.R j).rea = r0 := ⟨(Trl.get s.R j).rea.toNat, by omega⟩
              have hr0k : r0 < to.length := by omega
              have her : e'.rea = to.getD r0 0 := by rw [he']; unfold Trl.mv; rw [if_neg hr, hr0, Int.toNat_natCast]
              have hto := HTO.out _ (hDV.fr.mono (fun _ h => h) (fun _ h => h))
              have hto1 := HTO.out _ ((HDM.out.below (below_box wr (.cells #[.int .i32 (Trl.get s.R j).lit, .int .i64 ((Trl.get s.R j).lev : Nat), .int .i64 (Trl.get s.R j).rea] 84))).fr.mono (fun _ h => h) (fun _ h => h))
              obtain ⟨bt, ot, e3, _, hct, _, _⟩ := hto1.at (j := r0) hr0k
              subst e3
              have hr0l : (r0 : Int) < k := by have := HKK.out; omega
              rw [her] at hV z2 HST
              rw [hr0] at x2 v2 hct
              have hrb : (0 : Int) ≤ (r0 : Nat) := by omega
              have f0 := fz (j * 3)
              have f1 := fz (j * 3 + 1)
              have f2 := fz (j * 3 + 2)
              clear fz hst hDV hnewV hbV HDM hrea hmvi he' hml hr her hto hto1 hrk
              generalize (Trl.get s.R j).lit = L at *
              generalize (Trl.get s.R j).lev = lv at *
              generalize to.getD r0 0 = tv at *
              go_wp2_with (fail)
              go_region
              all_goals
                go_wp2
                exact ⟨⟨j + 1, by omega, by go_num, hid HST.out⟩, by simp only [intOf]; omega⟩
          · have hge2 : ¬ (j : Int) < s.R.length := by omega
            obtain rfl : j = s.R.length := by omega
            have HO := hid (show DidD B db n W (Trl.move s to) wr from ⟨⟨_, HNB.out, HDM.out.blk, by
              have := HDM.out.own
              rw [Trl.mvd_all] at this
              show wr.ownsRow B 84 3 _ (s.R.map (Trl.mv to)).length (erow (s.R.map (Trl.mv to)))
              rw [List.length_map]; exact this, HOK.out.move (fun x hx => (HTO.out.here.1 x hx).2) HMV.out⟩, HDM.out.fr⟩)
            clear HDM
            go_wp2
            go_ret
            exact ⟨by rw [HE.out]; rfl, by rw [HS.out]; exact HO.out⟩
end Go.Proofs.Ytckpahdlcdgbpaa
