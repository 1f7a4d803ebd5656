/- ExtendPlays as a call. -/
import Derived.Test.YtjakfgpgcnbclaaWrk
namespace Go.Proofs.Ytjakfgpgcnbclaa
open Go.RowKit
set_option linter.unusedVariables false
set_option linter.unusedSimpArgs false

set_option maxRecDepth 100000 in
set_option maxHeartbeats 8000000 in
theorem law3 (a la : Option Addr) (n cap ln lcap : Nat) (m : List Bool) (s : List Ext.Wt) (w : World) (hm : m.length = n) (hbm : Bools w a m) (hs : s.length = ln) (hsn : ln ≤ 8796093022208) (hws : Wits w la s) :
    Calls Try.prog 3 #[.slice a n cap, .slice la ln lcap] w fun e w' => e = .returned (.bool true) ∧ Below w.heap.size w w' := by
  have C6 := hid (few6 la ln lcap s w hs hsn hws)
  have HM := hid hm
  have HBM := hid hbm
  have HS := hid hs
  have HWS := hid hws
  clear hm hbm hs hws
  go_enter Try.func3, Try.ntmps3
  go_wp2_with fail
  go_at_call 6
  refine C6.out.mono ?_
  clear C6
  rintro e w1 ⟨⟨b, rfl, hfew⟩, hd1⟩
  have HB1 := hid hd1.below'
  have HFEW := hid hfew
  clear hd1 hfew
  cases b
  · go_wp2
    go_ret
    exact ⟨rfl, HB1.out⟩
  · by_cases hn : 1000 < n
    · have hn' : (1000 : Int) < n := by omega
      go_wp2
      go_ret
      exact ⟨rfl, HB1.out⟩
    · have hn' : ¬ (1000 : Int) < n := by omega
      obtain ⟨o, c, W2, hr2, hM2, hb2⟩ := copy_bools w1 a n cap m HM.out (by omega) (HBM.out.below HB1.out)
      have HR2 := hid hr2
      have HB2 := hid (HB1.out.trans (hb2.mono HB1.out.size))
      have C7 := hid (ext7 o la n c ln lcap m s W2 HM.out (by omega) hM2.bools HS.out hsn (HWS.out.below HB2.out))
      have HO2 := hid hM2.bools
      clear hr2 hb2 hM2
      go_wp2_with (at_builtin; refine wpList_append_run rfl (.tmp 20) (.tmp 21) 23 23 rfl rfl rfl HR2.out ?_; clear HR2)
      go_at_call 7
      refine C7.out.mono ?_
      clear C7
      rintro e w3 ⟨ho3, hb3⟩
      obtain ⟨o1, c1, rfl, hM3⟩ := ho3.out HM.out
      have HM3 := hid hM3
      have HB3 := hid hb3
      have HB03 := hid (HB2.out.trans (hb3.mono HB2.out.size))
      have C8 := hid (ext8 a la n cap ln lcap m s w3 HM.out (by omega) (HBM.out.below HB03.out) HS.out hsn (HWS.out.below HB03.out))
      clear ho3 hM3 hb3
      go_wp2_with fail
      go_at_call 8
      refine C8.out.mono ?_
      clear C8
      rintro e w4 ⟨ho4, hb4⟩
      obtain ⟨o2, c2, rfl, hM4⟩ := ho4.out HM.out
      have HM4 := hid hM4.bools
      have HB4 := hid hb4
      have HM3' := hid (HM3.out.below hb4)
      have HB04 := hid (HB03.out.trans (hb4.mono HB03.out.size))
      have HO4 := hid ((HO2.out.below HB3.out).below hb4)
      have HB24 := hid (HB3.out.trans (hb4.mono HB3.out.size))
      have hk := Ext.outL_len s HM.out
      clear ho4 hM4 hb4 HM3 HB3 HB03 HB4
      generalize Ext.outL n m s = xs at *
      generalize Ext.outE n s = er at *
      obtain ⟨k, hk0⟩ : ∃ k, xs.length = k := ⟨_, rfl⟩
      rw [hk0] at hk HM3' ⊢
      have HK := hid hk0
      clear hk0
      have S1 := hid (sameModel9 o1 o2 k k c1 c2 xs xs w4 HK.out HK.out (by omega) (by omega) HM3'.out.bools HM4.out)
      go_wp2_with fail
      go_at_call 9
      refine S1.out.mono ?_
      clear S1
      rintro e w5 ⟨rfl, hd5⟩
      have HB5 := hid hd5.below'
      have HM5 := hid (HM3'.out.below hd5.below')
      have HO5 := hid (HO4.out.below hd5.below')
      have HB05 := hid (HB04.out.trans (hd5.below'.mono HB04.out.size))
      have HB25 := hid (HB24.out.trans (hd5.below'.mono HB24.out.size))
      have S2 := hid (sameModel9 o a n n c cap m m w5 HM.out HM.out (by omega) (by omega) HO5.out (HBM.out.below HB05.out))
      clear hd5 HM3' HO4 HB04 HB24 HM4 HB5
      simp only [decide_true]
      go_wp2_with fail
      go_at_call 9
      refine S2.out.mono ?_
      clear S2
      rintro e w6 ⟨rfl, hd6⟩
      have HM6 := hid (HM5.out.below hd6.below')
      have HB06 := hid (HB05.out.trans (hd6.below'.mono HB05.out.size))
      have HB26 := hid (HB25.out.trans (hd6.below'.mono HB25.out.size))
      clear hd6 HM5 HO5 HB05 HB25
      simp only [decide_true]
      have sh : Hid (k = 0) ∨ ∃ g, o1 = some ⟨g, 0, none⟩ := by
        rcases Nat.eq_zero_or_pos k with h | h
        · exact .inl h
        · obtain ⟨g, e, _⟩ := HM6.out.at h; exact .inr ⟨g, e⟩
      clear HK
      rcases sh with Z | ⟨g, rfl⟩
      all_goals
        go_wp2
        go_loopw [11] (fun i wr => ∃ (j : Nat) (ys : List Bool), j ≤ k ∧ i = .int .i64 j ∧ Hid (MOwn W2.heap.size wr _ k ys) ∧ Hid (Below W2.heap.size W2 wr)) (fun i _ => k - (intOf i).toNat)
        case atStart => exact ⟨0, xs, Nat.zero_le _, rfl, HM6, HB26⟩
        case round =>
          obtain ⟨j, ys, hj, rfl, HMr, HBr⟩ := hrel
          by_cases hlt : j < k
          · first
            | (exfalso; have := Z.out; omega)
            | (have hlt' : (j : Int) < k := by omega
               obtain ⟨z0, z1, hgg⟩ := HMr.out.cell hlt
               have HMS := hid (fun b => HMr.out.set hlt b)
               have HWS2 := hid (fun b => HBr.out.setCell (p := ⟨g, j, none⟩) hgg (.bool b))
               clear HMr HBr hgg
               generalize ys.getD j false = old at z0
               go_wp2
               go_roundw
               case rel => exact ⟨j + 1, _, by omega, by go_num, hid (HMS.out _), hid (HWS2.out _)⟩
               case measure => simp [intOf]; omega)
          · have hlt' : ¬ (j : Int) < k := by omega
            have HBw := hid (HB2.out.trans (HBr.out.mono HB2.out.size))
            have S3 := hid (sameModel9 o a n n c cap m m wr HM.out HM.out (by omega) (by omega) (HO2.out.below HBr.out) (HBM.out.below HBw.out))
            go_wp2_with fail
            go_at_call 9
            refine S3.out.mono ?_
            clear S3
            rintro e w7 ⟨rfl, hd7⟩
            have HB07 := hid (HBw.out.trans (hd7.below'.mono HBw.out.size))
            clear hd7
            simp only [decide_true]
            go_wp2_with fail
            go_at_call 10
            refine (works10 w7).mono ?_
            rintro e w8 ⟨rfl, hb8⟩
            have HB08 := hid (HB07.out.trans (hb8.mono HB07.out.size))
            clear hb8
            go_wp2
            go_ret
            exact ⟨rfl, HB08.out⟩
end Go.Proofs.Ytjakfgpgcnbclaa
