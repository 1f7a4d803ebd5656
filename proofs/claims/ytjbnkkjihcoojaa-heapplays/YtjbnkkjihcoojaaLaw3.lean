/- HeapPlays. -/
import Derived.Test.YtjbnkkjihcoojaaPd
namespace Go.Proofs.Ytjbnkkjihcoojaa
open Go.RowKit Go.Maps
set_option linter.unusedVariables false
set_option maxRecDepth 100000

set_option maxHeartbeats 16000000 in
theorem law3 (W : World) (n : Int) (hn : I64 n) (a : Option Addr) (t cap : Nat) (ss : List Opr) (hl : ss.length = t) (hs : Ops W a ss) :
    Calls Try.prog 3 #[.int .i64 n, .slice a t cap] W fun e w' => e = .returned (.bool true) ∧ Below W.heap.size W w' := by
  have CL := hid (large8 n a t cap W)
  cases hbg : big n t with
  | true =>
    rw [hbg] at CL
    have C := hid (works9 W)
    clear hs hl hbg
    go_enter Try.func3, Try.ntmps3
    go_wp2_with (first
      | (go_at_call 8; refine CL.out.mono ?_; rintro e w4 ⟨rfl, hw4⟩; rw [hw4]; clear hw4)
      | (go_at_call 9; refine C.out.mono ?_; rintro e w4 ⟨rfl, hw4⟩))
    go_ret
    exact ⟨rfl, hw4⟩
  | false =>
    rw [hbg] at CL
    have hb0 := of_decide_eq_false hbg
    clear hbg
    by_cases hbad : n < 0 ∨ 1048576 < n
    · have C0 := hid (new10_no n W hbad)
      have C1 := hid (new11_no n W hbad)
      have C := hid (works9 W)
      clear hs hl hb0 hbad
      go_enter Try.func3, Try.ntmps3
      go_wp2_with (first
        | (go_at_call 8; refine CL.out.mono ?_; rintro e w4 ⟨rfl, hw4⟩; rw [hw4]; clear hw4)
        | (go_at_call 10; refine C0.out.mono ?_; rintro e w4 ⟨rfl, hw4⟩; rw [hw4]; clear hw4)
        | (go_at_call 11; refine C1.out.mono ?_; rintro e w4 ⟨rfl, hw4⟩; rw [hw4]; clear hw4)
        | (go_at_call 9; refine C.out.mono ?_; rintro e w4 ⟨rfl, hw4⟩))
      go_ret
      exact ⟨rfl, hw4⟩
    obtain ⟨m, rfl⟩ : ∃ m : Nat, n = (m : Int) := ⟨n.toNat, by omega⟩
    have hm := hid (show m ≤ 100 by omega)
    have ht := hid (show t ≤ 200 by omega)
    have C0 := hid (HxN.new m W (by omega))
    have HL := hid hl
    have HS := hid hs
    clear hs hl hb0 hbad
    go_enter Try.func3, Try.ntmps3
    go_wp2_with (go_at_call 8; refine CL.out.mono ?_; rintro e w4 ⟨rfl, hw4⟩; rw [hw4]; clear hw4)
    go_at_call 10
    refine C0.out.mono ?_
    rintro e w1 ⟨hb, rfl, h1⟩
    have C1 := hid (new11 m w1 (by have := hm.out; omega))
    have H1 := hid h1
    clear C0 h1 CL
    go_wp2_with (fail)
    go_at_call 11
    refine C1.out.mono ?_
    rintro e w2 ⟨mb, rfl, dx, b2⟩
    have HST := hid (show St W hb mb hb mb m w2 from by
      have h := H1.out
      refine ⟨h.2.trans (b2.mono h.2.size), .inl ⟨rfl, rfl, zer m, [], _, _, h.1.sharp b2, dx, fun g hg hg2 => by have := hg.2; omega, fun g hg => ?_⟩⟩
      rcases hg with hg | hg
      · exact hg.1
      · exact Nat.le_trans h.2.size hg)
    clear C1 dx b2 H1
    go_wp2_with (fail)
    go_loopw [5, 7, 9, 10, 11] (fun hv mv hv2 mv2 i wr => ∃ k hb mb hb2 mb2 : Nat, k ≤ t ∧ hv = .pointer (some ⟨hb, 0, none⟩) ∧ mv = .pointer (some ⟨mb, 0, none⟩) ∧ hv2 = .pointer (some ⟨hb2, 0, none⟩) ∧ mv2 = .pointer (some ⟨mb2, 0, none⟩) ∧ i = .int .i64 (k : Nat) ∧ Hid (St W hb mb hb2 mb2 m wr)) (fun _ _ _ _ i _ => t - (intOf i).toNat)
    case atStart => exact ⟨0, hb, mb, hb, mb, Nat.zero_le _, rfl, rfl, rfl, rfl, rfl, HST⟩
    case round =>
      obtain ⟨k, hb, mb, hb2, mb2, hk, rfl, rfl, rfl, rfl, rfl, HF⟩ := hrel
      by_cases hlt : k < t
      · have hlt' : (k : Int) < t := by omega
        have hk1 : wrap64 ((k : Int) + 1) = (k : Int) + 1 := wrapS (by have := ht.out; omega)
        obtain ⟨b, off, rfl⟩ : ∃ b off, a = some ⟨b, off, none⟩ := by
          rcases HS.out.shape with h | h
          · have := HL.out; omega
          · exact h
        have HSW := hid (fun (w : World) (hw : Below W.heap.size W w) => (HS.out.below hw).at (j := k) (by rw [HL.out]; exact hlt))
        have HOK := hid (HS.out.at (j := k) (by rw [HL.out]; exact hlt)).1
        generalize ss[k]'(by rw [HL.out]; exact hlt) = q at *
        obtain ⟨kd, v, by_⟩ := q
        have HXC := hid (fun (w : World) (h : Below W.heap.size W w) => show w.cell? ⟨b, off + k * 3, none⟩ = some (.int .u8 kd) ∧ w.cell? ⟨b, off + k * 3 + 1, none⟩ = some (.int .i64 v) ∧ w.cell? ⟨b, off + k * 3 + 2, none⟩ = some (.int .i64 by_) from by
          obtain ⟨_, _, q0, q1, q2⟩ := HSW.out w h
          exact ⟨q0, q1, q2⟩)
        have hr := mod8 HOK.out.kind.1
        simp only at hr
        have HK := hid (show 0 ≤ kd from HOK.out.kind.1)
        have ⟨x0, x1, x2⟩ := HXC.out _ HF.out.bel
        clear HSW HOK
        rcases hr with hr | hr | hr | hr | hr | hr | hr | hr
        · have C5 := hid (HF.out.plays kd v by_ HK.out)
          clear HF
          go_wp2_with (fail)
          go_at_call 14
          refine C5.out.mono ?_
          rintro e w5 ⟨rfl, h5⟩
          have H5 := hid h5
          clear h5 C5 x0 x1 x2
          have ⟨y0, y1, y2⟩ := HXC.out _ H5.out.bel
          have T1 := hid (H5.out.tells kd v by_)
          go_wp2_with (fail)
          go_at_call 15
          refine T1.out.mono ?_
          rintro e w6 ⟨rfl, h6⟩
          have H6 := hid h6
          have ⟨z0, z1, z2⟩ := HXC.out _ H6.out.bel
          have T2 := hid (H6.out.tells kd v by_)
          clear h6 T1 y0 y1 y2
          go_wp2_with (fail)
          go_at_call 15
          refine T2.out.mono ?_
          rintro e w7 ⟨rfl, h7⟩
          have H7 := hid h7
          clear h7 T2 z0 z1 z2
          go_wp2_with (fail)
          simp only [hk1]
          go_roundw
          case rel => exact ⟨k + 1, _, _, _, _, hlt, rfl, rfl, rfl, rfl, rfl, H7⟩
          case measure => simp only [intOf]; exact measD hlt
        · have C5 := hid (HF.out.plays kd v by_ HK.out)
          clear HF
          go_wp2_with (fail)
          go_at_call 14
          refine C5.out.mono ?_
          rintro e w5 ⟨rfl, h5⟩
          have H5 := hid h5
          clear h5 C5 x0 x1 x2
          have ⟨y0, y1, y2⟩ := HXC.out _ H5.out.bel
          have T1 := hid (H5.out.tells kd v by_)
          go_wp2_with (fail)
          go_at_call 15
          refine T1.out.mono ?_
          rintro e w6 ⟨rfl, h6⟩
          have H6 := hid h6
          have ⟨z0, z1, z2⟩ := HXC.out _ H6.out.bel
          have T2 := hid (H6.out.tells kd v by_)
          clear h6 T1 y0 y1 y2
          go_wp2_with (fail)
          go_at_call 15
          refine T2.out.mono ?_
          rintro e w7 ⟨rfl, h7⟩
          have H7 := hid h7
          clear h7 T2 z0 z1 z2
          go_wp2_with (fail)
          simp only [hk1]
          go_roundw
          case rel => exact ⟨k + 1, _, _, _, _, hlt, rfl, rfl, rfl, rfl, rfl, H7⟩
          case measure => simp only [intOf]; exact measD hlt
        · have C5 := hid (HF.out.plays kd v by_ HK.out)
          clear HF
          go_wp2_with (fail)
          go_at_call 14
          refine C5.out.mono ?_
          rintro e w5 ⟨rfl, h5⟩
          have H5 := hid h5
          clear h5 C5 x0 x1 x2
          have ⟨y0, y1, y2⟩ := HXC.out _ H5.out.bel
          have T1 := hid (H5.out.tells kd v by_)
          go_wp2_with (fail)
          go_at_call 15
          refine T1.out.mono ?_
          rintro e w6 ⟨rfl, h6⟩
          have H6 := hid h6
          have ⟨z0, z1, z2⟩ := HXC.out _ H6.out.bel
          have T2 := hid (H6.out.tells kd v by_)
          clear h6 T1 y0 y1 y2
          go_wp2_with (fail)
          go_at_call 15
          refine T2.out.mono ?_
          rintro e w7 ⟨rfl, h7⟩
          have H7 := hid h7
          clear h7 T2 z0 z1 z2
          go_wp2_with (fail)
          simp only [hk1]
          go_roundw
          case rel => exact ⟨k + 1, _, _, _, _, hlt, rfl, rfl, rfl, rfl, rfl, H7⟩
          case measure => simp only [intOf]; exact measD hlt
        · have C5 := hid (HF.out.plays kd v by_ HK.out)
          clear HF
          go_wp2_with (fail)
          go_at_call 14
          refine C5.out.mono ?_
          rintro e w5 ⟨rfl, h5⟩
          have H5 := hid h5
          clear h5 C5 x0 x1 x2
          have ⟨y0, y1, y2⟩ := HXC.out _ H5.out.bel
          have T1 := hid (H5.out.tells kd v by_)
          go_wp2_with (fail)
          go_at_call 15
          refine T1.out.mono ?_
          rintro e w6 ⟨rfl, h6⟩
          have H6 := hid h6
          have ⟨z0, z1, z2⟩ := HXC.out _ H6.out.bel
          have T2 := hid (H6.out.tells kd v by_)
          clear h6 T1 y0 y1 y2
          go_wp2_with (fail)
          go_at_call 15
          refine T2.out.mono ?_
          rintro e w7 ⟨rfl, h7⟩
          have H7 := hid h7
          clear h7 T2 z0 z1 z2
          go_wp2_with (fail)
          simp only [hk1]
          go_roundw
          case rel => exact ⟨k + 1, _, _, _, _, hlt, rfl, rfl, rfl, rfl, rfl, H7⟩
          case measure => simp only [intOf]; exact measD hlt
        · have C5 := hid (HF.out.plays kd v by_ HK.out)
          clear HF
          go_wp2_with (fail)
          go_at_call 14
          refine C5.out.mono ?_
          rintro e w5 ⟨rfl, h5⟩
          have H5 := hid h5
          clear h5 C5 x0 x1 x2
          have ⟨y0, y1, y2⟩ := HXC.out _ H5.out.bel
          have T1 := hid (H5.out.tells kd v by_)
          go_wp2_with (fail)
          go_at_call 15
          refine T1.out.mono ?_
          rintro e w6 ⟨rfl, h6⟩
          have H6 := hid h6
          have ⟨z0, z1, z2⟩ := HXC.out _ H6.out.bel
          have T2 := hid (H6.out.tells kd v by_)
          clear h6 T1 y0 y1 y2
          go_wp2_with (fail)
          go_at_call 15
          refine T2.out.mono ?_
          rintro e w7 ⟨rfl, h7⟩
          have H7 := hid h7
          clear h7 T2 z0 z1 z2
          go_wp2_with (fail)
          simp only [hk1]
          go_roundw
          case rel => exact ⟨k + 1, _, _, _, _, hlt, rfl, rfl, rfl, rfl, rfl, H7⟩
          case measure => simp only [intOf]; exact measD hlt
        · have C5 := hid (HF.out.plays kd v by_ HK.out)
          clear HF
          go_wp2_with (fail)
          go_at_call 14
          refine C5.out.mono ?_
          rintro e w5 ⟨rfl, h5⟩
          have H5 := hid h5
          clear h5 C5 x0 x1 x2
          have ⟨y0, y1, y2⟩ := HXC.out _ H5.out.bel
          have T1 := hid (H5.out.tells kd v by_)
          go_wp2_with (fail)
          go_at_call 15
          refine T1.out.mono ?_
          rintro e w6 ⟨rfl, h6⟩
          have H6 := hid h6
          have ⟨z0, z1, z2⟩ := HXC.out _ H6.out.bel
          have T2 := hid (H6.out.tells kd v by_)
          clear h6 T1 y0 y1 y2
          go_wp2_with (fail)
          go_at_call 15
          refine T2.out.mono ?_
          rintro e w7 ⟨rfl, h7⟩
          have H7 := hid h7
          clear h7 T2 z0 z1 z2
          go_wp2_with (fail)
          simp only [hk1]
          go_roundw
          case rel => exact ⟨k + 1, _, _, _, _, hlt, rfl, rfl, rfl, rfl, rfl, H7⟩
          case measure => simp only [intOf]; exact measD hlt
        · have C5 := hid HF.out.copyH
          clear HF
          go_wp2_with (fail)
          go_at_call 12
          refine C5.out.mono ?_
          rintro e w4 ⟨hc, rfl, h4⟩
          have C6 := hid h4.copyD
          clear h4 C5 x0 x1 x2
          go_wp2_with (fail)
          go_at_call 13
          refine C6.out.mono ?_
          rintro e w5 ⟨mc, rfl, h5⟩
          have H5 := hid h5
          clear h5 C6
          have ⟨y0, y1, y2⟩ := HXC.out _ H5.out.bel
          have T1 := hid (H5.out.tells kd v by_)
          go_wp2_with (fail)
          go_at_call 15
          refine T1.out.mono ?_
          rintro e w6 ⟨rfl, h6⟩
          have H6 := hid h6
          have ⟨z0, z1, z2⟩ := HXC.out _ H6.out.bel
          have T2 := hid (H6.out.tells kd v by_)
          clear h6 T1 y0 y1 y2
          go_wp2_with (fail)
          go_at_call 15
          refine T2.out.mono ?_
          rintro e w7 ⟨rfl, h7⟩
          have H7 := hid h7
          clear h7 T2 z0 z1 z2
          go_wp2_with (fail)
          simp only [hk1]
          go_roundw
          case rel => exact ⟨k + 1, _, _, _, _, hlt, rfl, rfl, rfl, rfl, rfl, H7⟩
          case measure => simp only [intOf]; exact measD hlt
        · have H5 := hid HF.out.back
          clear HF
          have T1 := hid (H5.out.tells kd v by_)
          go_wp2_with (fail)
          go_at_call 15
          refine T1.out.mono ?_
          rintro e w6 ⟨rfl, h6⟩
          have H6 := hid h6
          have ⟨z0, z1, z2⟩ := HXC.out _ H6.out.bel
          have T2 := hid (H6.out.tells kd v by_)
          clear h6 T1 x0 x1 x2
          go_wp2_with (fail)
          go_at_call 15
          refine T2.out.mono ?_
          rintro e w7 ⟨rfl, h7⟩
          have H7 := hid h7
          clear h7 T2 z0 z1 z2
          go_wp2_with (fail)
          simp only [hk1]
          go_roundw
          case rel => exact ⟨k + 1, _, _, _, _, hlt, rfl, rfl, rfl, rfl, rfl, H7⟩
          case measure => simp only [intOf]; exact measD hlt
      · have hge : ¬ (k : Int) < t := by omega
        have HB := hid HF.out.back
        have CT := hid (HB.out.tells 0 0 0)
        clear HF
        go_wp2_with (fail)
        go_at_call 15
        refine CT.out.mono ?_
        rintro e w8 ⟨rfl, h8⟩
        have H8 := hid h8.bel
        have CW := hid (works9 w8)
        clear h8 CT
        go_wp2_with (fail)
        go_at_call 9
        refine CW.out.mono ?_
        rintro e w9 ⟨rfl, b9⟩
        go_wp2
        go_ret
        exact ⟨rfl, H8.out.trans (b9.mono H8.out.size)⟩
end Go.Proofs.Ytjbnkkjihcoojaa
