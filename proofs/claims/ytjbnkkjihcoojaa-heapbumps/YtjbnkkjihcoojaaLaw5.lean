/- HeapBumps. -/
import Derived.Test.YtjbnkkjihcoojaaBpl
import Derived.Test.YtjbnkkjihcoojaaLaw6
namespace Go.Proofs.Ytjbnkkjihcoojaa
open Go.RowKit Go.Maps
set_option linter.unusedVariables false
set_option maxRecDepth 100000

def BmpOk (W0 : World) (hb n : Nat) (L : List Nat) (e : Ending) (w' : World) : Prop := ∃ (r1 : Bool) (sc' : List Int) (L' : List Nat), e = .returned (.tuple #[.bool r1, .int .i64 0]) ∧ L'.Perm L ∧ HxN W0 hb n sc' L' w'
theorem HxN.bumpOk {W0 : World} {hb n : Nat} {sc : List Int} {L : List Nat} {w : World} (h : HxN W0 hb n sc L w) {u : Nat} (hu : u < n) (by_ : Int) (h1 : 0 ≤ by_) (h2 : by_ ≤ 1152921504606846976) :
    Calls Try.prog 19 #[.pointer (some ⟨hb, 0, none⟩), .int .i64 ((u : Int) + 1), .int .i64 by_] w fun e w' => BmpOk W0 hb n L e w' := by
  by_cases h3 : sc.getD u 0 + by_ ≤ 1152921504606846976
  · exact (h.bump hu by_ (by omega) (by omega) h3 _ _ rfl rfl).mono fun e w' ⟨he, hw⟩ => ⟨_, _, _, he, Hpp.srt_perm _ _, hw⟩
  · exact (h.bumpH hu by_ (by omega) (by omega) (by omega) _ _ rfl rfl).mono fun e w' ⟨he, hw⟩ => ⟨_, _, _, he, Hpp.srt_perm _ _, hw⟩
theorem measN {k n : Nat} (h : k < n) : n - ((k : Int) + 1).toNat < n - (k : Int).toNat := by omega
theorem meas2 {k n : Nat} (h : k + 1 < n) : n + 1 - ((k : Int) + 1 + 1).toNat < n + 1 - ((k : Int) + 1).toNat := by omega
set_option maxHeartbeats 8000000 in
theorem law5 (W : World) (a : Option Addr) (n cap : Nat) (zs : List Int) (hl : zs.length = n) (hz : Rw W a zs) (v : Int) (hv : I64 v) (by_ : Int) (hby : I64 by_) :
    Calls Try.prog 5 #[.slice a n cap, .int .i64 v, .int .i64 by_] W fun e w' => e = .returned (.bool true) ∧ Below W.heap.size W w' := by
  by_cases hbig : 100 < n
  · have C := hid (works9 W)
    have hb : 100 < (n : Int) := by omega
    clear hz hl
    go_enter Try.func5, Try.ntmps5
    go_wp2_with (go_at_call 9; refine C.out.mono ?_; rintro e w4 ⟨rfl, hw4⟩)
    go_ret
    exact ⟨rfl, hw4⟩
  have hsm : ¬ (100 : Int) < n := by omega
  have C0 := hid (HxN.new n W (by omega))
  have HL := hid hl
  have HZ := hid hz
  have hn := hid (show n ≤ 100 by omega)
  clear hz hl hbig
  go_enter Try.func5, Try.ntmps5
  go_wp2_with (fail)
  go_at_call 10
  refine C0.out.mono ?_
  rintro e w1 ⟨hb, rfl, h1⟩
  have H1 := hid (show Fst W hb n 0 w1 from ⟨zer n, [], .refl _, h1⟩)
  clear C0 h1
  go_wp2_with (fail)
  go_loopw [9] (fun i wr => ∃ k : Nat, k ≤ n ∧ i = .int .i64 (k : Nat) ∧ Hid (Fst W hb n k wr)) (fun i _ => n - (intOf i).toNat)
  case atStart => exact ⟨0, Nat.zero_le _, rfl, H1⟩
  case round =>
    obtain ⟨k, hk, rfl, HF⟩ := hrel
    by_cases hlt : k < n
    · have hlt' : (k : Int) < n := by omega
      have hk1 : wrap64 ((k : Int) + 1) = (k : Int) + 1 := by have := hn.out; unfold wrap64; omega
      obtain ⟨b, off, rfl⟩ : ∃ b off, a = some ⟨b, off, none⟩ := by
        rcases HZ.out.shape with h | h
        · have := HL.out; omega
        · exact h
      obtain ⟨sc, L, hp, hx⟩ := HF.out
      have x1 := ((HZ.out.below hx.2).at (j := k) (by rw [HL.out]; exact hlt)).1
      generalize zs.getD k 0 = z at x1
      have key : ∀ s : Int, 0 ≤ s → s ≤ 1152921504606846976 → Calls Try.prog 19 #[.pointer (some ⟨hb, 0, none⟩), .int .i64 ((k : Int) + 1), .int .i64 s] wr fun e w' => BmpOk W hb n L e w' := fun s h1 h2 => hx.bumpOk (u := k) hlt s h1 h2
      have KEY := hid key
      have HP := hid hp
      have hkn := hid (show 0 ≤ (k : Int) ∧ (k : Int) ≤ 1152921504606846976 by have := hn.out; omega)
      clear hx hp HF key
      rcases (show z < 0 ∨ (¬ z < 0 ∧ 1152921504606846976 < z) ∨ (¬ z < 0 ∧ ¬ 1152921504606846976 < z) by omega) with hz1 | ⟨hz1, hz2⟩ | ⟨hz1, hz2⟩
      · have KK1 := hid (KEY.out k hkn.out.1 hkn.out.2)
        go_wp2_with (fail)
        go_at_call 19
        refine (KK1.out).mono ?_
        rintro e w2 ⟨r1, sc2, L2, rfl, p2, h2⟩
        have C2 := hid (h2.push (u := k) hlt (fst_out (p2.trans HP.out)) _ rfl)
        have P2 := hid (fst_more (sc := sc2) (p2.trans HP.out))
        clear h2 p2
        go_wp2_with (fail)
        go_at_call 16
        refine C2.out.mono ?_
        rintro e w3 ⟨rfl, h3⟩
        have H3 := hid (show Fst W hb n (k + 1) w3 from ⟨_, _, P2.out, h3⟩)
        clear C2 h3 P2
        go_wp2_with (fail)
        go_roundw
        case rel => exact ⟨k + 1, by omega, by go_num, H3⟩
        case measure => simp only [intOf]; exact measN hlt
      · have KK1 := hid (KEY.out k hkn.out.1 hkn.out.2)
        go_wp2_with (fail)
        go_at_call 19
        refine (KK1.out).mono ?_
        rintro e w2 ⟨r1, sc2, L2, rfl, p2, h2⟩
        have C2 := hid (h2.push (u := k) hlt (fst_out (p2.trans HP.out)) _ rfl)
        have P2 := hid (fst_more (sc := sc2) (p2.trans HP.out))
        clear h2 p2
        go_wp2_with (fail)
        go_at_call 16
        refine C2.out.mono ?_
        rintro e w3 ⟨rfl, h3⟩
        have H3 := hid (show Fst W hb n (k + 1) w3 from ⟨_, _, P2.out, h3⟩)
        clear C2 h3 P2
        go_wp2_with (fail)
        go_roundw
        case rel => exact ⟨k + 1, by omega, by go_num, H3⟩
        case measure => simp only [intOf]; exact measN hlt
      · have KK2 := hid (KEY.out z (by omega) (by omega))
        go_wp2_with (fail)
        go_at_call 19
        refine (KK2.out).mono ?_
        rintro e w2 ⟨r1, sc2, L2, rfl, p2, h2⟩
        have C2 := hid (h2.push (u := k) hlt (fst_out (p2.trans HP.out)) _ rfl)
        have P2 := hid (fst_more (sc := sc2) (p2.trans HP.out))
        clear h2 p2
        go_wp2_with (fail)
        go_at_call 16
        refine C2.out.mono ?_
        rintro e w3 ⟨rfl, h3⟩
        have H3 := hid (show Fst W hb n (k + 1) w3 from ⟨_, _, P2.out, h3⟩)
        clear C2 h3 P2
        go_wp2_with (fail)
        go_roundw
        case rel => exact ⟨k + 1, by omega, by go_num, H3⟩
        case measure => simp only [intOf]; exact measN hlt
    · have hge : ¬ (k : Int) < n := by omega
      have hkn : k = n := by omega
      obtain ⟨sc, L, hp, hx⟩ := HF.out
      rw [hkn] at hp
      have hL := fst_len hp
      have C1 := hid (order_n hx.1 hL)
      have HX := hid hx
      have HP := hid hp
      have HLn := hid hL
      clear hx hp HF hL
      go_wp2_with (fail)
      go_at_call 20
      refine C1.out.mono ?_
      rintro e w2 ⟨o, c, rfl, ho, hb2⟩
      obtain ⟨M, T⟩ : ∃ M, Tld W M hb n sc L o c wr.heap.size w2 w2 := ⟨_, Tld.begin HX.out hb2⟩
      have HT := hid T
      have HO := hid ho
      have HS := hid T.hx.1.srt
      have HSL := hid T.hx.1.len.2.2
      generalize wr.heap.size = base at HT HO
      clear C1 T ho hb2 HX HZ HL H1
      by_cases hbad : (v < 1 ∨ (n : Int) < v) ∨ (by_ < 0 ∨ 1152921504606846976 < by_)
      · have C2 : Hid (Calls Try.prog 19 #[.pointer (some ⟨hb, 0, none⟩), .int .i64 v, .int .i64 by_] w2 fun e w' => e = .returned (.tuple #[.bool false, .int .i64 2]) ∧ w' = w2) := by
          rcases var_or n v with hv1 | ⟨u, hu, rfl⟩
          · exact bump19_no HT.out.hx.1 v by_ hv1
          · exact bump19_by HT.out.hx.1 hu by_ (by rcases hbad with h | h; omega; exact h)
        have C3 := hid (HT.out.order HLn.out)
        clear hbad
        go_wp2_with (fail)
        go_at_call 19
        refine C2.out.mono ?_
        rintro e w3 ⟨rfl, hw3⟩
        rw [hw3]
        clear hw3 C2
        go_wp2_with (fail)
        go_at_call 20
        refine C3.out.mono ?_
        rintro e w4 ⟨o4, c4, rfl, h4, T4, b4⟩
        have C4 := hid (same24 (T4.row HO.out) (own_base h4 (Nat.zero_le _)) (by have := hn.out; omega))
        rw [decide_eq_true rfl] at C4
        clear C3
        go_wp2_with (fail)
        go_at_call 24
        refine C4.out.mono ?_
        rintro e w5 ⟨rfl, hd5⟩
        have HB := hid (T4.bel' hd5.below).all
        have C5 := hid (works9 w5)
        clear C4 h4 T4 b4 hd5
        go_wp2_with (fail)
        go_at_call 9
        refine C5.out.mono ?_
        rintro e w6 ⟨rfl, hb6⟩
        go_wp2
        go_ret
        exact ⟨rfl, HB.out.trans (hb6.mono HB.out.size)⟩
      · obtain ⟨u, hu, rfl⟩ : ∃ u : Nat, u < n ∧ v = (u : Int) + 1 := by
          rcases var_or n v with h | h
          · exact absurd (.inl h) hbad
          · exact h
        have hb0 : 0 ≤ by_ ∧ by_ ≤ 1152921504606846976 := by omega
        have HU := hid hu
        have HM := hid (fst_in HP.out hu)
        clear hbad
        by_cases h3 : sc.getD u 0 + by_ ≤ 1152921504606846976
        · have C2 := hid (bump19_ok HT.out.hx.1 hu by_ hb0.1 hb0.2 h3)
          have HPL := hid (Hpp.plc_up HS.out HM.out (by rw [HSL.out]; exact hu) hb0.1)
          have HWT := hid (Hpp.wot_up (u := u) (sc.getD u 0 + by_) HS.out)
          have HLn2 := hid (show (Hpp.srt (sc.set u (sc.getD u 0 + by_)) L).length = n by rw [(Hpp.srt_perm _ _).length_eq]; exact HLn.out)
          generalize Hpp.srt (sc.set u (sc.getD u 0 + by_)) L = L2 at *
          clear hu h3 hb0
          go_wp2_with (fail)
          go_at_call 19
          refine C2.out.mono ?_
          rintro e w3 ⟨rfl, h3⟩
          have T3 := hid (HT.out.next h3)
          have C3 := hid (T3.out.order HLn2.out)
          clear h3 C2
          go_wp2_with (fail)
          go_at_call 20
          refine C3.out.mono ?_
          rintro e w4 ⟨o4, c4, rfl, h4, T4, b4⟩
          have H4 := hid (own_base h4 (Nat.zero_le _))
          have HT4 := hid T4
          have P1 := hid (place25 H4.out (by have := hn.out; omega) ((u : Int) + 1))
          have P2 := hid (place25 (T4.row HO.out) (by have := hn.out; omega) ((u : Int) + 1))
          have hle : ((Hpp.plc L2 ((u : Int) + 1) : Nat) : Int) ≤ ((Hpp.plc L ((u : Int) + 1) : Nat) : Int) := by have := HPL.out; omega
          have W1 := hid (without26 (T4.row HO.out) (by have := hn.out; omega) ((u : Int) + 1))
          generalize Hpp.plc L2 ((u : Int) + 1) = p2 at P1 hle
          generalize Hpp.plc L ((u : Int) + 1) = p1 at P2 hle
          clear C3 h4 T4 b4 HPL
          go_wp2_with (fail)
          go_at_call 25
          refine P1.out.mono ?_
          rintro e w5 ⟨rfl, hw5⟩
          rw [hw5]
          clear hw5 P1
          go_wp2_with (go_at_call 25; refine P2.out.mono ?_; rintro e w5 ⟨rfl, hw5⟩; rw [hw5]; clear hw5)
          go_at_call 26
          refine W1.out.mono ?_
          rintro e w5 ⟨o5, c5, rfl, h5, b5⟩
          have T5 := hid (HT4.out.bel' b5)
          have W2 := hid (without26 (own_below H4.out b5) (by have := hn.out; omega) ((u : Int) + 1))
          rw [HWT.out] at W2
          have H5 := hid h5
          have hwl := hid (Hpp.wot_len L ((u : Int) + 1))
          clear W1 h5 b5 HT4 P2
          go_wp2_with (fail)
          go_at_call 26
          refine W2.out.mono ?_
          rintro e w6 ⟨o6, c6, rfl, h6, b6⟩
          have T6 := hid (T5.out.bel' b6)
          have C4 := hid (same24 (own_base (own_below H5.out b6) (Nat.zero_le _)) (own_base h6 (Nat.zero_le _)) (by have := hwl.out; rw [HLn.out] at this; have := hn.out; omega))
          rw [decide_eq_true rfl] at C4
          clear W2 h6 b6 T5
          go_wp2_with (fail)
          go_at_call 24
          refine C4.out.mono ?_
          rintro e w7 ⟨rfl, hd7⟩
          have HB := hid (T6.out.bel' hd7.below).all
          have C5 := hid (works9 w7)
          clear C4 hd7
          go_wp2_with (fail)
          go_at_call 9
          refine C5.out.mono ?_
          rintro e w8 ⟨rfl, hb8⟩
          go_wp2
          go_ret
          exact ⟨rfl, HB.out.trans (hb8.mono HB.out.size)⟩
        · have C2 := hid (bump19_up HT.out.hx.1 hu by_ hb0.1 hb0.2 (by omega))
          have HBH := hid (fun (a b : Nat) (ha : a ≠ u) (hb : b ≠ u) h hne => Hpp.bef_half (sc := sc) (u := u) (x := sc.getD u 0 + by_) ha hb h hne)
          have HLn2 := hid (show (Hpp.srt (Hpp.halves (sc.set u (sc.getD u 0 + by_))) L).length = n by rw [(Hpp.srt_perm _ _).length_eq]; exact HLn.out)
          have HPM := hid (Hpp.srt_perm (Hpp.halves (sc.set u (sc.getD u 0 + by_))) L)
          generalize Hpp.halves (sc.set u (sc.getD u 0 + by_)) = sc2 at *
          generalize Hpp.srt sc2 L = L2 at *
          clear hu h3 hb0
          go_wp2_with (fail)
          go_at_call 19
          refine C2.out.mono ?_
          rintro e w3 ⟨rfl, h3⟩
          have T3 := hid (HT.out.next h3)
          have C3 := hid (T3.out.order HLn2.out)
          clear h3 C2
          go_wp2_with (fail)
          go_at_call 20
          refine C3.out.mono ?_
          rintro e w4 ⟨o4, c4, rfl, h4, T4, b4⟩
          have H4 := hid (own_base h4 (Nat.zero_le _))
          have HT4 := hid T4
          obtain ⟨g4, d4, e4, q4⟩ := own_at H4.out (by have := HU.out; omega)
          cases e4
          have HQ := hid (fun (w : World) (hb : Below w4.heap.size w4 w) (j : Nat) (hj : j < n) => show w.cell? ⟨g4, j, none⟩ = some (.int .i64 ((L2.getD j 0 : Nat) + 1 : Int)) from (hb.cell (p := ⟨g4, j, none⟩) (cell_lt (q4 j hj))).trans (q4 j hj))
          have HIN := hid (fun (j : Nat) (hj : j < n) => show L2.getD j 0 < n ∧ L2.getD j 0 ∈ L from by
            have hm : L2.getD j 0 ∈ L2 := by rw [Hpp.getD_el L2 (by rw [HLn2.out]; exact hj)]; exact List.getElem_mem _
            exact ⟨T4.hx.1.lt hm, HPM.out.mem_iff.1 hm⟩)
          have HST := hid (fun (j : Nat) (hj : j + 1 < n) => show Hpp.bef sc2 (L2.getD j 0) (L2.getD (j + 1) 0) from by
            rw [Hpp.getD_el L2 (by rw [HLn2.out]; omega), Hpp.getD_el L2 (by rw [HLn2.out]; omega)]
            exact List.pairwise_iff_getElem.1 T4.hx.1.srt j (j + 1) _ _ (by omega))
          have SC := hid (fun (w : World) (hb : Below w4.heap.size w4 w) (x : Nat) (hx : x < n) => score23_ok (HT4.out.bel' hb).hx.1 (u := x) hx)
          have PL := hid (fun (w : World) (hb : Below w4.heap.size w4 w) (x : Int) => place25 ((HT4.out.bel' hb).row HO.out) (by have := hn.out; omega) x)
          clear C3 h4 T4 b4 q4
          go_wp2_with (fail)
          go_loopw [17] (fun i wr => ∃ k : Nat, k ≤ n ∧ i = .int .i64 ((k : Int) + 1) ∧ Hid (Below w4.heap.size w4 wr)) (fun i _ => n + 1 - (intOf i).toNat)
          case atStart => exact ⟨0, Nat.zero_le _, rfl, hid (Below.refl _ _)⟩
          case round =>
            obtain ⟨k, hkn, rfl, HB⟩ := hrel
            by_cases hlt : k + 1 < n
            · have hlt' : (k : Int) + 1 < n := by omega
              have hk0 : (k : Int) < n := by omega
              have hw1 : wrap64 ((k : Int) + 1 - 1) = k := by have := hn.out; unfold wrap64; omega
              have hw2 : wrap64 ((k : Int) + 1 + 1) = (k : Int) + 1 + 1 := by have := hn.out; unfold wrap64; omega
              have x1 := HQ.out _ HB.out k (by omega)
              have x2 := HQ.out _ HB.out (k + 1) hlt
              have HI1 := hid (HIN.out k (by omega))
              have HI2 := hid (HIN.out (k + 1) hlt)
              have HBF := hid (HST.out k hlt)
              generalize L2.getD k 0 = x at *
              generalize L2.getD (k + 1) 0 = y at *
              have HW1 := hid (fun (q : Nat) => show Below w4.heap.size w4 (wr.drewN q) from HB.out.trans ((Drawn.below ⟨q, rfl⟩).mono HB.out.size))
              by_cases e1 : x = u
              · have b1 : (((x : Int) + 1) != ((u : Int) + 1)) = false := by simp [e1]
                clear e1
                go_wp2_with (fail)
                go_quiet (fail)
                go_wp2_with (fail)
                exact ⟨⟨k + 1, by omega, by go_num, HW1.out _⟩, by simp only [intOf]; exact meas2 hlt⟩
              have b1 : (((x : Int) + 1) != ((u : Int) + 1)) = true := by simp; omega
              by_cases e2 : y = u
              · have b2 : (((y : Int) + 1) != ((u : Int) + 1)) = false := by simp [e2]
                clear e2
                go_wp2_with (fail)
                go_quiet (fail)
                go_wp2_with (fail)
                exact ⟨⟨k + 1, by omega, by go_num, HW1.out _⟩, by simp only [intOf]; exact meas2 hlt⟩
              have b2 : (((y : Int) + 1) != ((u : Int) + 1)) = true := by simp; omega
              have SX := hid (fun (w : World) (hb : Below w4.heap.size w4 w) => SC.out w hb x HI1.out.1)
              have SY := hid (fun (w : World) (hb : Below w4.heap.size w4 w) => SC.out w hb y HI2.out.1)
              by_cases e3 : sc2.getD x 0 = sc2.getD y 0
              · have b3 : (sc2.getD x 0 != sc2.getD y 0) = false := by rw [e3]; exact bne_self_eq_false _
                generalize sc2.getD x 0 = s1 at *
                generalize sc2.getD y 0 = s2 at *
                clear e1 e2 e3
                go_wp2_with (fail)
                go_quiet (fail)
                go_wp2_with (fail)
                go_at_call 23
                refine (SX.out _ (HW1.out _)).mono ?_
                rintro e w5 ⟨rfl, hd5⟩
                have HB5 := hid ((HW1.out _).trans (hd5.below.mono (HW1.out _).size))
                clear hd5
                go_wp2_with (fail)
                go_at_call 23
                refine (SY.out _ HB5.out).mono ?_
                rintro e w6 ⟨rfl, hd6⟩
                have HB6 := hid (HB5.out.trans (hd6.below.mono HB5.out.size))
                clear hd6
                go_wp2_with (fail)
                exact ⟨⟨k + 1, by omega, by go_num, HB6⟩, by simp only [intOf]; exact meas2 hlt⟩
              · have b3 : (sc2.getD x 0 != sc2.getD y 0) = true := by rw [bne_iff_ne]; exact e3
                have hpl := Hpp.plc_mono HS.out HI1.out.2 HI2.out.2 (HBH.out x y e1 e2 HBF.out e3)
                have hpl' : ¬ ((Hpp.plc L ((y : Int) + 1) : Nat) : Int) < ((Hpp.plc L ((x : Int) + 1) : Nat) : Int) := by omega
                have PX := hid (fun (w : World) (hb : Below w4.heap.size w4 w) => PL.out w hb ((x : Int) + 1))
                have PY := hid (fun (w : World) (hb : Below w4.heap.size w4 w) => PL.out w hb ((y : Int) + 1))
                generalize Hpp.plc L ((x : Int) + 1) = p1 at *
                generalize Hpp.plc L ((y : Int) + 1) = p2 at *
                generalize sc2.getD x 0 = s1 at *
                generalize sc2.getD y 0 = s2 at *
                clear e1 e2 e3 hpl
                go_wp2_with (fail)
                go_quiet (fail)
                go_wp2_with (fail)
                go_at_call 23
                refine (SX.out _ (HW1.out _)).mono ?_
                rintro e w5 ⟨rfl, hd5⟩
                have HB5 := hid ((HW1.out _).trans (hd5.below.mono (HW1.out _).size))
                clear hd5
                go_wp2_with (fail)
                go_at_call 23
                refine (SY.out _ HB5.out).mono ?_
                rintro e w6 ⟨rfl, hd6⟩
                have HB6 := hid (HB5.out.trans (hd6.below.mono HB5.out.size))
                clear hd6
                go_wp2_with (fail)
                go_at_call 25
                refine (PX.out _ HB6.out).mono ?_
                rintro e w7 ⟨rfl, hw7⟩
                rw [hw7]
                clear hw7
                go_wp2_with (fail)
                go_at_call 25
                refine (PY.out _ HB6.out).mono ?_
                rintro e w7 ⟨rfl, hw7⟩
                rw [hw7]
                clear hw7
                go_wp2_with (fail)
                exact ⟨⟨k + 1, by omega, by go_num, HB6⟩, by simp only [intOf]; exact meas2 hlt⟩
            · have hge : ¬ (k : Int) + 1 < n := by omega
              have HBA := hid (HT4.out.bel' HB.out).all
              have C5 := hid (works9 wr)
              go_wp2_with (fail)
              go_at_call 9
              refine C5.out.mono ?_
              rintro e w8 ⟨rfl, hb8⟩
              go_wp2
              go_ret
              exact ⟨rfl, HBA.out.trans (hb8.mono HBA.out.size)⟩
end Go.Proofs.Ytjbnkkjihcoojaa
