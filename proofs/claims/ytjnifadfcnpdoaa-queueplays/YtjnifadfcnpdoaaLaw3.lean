/- The law of queues and the document's. -/
import Derived.Test.YtjnifadfcnpdoaaS3
import Derived.Test.YtjnifadfcnpdoaaDg
import Derived.Test.YtjnifadfcnpdoaaOpa
namespace Go.Proofs.Ytjnifadfcnpdoaa
open Go.RowKit Go.Maps
set_option linter.unusedVariables false
set_option linter.unusedSimpArgs false
set_option maxRecDepth 100000
theorem opsAt3 {W : World} {b off : Nat} {ss : List Opr} (h : Ops W (some ⟨b, off, none⟩) ss) {j : Nat} (hj : j < ss.length) :
    ∃ a' b' ca cb, OpOk W ss[j] a' b' ∧ ∀ w, Below W.heap.size W w → w.cell? ⟨b, off + j * 3, none⟩ = some (.int .u8 ss[j].kind) ∧ w.cell? ⟨b, off + j * 3 + 1, none⟩ = some (.slice a' ss[j].l.length ca) ∧ w.cell? ⟨b, off + j * 3 + 2, none⟩ = some (.slice b' ss[j].set.length cb) := by
  obtain ⟨a', b', ca, cb, h1, h2, h3, h4⟩ := h.at hj
  exact ⟨a', b', ca, cb, h1, fun w hw => ⟨(hw.cell (p := ⟨b, _, none⟩) (cell_lt h2)).trans h2, (hw.cell (p := ⟨b, _, none⟩) (cell_lt h3)).trans h3, (hw.cell (p := ⟨b, _, none⟩) (cell_lt h4)).trans h4⟩⟩
theorem iw_lo {W : World} {a : Option Addr} {l : List Int} (h : Iw W a l) : ∀ b' off, a = some ⟨b', off, none⟩ → 0 < l.length → b' < W.heap.size := by
  intro b' off e h0
  subst e
  exact cell_lt (h.at h0)
theorem bw_lo {W : World} {a : Option Addr} {l : List Bool} (h : Bw W a l) : ∀ b' off, a = some ⟨b', off, none⟩ → 0 < l.length → b' < W.heap.size := by
  intro b' off e h0
  subst e
  rcases h with h | ⟨b2, o2, e, h⟩
  · rw [h] at h0; cases h0
  · cases e; exact cell_lt (h 0 h0)
theorem gd_new (n : Nat) : Gd n (Qp.rowN n) (Qp.stN n n) 0 := by
  refine ⟨?_, fun v hv => Qp.rowN_mem.1 hv, fun v h1 h2 => Qp.rowN_mem.2 ⟨h1, h2⟩, ?_⟩
  · unfold Qp.rowN; exact List.nodup_range'
  · rw [Qp.stN_at]
    cases n with
    | zero => rfl
    | succ k =>
      have e : (Qp.rowN (k + 1)).getLastD 0 = k + 1 := by rw [Qp.rowN_snoc, List.getLastD_eq_getLast?, List.getLast?_append]; rfl
      rw [e, if_pos (Nat.le_refl _)]
      simp
theorem s3_new {W w1 w2 : World} {n : Nat} {A : Adr} {D : Da} (hW : Below W.heap.size W w1) (hp : Qn W.heap.size A n 1048577 (Qp.rowN n) (Qp.stN n n) w1) (b2 : Below w1.heap.size w1 w2) (hd : Dq D n (Qp.rowN n) (Qp.stN n n) 0 w2) (hq : w1.heap.size ≤ D.qb) (hv : w1.heap.size ≤ D.gs) (hr : ∀ x, D.aR = some x → w1.heap.size ≤ x.block) : S3 W n 0 A.qb D.qb A.qb D.qb w2 := by
  have hs := hW.size
  have hnd : ∀ g, (g = D.qb ∨ g = D.gs ∨ ∃ x, D.aR = some x ∧ x.block = g) → w1.heap.size ≤ g := by
    rintro g (h | h | ⟨x, hx, h⟩)
    · omega
    · omega
    · have := hr x hx
      omega
  refine ⟨hW.trans (b2.mono hs), .inl ⟨rfl, rfl, A, D, _, _, 0, rfl, rfl, ⟨hp.below b2, hd, gd_new n, fun g hg h => ?_, fun g h => by have := hnd g h; omega⟩, Nat.le_refl _⟩⟩
  have := hp.qx.lt hg
  have := hnd g h
  omega
set_option maxHeartbeats 16000000 in
theorem law3 (n : Int) {a : Option Addr} {ca : Nat} {ss : List Opr} {W : World} (h1 : Ops W a ss) (h8 : ss.length ≤ 8796093022208) :
    Calls Try.prog 3 #[.int .i64 n, .slice a ss.length ca] W fun e w' => e = .returned (.bool true) ∧ Below W.heap.size W w' := by
  have CW := hid (fun (w : World) (hb : Below W.heap.size W w) => show Calls Try.prog 9 #[] w fun e w' => e = .returned (.bool true) ∧ Below W.heap.size W w' from (works9 w).mono (by rintro e w' ⟨rfl, b1⟩; exact ⟨rfl, hb.trans (b1.mono hb.size)⟩))
  have C8 := hid (large8 (c := ca) n h1 h8)
  have HS := hid h1
  have HF := hid (fun (e : lrg n ss = false) => lrg_few e)
  have hsh : Hid (ss.length = 0) ∨ ∃ b' off, a = some ⟨b', off, none⟩ := h1.shape
  generalize hD : lrg n ss = B at *
  obtain ⟨t, ht⟩ : ∃ t, ss.length = t := ⟨_, rfl⟩
  have HL := hid ht
  rw [ht] at C8 hsh
  rw [ht]
  clear h1 h8 ht hD
  go_enter Try.func3, Try.ntmps3
  go_wp2_with (fail)
  go_at_call 8
  refine C8.out.mono ?_
  rintro e w1 ⟨rfl, d1⟩
  have HD1 := hid (show Below W.heap.size W w1 from d1.below)
  clear d1 C8
  cases B
  · obtain ⟨hnn, hu1, hc1⟩ := HF.out (by first | rfl | trivial)
    have HT1 := hid (show t ≤ 100 by rw [← HL.out]; exact hu1)
    have HC1 := hid hc1
    clear hu1 hc1
    by_cases hn : n < 0 ∨ 1048576 < n
    · have C10 := hid (new10_no n w1 hn)
      have C11 := hid (new11_no n w1 hn)
      have C9 := hid (CW.out w1 HD1.out)
      clear hn hnn HF
      go_wp2_with (fail)
      go_at_call 10
      refine C10.out.mono ?_
      rintro e w2 ⟨rfl, hw2⟩
      rw [hw2]
      clear hw2
      go_wp2_with (fail)
      go_at_call 11
      refine C11.out.mono ?_
      rintro e w2 ⟨rfl, hw2⟩
      rw [hw2]
      clear hw2
      go_wp2_with (fail)
      go_at_call 9
      refine C9.out.mono ?_
      rintro e w2 ⟨rfl, b2⟩
      have HB := hid b2
      clear b2 C9
      go_wp2
      go_ret
      exact ⟨rfl, HB.out⟩
    · obtain ⟨m, rfl⟩ : ∃ m : Nat, n = m := ⟨n.toNat, by omega⟩
      have hm : m ≤ 1048576 := by omega
      have C10 := hid (new10q (n := m) (W := w1) hm (N := W.heap.size) HD1.out.size)
      have C11 := hid (fun (w : World) => new11 m w hm)
      clear hn hnn HF hm
      go_wp2_with (fail)
      go_at_call 10
      refine C10.out.mono ?_
      rintro e w2 ⟨A, rfl, hp, b2⟩
      have HP := hid hp
      have HB2 := hid (show Below W.heap.size W w2 from HD1.out.trans (b2.mono HD1.out.size))
      have C11 := hid (C11.out w2)
      clear hp b2 C10
      go_wp2_with (fail)
      go_at_call 11
      refine C11.out.mono ?_
      rintro e w3 ⟨D, rfl, hd, hq, hv, hr, b3⟩
      have HST := hid (s3_new HB2.out HP.out b3 hd hq hv hr)
      generalize A.qb = pb at *
      generalize D.qb = qb at *
      clear hd hq hv hr b3 C11 HP HB2 HD1
      go_wp2_with (fail)
      rcases hsh with Z | ⟨b, off, hab⟩
      case' inr => subst hab
      all_goals
        go_loopw [5, 7, 9, 10, 11] (fun pv mv pv2 mv2 i wr => ∃ k p1 q1 p2 q2 : Nat, k ≤ t ∧ pv = .pointer (some ⟨p1, 0, none⟩) ∧ mv = .pointer (some ⟨q1, 0, none⟩) ∧ pv2 = .pointer (some ⟨p2, 0, none⟩) ∧ mv2 = .pointer (some ⟨q2, 0, none⟩) ∧ i = .int .i64 (k : Nat) ∧ Hid (S3 W m k p1 q1 p2 q2 wr)) (fun _ _ _ _ i _ => t - (intOf i).toNat)
        case atStart => exact ⟨0, pb, qb, pb, qb, Nat.zero_le _, rfl, rfl, rfl, rfl, rfl, HST⟩
        case round =>
          obtain ⟨k, p1, q1, p2, q2, hk, rfl, rfl, rfl, rfl, rfl, HG⟩ := hrel
          by_cases hlt : k < t
          · first
              | (exfalso; have := Z.out; omega)
              | (have hlt' : (k : Int) < t := by omega
                 have HK := hid (show k ≤ 1000 by have := HT1.out; omega)
                 have hkl : k < ss.length := by rw [HL.out]; exact hlt
                 obtain ⟨a', b', cc, cd, ok, hc⟩ := opsAt3 HS.out hkl
                 have HLN := hid (show ss[k].l.length ≤ 1048576 ∧ ss[k].set.length ≤ 1048576 by have := cnt_mem (List.getElem_mem hkl); have := HC1.out; omega)
                 generalize ss[k] = q at *
                 have HOK := hid (fun (w : World) (hb : Below W.heap.size W w) => ok.below hb)
                 have HX := hid hc
                 have HLO := hid (And.intro (iw_lo ok.l) (bw_lo ok.set))
                 have ⟨x0, x1, x2⟩ := HX.out _ HG.out.bel
                 obtain ⟨hm1, hm2⟩ := mod6 ok.kind
                 have hr9 : q.kind % 6 = 0 ∨ q.kind % 6 = 1 ∨ q.kind % 6 = 2 ∨ q.kind % 6 = 3 ∨ q.kind % 6 = 4 ∨ q.kind % 6 = 5 := by have := ok.kind; omega
                 have hwk : wrap64 ((k : Int) + 1) = (k : Int) + 1 := by have := HT1.out; unfold wrap64; omega
                 have HWK := hid hwk
                 clear hkl ok hc HST hwk
                 rcases hr9 with hr | hr | hr | hr | hr | hr
                 · have C5 := hid (HG.out.plays HK.out (ca := cc) (cb := cd) (HOK.out _ HG.out.bel) HLO.out.1 HLO.out.2 HLN.out.1 HLN.out.2)
                   rw [hr] at hm1 hm2
                   generalize q.l.length = z at *
                   generalize q.kind = kd at *
                   generalize q.set.length = zs at *
                   clear HG HX HOK HLN HLO hr
                   go_wp2_with (fail)
                   go_at_call 14
                   refine C5.out.mono ?_
                   rintro e w5 ⟨rfl, h5⟩
                   have T1 := hid h5.tells
                   clear h5 C5 x0 x1 x2 hm1 hm2
                   go_wp2_with (fail)
                   go_at_call 15
                   refine T1.out.mono ?_
                   rintro e w6 ⟨rfl, h6⟩
                   have T2 := hid h6.tells
                   clear h6 T1
                   go_wp2_with (fail)
                   go_at_call 15
                   refine T2.out.mono ?_
                   rintro e w7 ⟨rfl, h7⟩
                   have H7 := hid h7
                   clear h7 T2
                   go_wp2_with (fail)
                   rw [HWK.out]
                   exact ⟨⟨k + 1, _, _, _, _, hlt, rfl, rfl, rfl, rfl, rfl, H7⟩, by simp only [intOf]; exact meas hlt⟩
                 · have C5 := hid (HG.out.plays HK.out (ca := cc) (cb := cd) (HOK.out _ HG.out.bel) HLO.out.1 HLO.out.2 HLN.out.1 HLN.out.2)
                   rw [hr] at hm1 hm2
                   generalize q.l.length = z at *
                   generalize q.kind = kd at *
                   generalize q.set.length = zs at *
                   clear HG HX HOK HLN HLO hr
                   go_wp2_with (fail)
                   go_at_call 14
                   refine C5.out.mono ?_
                   rintro e w5 ⟨rfl, h5⟩
                   have T1 := hid h5.tells
                   clear h5 C5 x0 x1 x2 hm1 hm2
                   go_wp2_with (fail)
                   go_at_call 15
                   refine T1.out.mono ?_
                   rintro e w6 ⟨rfl, h6⟩
                   have T2 := hid h6.tells
                   clear h6 T1
                   go_wp2_with (fail)
                   go_at_call 15
                   refine T2.out.mono ?_
                   rintro e w7 ⟨rfl, h7⟩
                   have H7 := hid h7
                   clear h7 T2
                   go_wp2_with (fail)
                   rw [HWK.out]
                   exact ⟨⟨k + 1, _, _, _, _, hlt, rfl, rfl, rfl, rfl, rfl, H7⟩, by simp only [intOf]; exact meas hlt⟩
                 · have C5 := hid (HG.out.plays HK.out (ca := cc) (cb := cd) (HOK.out _ HG.out.bel) HLO.out.1 HLO.out.2 HLN.out.1 HLN.out.2)
                   rw [hr] at hm1 hm2
                   generalize q.l.length = z at *
                   generalize q.kind = kd at *
                   generalize q.set.length = zs at *
                   clear HG HX HOK HLN HLO hr
                   go_wp2_with (fail)
                   go_at_call 14
                   refine C5.out.mono ?_
                   rintro e w5 ⟨rfl, h5⟩
                   have T1 := hid h5.tells
                   clear h5 C5 x0 x1 x2 hm1 hm2
                   go_wp2_with (fail)
                   go_at_call 15
                   refine T1.out.mono ?_
                   rintro e w6 ⟨rfl, h6⟩
                   have T2 := hid h6.tells
                   clear h6 T1
                   go_wp2_with (fail)
                   go_at_call 15
                   refine T2.out.mono ?_
                   rintro e w7 ⟨rfl, h7⟩
                   have H7 := hid h7
                   clear h7 T2
                   go_wp2_with (fail)
                   rw [HWK.out]
                   exact ⟨⟨k + 1, _, _, _, _, hlt, rfl, rfl, rfl, rfl, rfl, H7⟩, by simp only [intOf]; exact meas hlt⟩
                 · have C5 := hid (HG.out.plays HK.out (ca := cc) (cb := cd) (HOK.out _ HG.out.bel) HLO.out.1 HLO.out.2 HLN.out.1 HLN.out.2)
                   rw [hr] at hm1 hm2
                   generalize q.l.length = z at *
                   generalize q.kind = kd at *
                   generalize q.set.length = zs at *
                   clear HG HX HOK HLN HLO hr
                   go_wp2_with (fail)
                   go_at_call 14
                   refine C5.out.mono ?_
                   rintro e w5 ⟨rfl, h5⟩
                   have T1 := hid h5.tells
                   clear h5 C5 x0 x1 x2 hm1 hm2
                   go_wp2_with (fail)
                   go_at_call 15
                   refine T1.out.mono ?_
                   rintro e w6 ⟨rfl, h6⟩
                   have T2 := hid h6.tells
                   clear h6 T1
                   go_wp2_with (fail)
                   go_at_call 15
                   refine T2.out.mono ?_
                   rintro e w7 ⟨rfl, h7⟩
                   have H7 := hid h7
                   clear h7 T2
                   go_wp2_with (fail)
                   rw [HWK.out]
                   exact ⟨⟨k + 1, _, _, _, _, hlt, rfl, rfl, rfl, rfl, rfl, H7⟩, by simp only [intOf]; exact meas hlt⟩
                 · have C5 := hid HG.out.copyP
                   have HNX := hid (fun (p1 q1 p2 q2 : Nat) (w : World) (h : S3 W m k p1 q1 p2 q2 w) => h.next HK.out)
                   rw [hr] at hm1 hm2
                   generalize q.l.length = z at *
                   generalize q.kind = kd at *
                   generalize q.set.length = zs at *
                   clear HG HX HOK HLN HLO hr
                   go_wp2_with (fail)
                   go_at_call 12
                   refine C5.out.mono ?_
                   rintro e w4 ⟨hc, rfl, h4⟩
                   have C6 := hid h4.copyD
                   clear h4 C5 x0 x1 x2 hm1 hm2
                   go_wp2_with (fail)
                   go_at_call 13
                   refine C6.out.mono ?_
                   rintro e w5 ⟨mc, rfl, h5⟩
                   have T1 := hid (HNX.out _ _ _ _ _ h5).tells
                   clear h5 C6
                   go_wp2_with (fail)
                   go_at_call 15
                   refine T1.out.mono ?_
                   rintro e w6 ⟨rfl, h6⟩
                   have T2 := hid h6.tells
                   clear h6 T1
                   go_wp2_with (fail)
                   go_at_call 15
                   refine T2.out.mono ?_
                   rintro e w7 ⟨rfl, h7⟩
                   have H7 := hid h7
                   clear h7 T2
                   go_wp2_with (fail)
                   rw [HWK.out]
                   exact ⟨⟨k + 1, _, _, _, _, hlt, rfl, rfl, rfl, rfl, rfl, H7⟩, by simp only [intOf]; exact meas hlt⟩
                 · have T1 := hid (HG.out.back.next HK.out).tells
                   rw [hr] at hm1 hm2
                   generalize q.l.length = z at *
                   generalize q.kind = kd at *
                   generalize q.set.length = zs at *
                   clear HG HX HOK HLN HLO hr
                   go_wp2_with (fail)
                   go_at_call 15
                   refine T1.out.mono ?_
                   rintro e w6 ⟨rfl, h6⟩
                   have T2 := hid h6.tells
                   clear h6 T1
                   go_wp2_with (fail)
                   go_at_call 15
                   refine T2.out.mono ?_
                   rintro e w7 ⟨rfl, h7⟩
                   have H7 := hid h7
                   clear h7 T2
                   go_wp2_with (fail)
                   rw [HWK.out]
                   exact ⟨⟨k + 1, _, _, _, _, hlt, rfl, rfl, rfl, rfl, rfl, H7⟩, by simp only [intOf]; exact meas hlt⟩)
          · have hge : ¬ (k : Int) < t := by omega
            have HB := hid HG.out.back
            have CT := hid HB.out.tells
            clear HG HST
            go_wp2_with (fail)
            go_at_call 15
            refine CT.out.mono ?_
            rintro e w8 ⟨rfl, h8⟩
            have C9 := hid (CW.out w8 h8.bel)
            clear h8 CT
            go_wp2_with (fail)
            go_at_call 9
            refine C9.out.mono ?_
            rintro e w9 ⟨rfl, b9⟩
            have HB9 := hid b9
            clear b9 C9
            go_wp2
            go_ret
            exact ⟨rfl, HB9.out⟩
  · have C9 := hid (CW.out w1 HD1.out)
    clear HF
    go_wp2_with (fail)
    go_at_call 9
    refine C9.out.mono ?_
    rintro e w2 ⟨rfl, b2⟩
    have HB := hid b2
    clear b2 C9
    go_wp2
    go_ret
    exact ⟨rfl, HB.out⟩
end Go.Proofs.Ytjnifadfcnpdoaa
