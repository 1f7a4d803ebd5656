/- The law of stores and the document's. -/
import Derived.Test.YtkodfojccodoaaaS3
import Derived.Test.YtkodfojccodoaaaDcN
import Derived.Test.YtkodfojccodoaaaOpa
namespace Go.Proofs.Ytkodfojccodoaaa
open Go.RowKit Go.Maps
set_option linter.unusedVariables false
set_option linter.unusedSimpArgs false
set_option maxRecDepth 100000
theorem opsAt3 {N : Nat} {W : World} {b off : Nat} {ss : List Opr} (h : Ops N W (some ⟨b, off, none⟩) ss) {j : Nat} (hj : j < ss.length) :
    ∃ a' ca, OpOk W ss[j] a' N ∧ ∀ w, Below W.heap.size W w → w.cell? ⟨b, off + j * 3, none⟩ = some (.int .u8 ss[j].kind) ∧ w.cell? ⟨b, off + j * 3 + 1, none⟩ = some (.int .i64 ss[j].v) ∧ w.cell? ⟨b, off + j * 3 + 2, none⟩ = some (.slice a' ss[j].l.length ca) := by
  obtain ⟨a', ca, h1, h2, h3, h4⟩ := h.at hj
  exact ⟨a', ca, h1, fun w hw => ⟨(hw.cell (p := ⟨b, _, none⟩) (cell_lt h2)).trans h2, (hw.cell (p := ⟨b, _, none⟩) (cell_lt h3)).trans h3, (hw.cell (p := ⟨b, _, none⟩) (cell_lt h4)).trans h4⟩⟩
theorem s3_new {W w1 w2 : World} {n : Nat} {st : Bool} {seed : Int} {A : Adr} {D : Da} (hW : Below W.heap.size W w1) (hp : Pn W.heap.size A n 0 (St0 n st seed) w1) (b2 : Below w1.heap.size w1 w2) (hd : Dm D (St0 n st seed) w2) (hn : D.n = n) (hq : w1.heap.size ≤ D.qb) (hv : ∀ g, D.v.ownBlock = some g → w1.heap.size ≤ g) : S3 W n 0 A.pb D.qb A.pb D.qb w2 := by
  have hs := hW.size
  refine ⟨hW.trans (b2.mono hs), .inl ⟨rfl, rfl, A, D, _, rfl, rfl, ⟨hp.below b2, hd, hn, ?_, ?_⟩, Nat.zero_le _⟩⟩
  · rintro g hg (h | h)
    · obtain ⟨_, _, hx, _⟩ := hp.typ hg
      have := lt_of_blk hx
      omega
    · obtain ⟨_, _, hx, _⟩ := hp.typ hg
      have := lt_of_blk hx
      have := hv g h
      omega
  · rintro g (h | h)
    · omega
    · have := hv g h
      omega
set_option maxHeartbeats 16000000 in
theorem law3 (n : Int) (st : Bool) (seed : Int) (hseed : 0 ≤ seed ∧ seed < 18446744073709551616) {a : Option Addr} {ca : Nat} {ss : List Opr} {W : World} (h1 : Ops W.heap.size W a ss) (h8 : ss.length ≤ 8796093022208) :
    Calls Try.prog 3 #[.int .i64 n, .bool st, .int .u64 seed, .slice a ss.length ca] W fun e w' => e = .returned (.bool true) ∧ Below W.heap.size W w' := by
  have CW := hid (fun (w : World) (hb : Below W.heap.size W w) => show Calls Try.prog 9 #[] w fun e w' => e = .returned (.bool true) ∧ Below W.heap.size W w' from (works9 w).mono (by rintro e w' ⟨rfl, b1⟩; exact ⟨rfl, hb.trans (b1.mono hb.size)⟩))
  have C8 := hid (large8 (c := ca) n h1 h8)
  have HS := hid h1
  have HF := hid (fun (e : lrg n ss = false) => lrg_few e)
  have hsh : Hid (ss.length = 0) ∨ ∃ b' off, a = some ⟨b', off, none⟩ := h1.shape
  generalize hD : lrg n ss = B at *
  obtain ⟨t, ht⟩ : ∃ t, ss.length = t := ⟨_, rfl⟩
  have HL := hid ht
  rw [ht] at C8 hsh
  rw [ht]
  clear h1 h8 ht hD
  have HSD := hid hseed
  clear hseed
  go_enter Try.func3, Try.ntmps3
  go_wp2_with (fail)
  go_at_call 8
  refine C8.out.mono ?_
  rintro e w1 ⟨rfl, d1⟩
  have HD1 := hid (show Below W.heap.size W w1 from d1.below)
  clear d1 C8
  cases B
  · obtain ⟨hnn, hu1, hc1⟩ := HF.out (by first | rfl | trivial)
    have HT1 := hid (show t ≤ 120 by rw [← HL.out]; exact hu1)
    have HC1 := hid hc1
    clear hu1 hc1
    by_cases hn : n < 0 ∨ 1048576 < n
    · have C10 := hid (new10_no n st seed w1 hn)
      have C11 := hid (new11_no n st seed w1 hn)
      have C9 := hid (CW.out w1 HD1.out)
      clear hn hnn HF
      go_wp2_with (fail)
      go_at_call 10
      refine C10.out.mono ?_
      rintro e w2 ⟨rfl, hw2⟩
      rw [hw2]
      clear hw2
      go_wp2_with (fail)
      go_at_call 11
      refine C11.out.mono ?_
      rintro e w2 ⟨rfl, hw2⟩
      rw [hw2]
      clear hw2
      go_wp2_with (fail)
      go_at_call 9
      refine C9.out.mono ?_
      rintro e w2 ⟨rfl, b2⟩
      have HB := hid b2
      clear b2 C9
      go_wp2
      go_ret
      exact ⟨rfl, HB.out⟩
    · obtain ⟨m, rfl⟩ : ∃ m : Nat, n = m := ⟨n.toNat, by omega⟩
      have hm : m ≤ 1048576 := by omega
      have C10 := hid (new10n (n := m) (st := st) (seed := seed) (W := w1) hm HSD.out (N := W.heap.size) HD1.out.size)
      have C11 := hid (fun (w : World) => new11 m st seed w hm HSD.out)
      clear hn hnn HF hm
      go_wp2_with (fail)
      go_at_call 10
      refine C10.out.mono ?_
      rintro e w2 ⟨A, rfl, hp, b2, ho⟩
      have HP := hid hp
      have HB2 := hid (show Below W.heap.size W w2 from HD1.out.trans (b2.mono HD1.out.size))
      have C11 := hid (C11.out w2)
      clear hp b2 ho C10
      go_wp2_with (fail)
      go_at_call 11
      refine C11.out.mono ?_
      rintro e w3 ⟨D, rfl, hn, hd, hq, hv, _, _, b3⟩
      have HST := hid (s3_new HB2.out HP.out b3 hd hn hq hv)
      generalize A.pb = pb at *
      generalize D.qb = qb at *
      clear hn hd hq hv b3 C11 HP HB2 HD1
      go_wp2_with (fail)
      rcases hsh with Z | ⟨b, off, hab⟩
      case' inr => subst hab
      all_goals
        go_loopw [9, 11, 13, 14, 15] (fun pv mv pv2 mv2 i wr => ∃ k p1 q1 p2 q2 : Nat, k ≤ t ∧ pv = .pointer (some ⟨p1, 0, none⟩) ∧ mv = .pointer (some ⟨q1, 0, none⟩) ∧ pv2 = .pointer (some ⟨p2, 0, none⟩) ∧ mv2 = .pointer (some ⟨q2, 0, none⟩) ∧ i = .int .i64 (k : Nat) ∧ Hid (S3 W m k p1 q1 p2 q2 wr)) (fun _ _ _ _ i _ => t - (intOf i).toNat)
        case atStart => exact ⟨0, pb, qb, pb, qb, Nat.zero_le _, rfl, rfl, rfl, rfl, rfl, HST⟩
        case round =>
          obtain ⟨k, p1, q1, p2, q2, hk, rfl, rfl, rfl, rfl, rfl, HG⟩ := hrel
          by_cases hlt : k < t
          · first
              | (exfalso; have := Z.out; omega)
              | (have hlt' : (k : Int) < t := by omega
                 have HK := hid (show k ≤ 1000 by have := HT1.out; omega)
                 have hkl : k < ss.length := by rw [HL.out]; exact hlt
                 obtain ⟨a', cc, ok, hc⟩ := opsAt3 HS.out hkl
                 have HLN := hid (show ss[k].l.length ≤ 16777216 by have := cnt_mem (List.getElem_mem hkl); have := HC1.out; omega)
                 generalize ss[k] = q at *
                 have HOK := hid (fun (w : World) (hb : Below W.heap.size W w) => ok.below hb)
                 have HX := hid hc
                 have ⟨x0, x1, x2⟩ := HX.out _ HG.out.bel
                 obtain ⟨hm1, hm2⟩ := mod9 ok.kind
                 have hr9 : q.kind % 9 = 0 ∨ q.kind % 9 = 1 ∨ q.kind % 9 = 2 ∨ q.kind % 9 = 3 ∨ q.kind % 9 = 4 ∨ q.kind % 9 = 5 ∨ q.kind % 9 = 6 ∨ q.kind % 9 = 7 ∨ q.kind % 9 = 8 := by have := ok.kind; omega
                 have hwk : wrap64 ((k : Int) + 1) = (k : Int) + 1 := by have := HT1.out; unfold wrap64; omega
                 have HWK := hid hwk
                 clear hkl ok hc HST hwk
                 rcases hr9 with hr | hr | hr | hr | hr | hr | hr | hr | hr
                 · have C5 := hid (HG.out.plays HK.out (ca := cc) (HOK.out _ HG.out.bel) HLN.out (by rw [hr]; decide))
                   rw [hr] at hm1 hm2
                   generalize q.l.length = z at *
                   generalize q.kind = kd at *
                   generalize q.v = v at *
                   clear HG HX HOK HLN hr
                   go_wp2_with (fail)
                   go_at_call 14
                   refine C5.out.mono ?_
                   rintro e w5 ⟨rfl, h5⟩
                   have T1 := hid h5.tells
                   clear h5 C5 x0 x1 x2 hm1 hm2
                   go_wp2_with (fail)
                   go_at_call 15
                   refine T1.out.mono ?_
                   rintro e w6 ⟨rfl, h6⟩
                   have T2 := hid h6.tells
                   clear h6 T1
                   go_wp2_with (fail)
                   go_at_call 15
                   refine T2.out.mono ?_
                   rintro e w7 ⟨rfl, h7⟩
                   have H7 := hid h7
                   clear h7 T2
                   go_wp2_with (fail)
                   rw [HWK.out]
                   exact ⟨⟨k + 1, _, _, _, _, hlt, rfl, rfl, rfl, rfl, rfl, H7⟩, by simp only [intOf]; exact meas hlt⟩
                 · have C5 := hid (HG.out.plays HK.out (ca := cc) (HOK.out _ HG.out.bel) HLN.out (by rw [hr]; decide))
                   rw [hr] at hm1 hm2
                   generalize q.l.length = z at *
                   generalize q.kind = kd at *
                   generalize q.v = v at *
                   clear HG HX HOK HLN hr
                   go_wp2_with (fail)
                   go_at_call 14
                   refine C5.out.mono ?_
                   rintro e w5 ⟨rfl, h5⟩
                   have T1 := hid h5.tells
                   clear h5 C5 x0 x1 x2 hm1 hm2
                   go_wp2_with (fail)
                   go_at_call 15
                   refine T1.out.mono ?_
                   rintro e w6 ⟨rfl, h6⟩
                   have T2 := hid h6.tells
                   clear h6 T1
                   go_wp2_with (fail)
                   go_at_call 15
                   refine T2.out.mono ?_
                   rintro e w7 ⟨rfl, h7⟩
                   have H7 := hid h7
                   clear h7 T2
                   go_wp2_with (fail)
                   rw [HWK.out]
                   exact ⟨⟨k + 1, _, _, _, _, hlt, rfl, rfl, rfl, rfl, rfl, H7⟩, by simp only [intOf]; exact meas hlt⟩
                 · have C5 := hid (HG.out.plays HK.out (ca := cc) (HOK.out _ HG.out.bel) HLN.out (by rw [hr]; decide))
                   rw [hr] at hm1 hm2
                   generalize q.l.length = z at *
                   generalize q.kind = kd at *
                   generalize q.v = v at *
                   clear HG HX HOK HLN hr
                   go_wp2_with (fail)
                   go_at_call 14
                   refine C5.out.mono ?_
                   rintro e w5 ⟨rfl, h5⟩
                   have T1 := hid h5.tells
                   clear h5 C5 x0 x1 x2 hm1 hm2
                   go_wp2_with (fail)
                   go_at_call 15
                   refine T1.out.mono ?_
                   rintro e w6 ⟨rfl, h6⟩
                   have T2 := hid h6.tells
                   clear h6 T1
                   go_wp2_with (fail)
                   go_at_call 15
                   refine T2.out.mono ?_
                   rintro e w7 ⟨rfl, h7⟩
                   have H7 := hid h7
                   clear h7 T2
                   go_wp2_with (fail)
                   rw [HWK.out]
                   exact ⟨⟨k + 1, _, _, _, _, hlt, rfl, rfl, rfl, rfl, rfl, H7⟩, by simp only [intOf]; exact meas hlt⟩
                 · have C5 := hid (HG.out.plays HK.out (ca := cc) (HOK.out _ HG.out.bel) HLN.out (by rw [hr]; decide))
                   rw [hr] at hm1 hm2
                   generalize q.l.length = z at *
                   generalize q.kind = kd at *
                   generalize q.v = v at *
                   clear HG HX HOK HLN hr
                   go_wp2_with (fail)
                   go_at_call 14
                   refine C5.out.mono ?_
                   rintro e w5 ⟨rfl, h5⟩
                   have T1 := hid h5.tells
                   clear h5 C5 x0 x1 x2 hm1 hm2
                   go_wp2_with (fail)
                   go_at_call 15
                   refine T1.out.mono ?_
                   rintro e w6 ⟨rfl, h6⟩
                   have T2 := hid h6.tells
                   clear h6 T1
                   go_wp2_with (fail)
                   go_at_call 15
                   refine T2.out.mono ?_
                   rintro e w7 ⟨rfl, h7⟩
                   have H7 := hid h7
                   clear h7 T2
                   go_wp2_with (fail)
                   rw [HWK.out]
                   exact ⟨⟨k + 1, _, _, _, _, hlt, rfl, rfl, rfl, rfl, rfl, H7⟩, by simp only [intOf]; exact meas hlt⟩
                 · have C5 := hid (HG.out.plays HK.out (ca := cc) (HOK.out _ HG.out.bel) HLN.out (by rw [hr]; decide))
                   rw [hr] at hm1 hm2
                   generalize q.l.length = z at *
                   generalize q.kind = kd at *
                   generalize q.v = v at *
                   clear HG HX HOK HLN hr
                   go_wp2_with (fail)
                   go_at_call 14
                   refine C5.out.mono ?_
                   rintro e w5 ⟨rfl, h5⟩
                   have T1 := hid h5.tells
                   clear h5 C5 x0 x1 x2 hm1 hm2
                   go_wp2_with (fail)
                   go_at_call 15
                   refine T1.out.mono ?_
                   rintro e w6 ⟨rfl, h6⟩
                   have T2 := hid h6.tells
                   clear h6 T1
                   go_wp2_with (fail)
                   go_at_call 15
                   refine T2.out.mono ?_
                   rintro e w7 ⟨rfl, h7⟩
                   have H7 := hid h7
                   clear h7 T2
                   go_wp2_with (fail)
                   rw [HWK.out]
                   exact ⟨⟨k + 1, _, _, _, _, hlt, rfl, rfl, rfl, rfl, rfl, H7⟩, by simp only [intOf]; exact meas hlt⟩
                 · have C5 := hid (HG.out.plays HK.out (ca := cc) (HOK.out _ HG.out.bel) HLN.out (by rw [hr]; decide))
                   rw [hr] at hm1 hm2
                   generalize q.l.length = z at *
                   generalize q.kind = kd at *
                   generalize q.v = v at *
                   clear HG HX HOK HLN hr
                   go_wp2_with (fail)
                   go_at_call 14
                   refine C5.out.mono ?_
                   rintro e w5 ⟨rfl, h5⟩
                   have T1 := hid h5.tells
                   clear h5 C5 x0 x1 x2 hm1 hm2
                   go_wp2_with (fail)
                   go_at_call 15
                   refine T1.out.mono ?_
                   rintro e w6 ⟨rfl, h6⟩
                   have T2 := hid h6.tells
                   clear h6 T1
                   go_wp2_with (fail)
                   go_at_call 15
                   refine T2.out.mono ?_
                   rintro e w7 ⟨rfl, h7⟩
                   have H7 := hid h7
                   clear h7 T2
                   go_wp2_with (fail)
                   rw [HWK.out]
                   exact ⟨⟨k + 1, _, _, _, _, hlt, rfl, rfl, rfl, rfl, rfl, H7⟩, by simp only [intOf]; exact meas hlt⟩
                 · have C5 := hid (HG.out.plays HK.out (ca := cc) (HOK.out _ HG.out.bel) HLN.out (by rw [hr]; decide))
                   rw [hr] at hm1 hm2
                   generalize q.l.length = z at *
                   generalize q.kind = kd at *
                   generalize q.v = v at *
                   clear HG HX HOK HLN hr
                   go_wp2_with (fail)
                   go_at_call 14
                   refine C5.out.mono ?_
                   rintro e w5 ⟨rfl, h5⟩
                   have T1 := hid h5.tells
                   clear h5 C5 x0 x1 x2 hm1 hm2
                   go_wp2_with (fail)
                   go_at_call 15
                   refine T1.out.mono ?_
                   rintro e w6 ⟨rfl, h6⟩
                   have T2 := hid h6.tells
                   clear h6 T1
                   go_wp2_with (fail)
                   go_at_call 15
                   refine T2.out.mono ?_
                   rintro e w7 ⟨rfl, h7⟩
                   have H7 := hid h7
                   clear h7 T2
                   go_wp2_with (fail)
                   rw [HWK.out]
                   exact ⟨⟨k + 1, _, _, _, _, hlt, rfl, rfl, rfl, rfl, rfl, H7⟩, by simp only [intOf]; exact meas hlt⟩
                 · have C5 := hid HG.out.copyP
                   have HNX := hid (fun (p1 q1 p2 q2 : Nat) (w : World) (h : S3 W m k p1 q1 p2 q2 w) => h.next HK.out)
                   rw [hr] at hm1 hm2
                   generalize q.l.length = z at *
                   generalize q.kind = kd at *
                   generalize q.v = v at *
                   clear HG HX HOK HLN hr
                   go_wp2_with (fail)
                   go_at_call 12
                   refine C5.out.mono ?_
                   rintro e w4 ⟨hc, rfl, h4⟩
                   have C6 := hid h4.copyD
                   clear h4 C5 x0 x1 x2 hm1 hm2
                   go_wp2_with (fail)
                   go_at_call 13
                   refine C6.out.mono ?_
                   rintro e w5 ⟨mc, rfl, h5⟩
                   have T1 := hid (HNX.out _ _ _ _ _ h5).tells
                   clear h5 C6
                   go_wp2_with (fail)
                   go_at_call 15
                   refine T1.out.mono ?_
                   rintro e w6 ⟨rfl, h6⟩
                   have T2 := hid h6.tells
                   clear h6 T1
                   go_wp2_with (fail)
                   go_at_call 15
                   refine T2.out.mono ?_
                   rintro e w7 ⟨rfl, h7⟩
                   have H7 := hid h7
                   clear h7 T2
                   go_wp2_with (fail)
                   rw [HWK.out]
                   exact ⟨⟨k + 1, _, _, _, _, hlt, rfl, rfl, rfl, rfl, rfl, H7⟩, by simp only [intOf]; exact meas hlt⟩
                 · have T1 := hid (HG.out.back.next HK.out).tells
                   rw [hr] at hm1 hm2
                   generalize q.l.length = z at *
                   generalize q.kind = kd at *
                   generalize q.v = v at *
                   clear HG HX HOK HLN hr
                   go_wp2_with (fail)
                   go_at_call 15
                   refine T1.out.mono ?_
                   rintro e w6 ⟨rfl, h6⟩
                   have T2 := hid h6.tells
                   clear h6 T1
                   go_wp2_with (fail)
                   go_at_call 15
                   refine T2.out.mono ?_
                   rintro e w7 ⟨rfl, h7⟩
                   have H7 := hid h7
                   clear h7 T2
                   go_wp2_with (fail)
                   rw [HWK.out]
                   exact ⟨⟨k + 1, _, _, _, _, hlt, rfl, rfl, rfl, rfl, rfl, H7⟩, by simp only [intOf]; exact meas hlt⟩)
          · have hge : ¬ (k : Int) < t := by omega
            have HB := hid HG.out.back
            have CT := hid HB.out.tells
            clear HG HST
            go_wp2_with (fail)
            go_at_call 15
            refine CT.out.mono ?_
            rintro e w8 ⟨rfl, h8⟩
            have C9 := hid (CW.out w8 h8.bel)
            clear h8 CT
            go_wp2_with (fail)
            go_at_call 9
            refine C9.out.mono ?_
            rintro e w9 ⟨rfl, b9⟩
            have HB9 := hid b9
            clear b9 C9
            go_wp2
            go_ret
            exact ⟨rfl, HB9.out⟩
  · have C9 := hid (CW.out w1 HD1.out)
    clear HF
    go_wp2_with (fail)
    go_at_call 9
    refine C9.out.mono ?_
    rintro e w2 ⟨rfl, b2⟩
    have HB := hid b2
    clear b2 C9
    go_wp2
    go_ret
    exact ⟨rfl, HB.out⟩
end Go.Proofs.Ytkodfojccodoaaa
