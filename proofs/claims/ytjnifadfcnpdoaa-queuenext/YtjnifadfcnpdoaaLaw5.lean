/- QueueNext: what is next hangs on what is set alone. -/
import Derived.Test.YtjnifadfcnpdoaaTwo
namespace Go.Proofs.Ytjnifadfcnpdoaa
open Go.RowKit Go.Maps
set_option linter.unusedVariables false
set_option maxRecDepth 100000

namespace Qp
/-- What stands behind the next one is set. -/
theorem nxt_set {L : List Nat} {bs : List Bool} : ∀ {k : Nat}, k ≤ L.length → (∀ j, k ≤ j → j < L.length → L.getD j 0 ≠ nxt L bs) → ∀ j, k ≤ j → j < L.length → isS bs (L.getD j 0) = true := by
  intro k hk h
  -- by going down from the end
  have main : ∀ d, d ≤ L.length - k → ∀ j, L.length - d ≤ j → j < L.length → isS bs (L.getD j 0) = true := by
    intro d
    induction d with
    | zero => intro _ j h1 h2; omega
    | succ d ih =>
      intro hd j h1 h2
      by_cases e : L.length - d ≤ j
      · exact ih (by omega) j e h2
      · have hj : j = L.length - d - 1 := by omega
        cases hs : isS bs (L.getD j 0) with
        | true => rfl
        | false =>
          have := nxt_at (L := L) (bs := bs) (k := j + 1) (by omega) (fun i h3 h4 => ih (by omega) i (by omega) h4) (.inr (by simpa using hs))
          exact absurd this.symm (h j (by omega) h2)
  exact fun j h1 h2 => main (L.length - k) (Nat.le_refl _) j (by omega) h2
theorem isS_at {bs : List Bool} {v : Nat} (h : isS bs v = true) : 1 ≤ v ∧ v ≤ bs.length ∧ bs.getD (v - 1) false = true := by
  simp only [isS, Bool.and_eq_true, decide_eq_true_eq] at h
  exact ⟨by omega, h.2.1, h.2.2⟩
theorem isS_no {bs : List Bool} {v : Nat} (h : isS bs v = false) (h1 : 1 ≤ v) (h2 : v ≤ bs.length) : bs.getD (v - 1) false = false := by
  unfold isS at h
  rw [decide_eq_true (show v ≠ 0 by omega), decide_eq_true h2] at h
  simpa using h
end Qp
set_option maxHeartbeats 8000000 in
theorem law5 (n : Int) {a b : Option Addr} {ca cb : Nat} {ss : List Opr} {bs : List Bool} {W : World} (h1 : Ops W a ss) (h8 : ss.length ≤ 8796093022208) (h2 : Bw W b bs) (hl : bs.length ≤ maxLen) :
    Calls Try.prog 5 #[.int .i64 n, .slice a ss.length ca, .slice b bs.length cb] W fun e w' => e = .returned (.bool true) ∧ Below W.heap.size W w' := by
  have CW := hid (fun (w : World) (hb : Below W.heap.size W w) => show Calls Try.prog 9 #[] w fun e w' => e = .returned (.bool true) ∧ Below W.heap.size W w' from (works9 w).mono (by rintro e w' ⟨rfl, b1⟩; exact ⟨rfl, hb.trans (b1.mono hb.size)⟩))
  have C8 := hid (large8 (c := ca) n h1 h8)
  have HO := hid (fun (w : World) (hb : Below W.heap.size W w) => h1.below hb)
  have HL := hid (fun (w : World) (hb : Below W.heap.size W w) => h2.all hb)
  have hsh : Hid (ss.length = 0) ∨ ∃ b' off, a = some ⟨b', off, none⟩ := h1.shape
  have HF := hid (fun (e : lrg n ss = false) => And.intro (few_of e) (lrg_few e).1)
  generalize hD : lrg n ss = D at *
  obtain ⟨t, ht⟩ : ∃ t, bs.length = t := ⟨_, rfl⟩
  obtain ⟨u, hu⟩ : ∃ u, ss.length = u := ⟨_, rfl⟩
  have HT := hid ht
  have HU := hid hu
  rw [hu] at C8 hsh
  rw [ht, hu]
  clear h1 h2 h8 hl ht hu hD
  go_enter Try.func5, Try.ntmps5
  go_wp2_with (fail)
  go_at_call 8
  refine C8.out.mono ?_
  rintro e w1 ⟨rfl, d1⟩
  have HD1 := hid (show Below W.heap.size W w1 from d1.below)
  clear d1 C8
  cases D
  · by_cases ht1 : (4000 : Int) < t
    · have C9 := hid (CW.out w1 HD1.out)
      go_wp2_with (fail)
      go_at_call 9
      refine C9.out.mono ?_
      rintro e w2 ⟨rfl, b2⟩
      have HB := hid b2
      clear b2 C9
      go_wp2
      go_ret
      exact ⟨rfl, HB.out⟩
    · obtain ⟨hfew, hnn⟩ := HF.out rfl
      have HFW := hid hfew
      have ht1' : t ≤ 4000 := by omega
      by_cases hn : n < 0 ∨ 1048576 < n
      · have CB := hid (fun (w : World) => bumped20_no (a := a) (l := u) (c := ca) n (W := w) hn)
        have C9 := hid (CW.out w1 HD1.out)
        clear hn hnn hfew
        go_wp2_with (fail)
        go_at_call 20
        refine (CB.out w1).mono ?_
        rintro e w2 ⟨rfl, hw2⟩
        rw [hw2]
        clear hw2
        go_wp2_with (fail)
        go_at_call 9
        refine C9.out.mono ?_
        rintro e w2 ⟨rfl, b2⟩
        have HB := hid b2
        clear b2 C9
        go_wp2
        go_ret
        exact ⟨rfl, HB.out⟩
      · obtain ⟨m, rfl⟩ : ∃ m : Nat, n = m := ⟨n.toNat, by omega⟩
        have hm : m ≤ 100 := by omega
        have CB := hid (fun (w : World) (hb : Below W.heap.size W w) => bumped20 (n := m) (c := ca) (by omega) (HO.out w hb) HFW.out)
        rw [HU.out] at CB
        have C1 := hid (CB.out w1 HD1.out)
        clear hn hnn hfew HF
        go_wp2_with (fail)
        go_at_call 20
        refine C1.out.mono ?_
        rintro e w2 ⟨A, rfl, q2, b2⟩
        have HB2 := hid (HD1.out.trans (b2.mono HD1.out.size))
        have HQ2 := hid (q2.old HD1.out.size)
        generalize runB m ss = p at *
        have CN := hid (fun (w : World) (hq : Qn W.heap.size A m (1048577 * 101) p.1 p.2 w) (hb : Below W.heap.size W w) => hq.next hb.size (c := cb) (HL.out w hb))
        rw [HT.out] at CN
        have CN1 := hid (CN.out w2 HQ2.out HB2.out)
        clear q2 b2 C1 HD1 CB
        go_wp2_with (fail)
        go_at_call 21
        refine CN1.out.mono ?_
        rintro e w3 ⟨rfl, q3, b3, _⟩
        have HB3 := hid (HB2.out.trans b3)
        have HQ3 := hid q3
        obtain ⟨v, hv⟩ : ∃ v, Qp.nxt p.1 bs = v := ⟨_, rfl⟩
        have HV := hid hv
        rw [hv]
        clear q3 b3 CN1 HQ2 HB2 hv
        go_wp2_with (fail)
        rcases hsh with Z | ⟨b', off, hb'⟩
        case' inr => subst hb'
        all_goals
          go_loopw [10] (fun i wr => ∃ k : Nat, k ≤ u ∧ i = .int .i64 (k : Nat) ∧ Hid (Qn W.heap.size A m (1048577 * 101) p.1 p.2 wr ∧ Below W.heap.size W wr)) (fun i _ => u - (intOf i).toNat)
          case atStart => exact ⟨0, Nat.zero_le _, rfl, hid ⟨HQ3.out, HB3.out⟩⟩
          case round =>
            obtain ⟨k, hk, rfl, HI⟩ := hrel
            by_cases hlt : k < u
            · first
                | (exfalso; have := Z.out; omega)
                | (have hlt' : (k : Int) < u := by omega
                   have hkl : k < ss.length := by rw [HU.out]; exact hlt
                   have hu1 : u ≤ 100 := by have := HFW.out.1; have := HU.out; omega
                   have hwk : wrap64 ((k : Int) + 1) = (k : Int) + 1 := by unfold wrap64; omega
                   obtain ⟨a', b'', ca', cb', ok, x0, x1, x2⟩ := (HO.out wr HI.out.2).at hkl
                   generalize ss[k] = s at *
                   have C1 := hid (HI.out.1.next HI.out.2.size (c := cb') ok.set)
                   have HB := hid HI.out.2
                   generalize s.set.length = z at *
                   clear ok x0 x1 hkl HI HQ3 HB3
                   go_wp2_with (fail)
                   go_at_call 21
                   refine C1.out.mono ?_
                   rintro e w4 ⟨rfl, q4, b4, _⟩
                   have HN := hid (And.intro q4 (HB.out.trans b4))
                   clear q4 b4 C1 HB
                   go_wp2_with (fail)
                   exact ⟨⟨k + 1, hlt, by first | rfl | (rw [hwk]; rfl), HN⟩, by first | (simp only [intOf]; exact meas hlt) | (rw [hwk]; simp only [intOf]; exact meas hlt)⟩)
            · have hge : ¬ (k : Int) < u := by omega
              have CN2 := hid (CN.out wr HI.out.1 HI.out.2)
              clear HQ3 HB3
              go_wp2_with (fail)
              go_at_call 21
              refine CN2.out.mono ?_
              rintro e w4 ⟨rfl, q4, b4, _⟩
              rw [HV.out]
              have HQ4 := hid q4
              have HB4 := hid (HI.out.2.trans b4)
              clear q4 b4 CN2 CN HI
              have hvm := Qp.nxt_mem p.1 bs
              rw [HV.out] at hvm
              have hvn : v ≤ m := by
                rcases hvm with h | h
                · omega
                · exact (HQ4.out.qx.rg.1 v h.1).2
              have hsb : Hid (t = 0) ∨ ∃ b2 off2, b = some ⟨b2, off2, none⟩ := by
                rcases HL.out w4 HB4.out with h | ⟨b2, o2, h, _⟩
                · left; rw [← HT.out, h]; rfl
                · exact .inr ⟨b2, o2, h⟩
              have CO := hid (order16 HQ4.out.qx)
              have hrl : p.1.length ≤ 100 := by
                have h4 := List.Nodup.length_le_of_subset (l₂ := List.range' 1 m) HQ4.out.qx.rg.2.1 (fun x hx => by have := HQ4.out.qx.rg.1 x hx; rw [List.mem_range'_1]; omega)
                simp at h4
                omega
              obtain ⟨rz, hrz⟩ : ∃ rz, p.1.length = rz := ⟨_, rfl⟩
              rw [hrz] at hrl
              have HRZ := hid hrz
              have HS := hid (fun (k : Nat) (hk : k ≤ rz) (h : ∀ j, k ≤ j → j < rz → p.1.getD j 0 ≠ v) => Qp.nxt_set (L := p.1) (bs := bs) (by rw [hrz]; exact hk) (by rw [hrz, HV.out]; exact h))
              have HRG := hid HQ4.out.qx.rg.1
              clear hrz
              rcases hsb with Zb | ⟨b2, off2, hb2⟩
              case' inr => subst hb2
              all_goals
                have HQ := hid (show v = 0 ∨ (t < v ∧ v ≠ 0) ∨ (v ≠ 0 ∧ v ≤ t ∧ bs.getD (v - 1) false = false) from by
                  rcases hvm with h | ⟨_, h⟩
                  · exact .inl h
                  · by_cases h0 : v = 0
                    · exact .inl h0
                    · by_cases h1 : t < v
                      · exact .inr (.inl ⟨h1, h0⟩)
                      · exact .inr (.inr ⟨h0, by omega, Qp.isS_no h (by omega) (by rw [HT.out]; omega)⟩))
                clear hvm
                rcases HQ.out with h0 | ⟨h1, h0⟩ | ⟨h0, h1, h2⟩
                all_goals
                  have hvv : ((v : Int) != (v : Int)) = false := by simp
                  first
                    | (have hv0 : ((v : Int) != 0) = false := by rw [h0]; rfl
                       clear h0 HQ
                       go_wp2_with (fail))
                    | (have hv0 : ((v : Int) != 0) = true := by rw [bne_iff_ne]; omega
                       have hvt : ¬ (v : Int) ≤ t := by omega
                       clear h0 h1 HQ
                       go_wp2_with (fail))
                    | (exfalso; have := Zb.out; omega)
                    | (have hv0 : ((v : Int) != 0) = true := by rw [bne_iff_ne]; omega
                       have hvt : (v : Int) ≤ t := by omega
                       have hw : wrap64 ((v : Int) - 1) = ((v - 1 : Nat) : Int) := by unfold wrap64; omega
                       have hw2 : ((v - 1 : Nat) : Int) < t := by omega
                       have hw3 : (v : Int) - 1 = ((v - 1 : Nat) : Int) := by omega
                       have x9 : w4.cell? ⟨b2, off2 + (v - 1), none⟩ = some (.bool false) := by
                         rcases HL.out w4 HB4.out with h | ⟨b3, o3, h, h3⟩
                         · exfalso; have := HT.out; rw [h] at this; simp at this; omega
                         · cases h; rw [h3 (v - 1) (by rw [HT.out]; omega), h2]
                       clear h0 h1 h2 HQ
                       generalize v - 1 = vq at *
                       go_wp2_with (fail))
                all_goals
                  go_at_call 16
                  refine CO.out.mono ?_
                  rintro e w5 ⟨o5, c5, rfl, ow5, b5⟩
                  rw [HRZ.out] at ow5 ⊢
                  have HB5 := hid (HB4.out.trans (b5.mono HB4.out.size))
                  have hso : Hid (rz = 0) ∨ ∃ b6, o5 = some ⟨b6, 0, none⟩ := by
                    rcases Nat.eq_zero_or_pos rz with h | h
                    · exact .inl h
                    · obtain ⟨g, c', cur, e, _⟩ := own_some ow5 h
                      cases e
                      exact .inr ⟨g, rfl⟩
                  have HW5 := hid ow5
                  have hwz : wrap64 ((rz : Int) - 1) = (rz : Int) - 1 := by unfold wrap64; omega
                  clear ow5 b5 CO
                  go_wp2_with (fail)
                  rcases hso with Zo | ⟨b6, ho5⟩
                  case' inr => subst ho5
                  all_goals
                    go_loopw [14] (fun i wr => ∃ k : Nat, k ≤ rz ∧ i = .int .i64 ((k : Int) - 1) ∧ Hid (∀ j, k ≤ j → j < rz → p.1.getD j 0 ≠ v) ∧ Hid (Drawn w5 wr)) (fun i _ => (intOf i + 1).toNat)
                    case atStart => exact ⟨rz, Nat.le_refl _, rfl, hid (fun j h1 h2 => by omega), hid (Drawn.refl _)⟩
                    case round =>
                      obtain ⟨k, hk, rfl, HJ, HW⟩ := hrel
                      have HBR := hid (HB5.out.trans (HW.out.below.mono HB5.out.size))
                      have C9 := hid (CW.out wr HBR.out)
                      by_cases hlt : 0 < k
                      · first
                          | (exfalso; have := Zo.out; omega)
                          | (have hge : (0 : Int) ≤ (k : Int) - 1 := by omega
                             have hlt2 : (k : Int) - 1 < rz := by omega
                             have htn : ((k : Int) - 1).toNat = k - 1 := by omega
                             have hwk : wrap64 ((k : Int) - 1 - 1) = ((k - 1 : Nat) : Int) - 1 := by unfold wrap64; omega
                             have x1 : wr.cell? ⟨b6, k - 1, none⟩ = some (.int .i64 ((p.1.getD (k - 1) 0 : Nat) : Int)) := by
                               obtain ⟨q, hq⟩ := HW.out
                               rw [hq]
                               show w5.cell? _ = _
                               rw [(own_cell HW5.out (by omega)).1, inn_at (by rw [HRZ.out]; omega)]
                             by_cases hxv : p.1.getD (k - 1) 0 = v
                             · rw [hxv] at x1
                               go_wp2_with (fail)
                               go_at_call 9
                               refine C9.out.mono ?_
                               rintro e w2 ⟨rfl, b2⟩
                               have HB := hid b2
                               clear b2 C9
                               go_wp2
                               go_ret
                               exact ⟨rfl, HB.out⟩
                             · have HJ2 := hid (show ∀ j, k - 1 ≤ j → j < rz → p.1.getD j 0 ≠ v from fun j h1 h2 => by
                                 by_cases e : j = k - 1
                                 · rw [e]; exact hxv
                                 · exact HJ.out j (by omega) h2)
                               obtain ⟨y1, y2, y3⟩ := Qp.isS_at (HS.out (k - 1) (by omega) HJ2.out (k - 1) (Nat.le_refl _) (by rw [HRZ.out]; omega))
                               rw [HT.out] at y2
                               first
                                 | (exfalso; have := Zb.out; omega)
                                 | (have x2 : wr.cell? ⟨b2, off2 + (p.1.getD (k - 1) 0 - 1), none⟩ = some (.bool true) := by
                                      rcases HL.out wr HBR.out with h | ⟨b3, o3, h, h3⟩
                                      · exfalso; have := HT.out; rw [h] at this; simp at this; omega
                                      · cases h; rw [h3 _ (by rw [HT.out]; omega), y3]
                                    generalize p.1.getD (k - 1) 0 = x at *
                                    have hxv' : ((x : Int) != (v : Int)) = true := by rw [bne_iff_ne]; omega
                                    have hxt : ¬ (t : Int) < x := by omega
                                    have hx1 : wrap64 ((x : Int) - 1) = ((x - 1 : Nat) : Int) := by unfold wrap64; omega
                                    have hx2 : (x : Int) - 1 = ((x - 1 : Nat) : Int) := by omega
                                    have hx3 : ((x - 1 : Nat) : Int) < t := by omega
                                    generalize x - 1 = x' at *
                                    clear hxv y1 y2 y3 C9
                                    go_wp2_with (fail)
                                    exact ⟨⟨k - 1, by omega, by first | (rw [hwk]) | (congr 1; omega), HJ2, HW⟩, by simp only [intOf]; omega⟩))
                      · have hge : ¬ (0 : Int) ≤ (k : Int) - 1 := by omega
                        go_wp2_with (fail)
                        go_at_call 9
                        refine C9.out.mono ?_
                        rintro e w2 ⟨rfl, b2⟩
                        have HB := hid b2
                        clear b2 C9
                        go_wp2
                        go_ret
                        exact ⟨rfl, HB.out⟩
  · have C9 := hid (CW.out w1 HD1.out)
    go_wp2_with (fail)
    go_at_call 9
    refine C9.out.mono ?_
    rintro e w2 ⟨rfl, b2⟩
    have HB := hid b2
    clear b2 C9
    go_wp2
    go_ret
    exact ⟨rfl, HB.out⟩
end Go.Proofs.Ytjnifadfcnpdoaa
