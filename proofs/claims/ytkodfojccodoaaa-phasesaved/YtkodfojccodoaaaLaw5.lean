/- The law of targets. -/
import Derived.Test.YtkodfojccodoaaaOpa
namespace Go.Proofs.Ytkodfojccodoaaa
open Go.RowKit Go.Maps
set_option linter.unusedVariables false
set_option linter.unusedSimpArgs false
set_option maxRecDepth 100000

/-- Between the trails: what the longest one is. -/
def Best (N : Nat) (A : Adr) (n : Nat) (K : Int) (a : Option Addr) (P : Ph.St) (W0 w : World) : Prop :=
  Pn N A n K P w ∧ Below N W0 w ∧ Lw W0 a P.T ∧ (∀ b off, a = some ⟨b, off, none⟩ → 0 < P.T.length → b < N) ∧ P.T.length ≤ 5000 ∧ P.sv = List.replicate n false
theorem Lw.low {W W' : World} {N : Nat} {a : Option Addr} {l : List Int} (h : Lw W a l) (hb : Below N W W') (hn : ∀ b off, a = some ⟨b, off, none⟩ → 0 < l.length → b < N) : Lw W' a l := by
  rcases h with h | ⟨b, off, rfl, h⟩
  · exact .inl h
  · exact .inr ⟨b, off, rfl, fun j hj => ⟨(hb.cell (p := ⟨b, off + j, none⟩) (hn b off rfl (by omega))).trans (h j hj).1, (h j hj).2⟩⟩
theorem Lw.back {W W' : World} {N : Nat} {a : Option Addr} {l : List Int} (h : Lw W' a l) (hb : Below N W W') (hn : ∀ b off, a = some ⟨b, off, none⟩ → 0 < l.length → b < N) : Lw W a l := by
  rcases h with h | ⟨b, off, rfl, h⟩
  · exact .inl h
  · exact .inr ⟨b, off, rfl, fun j hj => ⟨(hb.cell (p := ⟨b, off + j, none⟩) (hn b off rfl (by omega))).symm.trans (h j hj).1, (h j hj).2⟩⟩
theorem w32 {x : Int} (h1 : -2147483648 ≤ x) (h2 : x ≤ 2147483647) : IntKind.i32.wrap x = x := by rw [IntKind.wrap_i32]; omega
theorem rT_may {n : Nat} {P : Ph.St} {l : List Int} (h : Ph.rT n P l = true) : Ph.rP n P l = Ph.reach P l ∧ P.T.length < l.length ∧ Ph.mE n l = 0 := by
  simp only [Ph.rT, Bool.and_eq_true, decide_eq_true_eq] at h
  exact ⟨by simp [Ph.rP, h.1], h.2, by simp [Ph.mE, h.1]⟩
theorem rT_no {n : Nat} {P : Ph.St} {l : List Int} (h : Ph.rT n P l = false) : (Ph.rP n P l).T = P.T ∧ (Ph.mE n l = 0 → ¬ P.T.length < l.length) := by
  simp only [Ph.rT] at h
  cases hm : Ph.may n l
  · exact ⟨by simp [Ph.rP, hm], fun e => by simp [Ph.mE, hm] at e⟩
  · rw [hm, Bool.true_and, decide_eq_false_iff_not] at h
    exact ⟨by simp [Ph.rP, hm, Ph.reach, h], fun _ => h⟩
theorem rP_sv (n : Nat) (P : Ph.St) (l : List Int) : (Ph.rP n P l).sv = P.sv := by unfold Ph.rP; split <;> rfl
theorem rP_T (n : Nat) (P : Ph.St) (l : List Int) (h : Ph.rT n P l = true) : (Ph.rP n P l).T = l := by
  obtain ⟨h1, h2, _⟩ := rT_may h
  rw [h1]; simp [Ph.reach, h2]
theorem wantV {n : Nat} {P : Ph.St} (h : P.sv = List.replicate n false) {v : Nat} (h1 : 1 ≤ v) (h2 : v ≤ n) : Ph.dB n P v = (Ph.lastV v P.T).getD false ∧ Ph.dE n v = 0 := by
  have e : Ph.inR n v = true := by simp [Ph.inR]; omega
  refine ⟨?_, by simp [Ph.dE, e]⟩
  simp only [Ph.dB, e, Bool.true_and, Ph.dec, h, Int.toNat_natCast]
  congr 1
  rw [List.getD_eq_getElem?_getD, List.getElem?_replicate]
  split <;> rfl
theorem measv {k n : Nat} (h : k < n) : n + 1 - ((k : Int) + 1 + 1).toNat < n + 1 - ((k : Int) + 1).toNat := by omega
set_option maxHeartbeats 8000000 in
theorem law5 (n : Int) {a : Option Addr} {ca : Nat} {ss : List Opr} {W : World} (h1 : Ops W.heap.size W a ss) (h8 : ss.length ≤ 8796093022208) :
    Calls Try.prog 5 #[.int .i64 n, .slice a ss.length ca] W fun e w' => e = .returned (.bool true) ∧ Below W.heap.size W w' := by
  have CW := hid (fun (w : World) (hb : Below W.heap.size W w) => show Calls Try.prog 9 #[] w fun e w' => e = .returned (.bool true) ∧ Below W.heap.size W w' from (works9 w).mono (by rintro e w' ⟨rfl, b1⟩; exact ⟨rfl, hb.trans (b1.mono hb.size)⟩))
  have C8 := hid (large8 (c := ca) n h1 h8)
  have HO := hid (fun (w : World) (hb : Below W.heap.size W w) => h1.below hb)
  have hsh : Hid (ss.length = 0) ∨ ∃ b' off, a = some ⟨b', off, none⟩ := h1.shape
  have HF := hid (fun (e : lrg n ss = false) => And.intro (lrg_few e) (fun (k : Nat) (hk : k < ss.length) => show ss[k].l.length ≤ 4000 from by
    have := (lrg_few e).2.2
    have := cnt_mem (List.getElem_mem hk)
    omega))
  generalize hD : lrg n ss = D at *
  obtain ⟨u, hu⟩ : ∃ u, ss.length = u := ⟨_, rfl⟩
  have HU := hid hu
  rw [hu] at C8 hsh
  rw [hu]
  clear h1 h8 hu hD
  go_enter Try.func5, Try.ntmps5
  go_wp2_with (fail)
  go_at_call 8
  refine C8.out.mono ?_
  rintro e w1 ⟨rfl, d1⟩
  have HD1 := hid (show Below W.heap.size W w1 from d1.below)
  clear d1 C8
  cases D
  · obtain ⟨⟨hnn, hu1, _⟩, hfl⟩ := HF.out rfl
    have HFL := hid hfl
    have HU1 := hid (show u ≤ 120 by rw [← HU.out]; exact hu1)
    by_cases hn : n < 0 ∨ 1048576 < n
    · have C10 := hid (new10_no n false 1 w1 hn)
      have C9 := hid (CW.out w1 HD1.out)
      clear hn hnn hfl HF hu1
      go_wp2_with (fail)
      go_at_call 10
      refine C10.out.mono ?_
      rintro e w2 ⟨rfl, hw2⟩
      rw [hw2]
      clear hw2
      go_wp2_with (fail)
      go_at_call 9
      refine C9.out.mono ?_
      rintro e w2 ⟨rfl, b2⟩
      have HB := hid b2
      clear b2 C9
      go_wp2
      go_ret
      exact ⟨rfl, HB.out⟩
    · obtain ⟨m, rfl⟩ : ∃ m : Nat, n = m := ⟨n.toNat, by omega⟩
      have hm : m ≤ 100 := by omega
      have HM := hid hm
      have C10 := hid (new10n (n := m) (st := false) (seed := 1) (W := w1) (by omega) (by omega) (N := W.heap.size) HD1.out.size)
      clear hn hnn hfl HF hu1 hm
      go_wp2_with (fail)
      go_at_call 10
      refine C10.out.mono ?_
      rintro e w2 ⟨A, rfl, q2, b2, _⟩
      have H0 := hid (show Best W.heap.size A m 0 none (St0 m false 1) W w2 from ⟨q2, HD1.out.trans (b2.mono HD1.out.size), .inl rfl, fun _ _ e _ => (by cases e), Nat.zero_le _, rfl⟩)
      clear q2 b2 C10
      go_wp2_with (fail)
      rcases hsh with Z | ⟨b', off, hb'⟩
      case' inr => subst hb'
      all_goals
        go_loopw [8, 7] (fun i bv wr => ∃ (k : Nat) (ab : Option Addr) (cb : Nat) (P : Ph.St), k ≤ u ∧ i = .int .i64 (k : Nat) ∧ bv = .slice ab P.T.length cb ∧ Hid (Best W.heap.size A m (2 * (k : Int)) ab P W wr)) (fun i _ _ => u - (intOf i).toNat)
        case atStart => exact ⟨0, none, 0, St0 m false 1, Nat.zero_le _, rfl, rfl, H0⟩
        case round =>
          obtain ⟨k, ab, cb, P, hk, rfl, rfl, HI⟩ := hrel
          by_cases hlt : k < u
          · first
              | (exfalso; have := Z.out; omega)
              | (have hlt' : (k : Int) < u := by omega
                 have hkl : k < ss.length := by rw [HU.out]; exact hlt
                 have hwk : wrap64 ((k : Int) + 1) = (k : Int) + 1 := by have := HU1.out; unfold wrap64; omega
                 obtain ⟨q3, b3, l3, a3, n3, v3⟩ := HI.out
                 obtain ⟨a', ca', ok, x0, x1, x2⟩ := (HO.out wr b3).at hkl
                 have h4 := HFL.out k hkl
                 have HX := hid (fun (w : World) (hb : Below W.heap.size W w) => ((HO.out w hb).at hkl))
                 have hcell : ∀ w, Below W.heap.size W w → w.cell? ⟨b', off + k * 3 + 2, none⟩ = some (.slice a' ss[k].l.length ca') := fun w hb => by
                   rcases HO.out W (Below.refl _ _) with h | ⟨b5, off5, e5, hl5, hc5⟩
                   · rw [h] at hkl; simp at hkl
                   · cases e5
                     exact ((hb.cell (p := ⟨b', off + k * 3 + 2, none⟩) hl5).trans (b3.cell (p := ⟨b', off + k * 3 + 2, none⟩) hl5).symm).trans x2
                 have HCL := hid hcell
                 have HLW := hid (show Lw W a' ss[k].l from ok.l.back b3 ok.ap)
                 have HAP := hid ok.ap
                 have C21 := hid (q3.reach b3.size (by have := HU1.out; omega) (c := ca') ok.l (fun b off e hp ho => by have := ok.ap b off e hp; have := q3.new b ho; omega) (by unfold maxLen; omega))
                 generalize ss[k].l = l at *
                 obtain ⟨z, hz⟩ : ∃ z, l.length = z := ⟨_, rfl⟩
                 have HZ := hid hz
                 rw [hz] at C21 x2 h4 HCL
                 have HQ := hid (And.intro b3 (And.intro l3 (And.intro a3 (And.intro n3 v3))))
                 obtain ⟨y, hy⟩ : ∃ y, P.T.length = y := ⟨_, rfl⟩
                 have HY := hid hy
                 rw [hy]
                 clear q3 b3 l3 a3 n3 v3 ok x0 x1 hkl hcell HX H0 hy hz HI
                 go_wp2_with (fail)
                 go_at_call 21
                 refine C21.out.mono ?_
                 rintro e w3 ⟨rfl, q4, b4, _⟩
                 have HB4 := hid (HQ.out.1.trans b4)
                 have x9 := HCL.out w3 HB4.out
                 have HQ4 := hid q4
                 clear q4 b4 C21 x2
                 cases hrt : Ph.rT m P l
                 · obtain ⟨t1, t2⟩ := rT_no hrt
                   have HN := hid (show ∃ P', P'.T.length = y ∧ Best W.heap.size A m (2 * ((k + 1 : Nat) : Int)) ab P' W w3 from
                     ⟨_, by rw [t1, HY.out], by
                       rw [show 2 * ((k + 1 : Nat) : Int) = 2 * (k : Int) + 2 by omega]
                       refine ⟨HQ4.out, HB4.out, ?_, ?_, ?_, ?_⟩
                       · rw [t1]; exact HQ.out.2.1
                       · rw [t1]; exact HQ.out.2.2.1
                       · rw [t1]; exact HQ.out.2.2.2.1
                       · rw [rP_sv]; exact HQ.out.2.2.2.2⟩)
                   by_cases he : Ph.mE m l = 0
                   · have hzy : ¬ (y : Int) < z := by have := t2 he; rw [HY.out, HZ.out] at this; omega
                     rw [he]
                     clear t1 t2 he hrt HQ HQ4 HLW HAP
                     go_wp2_with (fail)
                     obtain ⟨P', e1, hb⟩ := HN.out
                     first
                       | exact ⟨⟨k + 1, ab, cb, P', hlt, rfl, by rw [e1], hid hb⟩, by simp only [intOf]; exact meas hlt⟩
                       | (rw [hwk]; exact ⟨⟨k + 1, ab, cb, P', hlt, rfl, by rw [e1], hid hb⟩, by simp only [intOf]; exact meas hlt⟩)
                   · have he' : (Ph.mE m l == 0) = false := by simpa using he
                     generalize Ph.mE m l = f at *
                     clear t1 t2 he hrt HQ HQ4 HLW HAP
                     go_wp2_with (fail)
                     obtain ⟨P', e1, hb⟩ := HN.out
                     first
                       | exact ⟨⟨k + 1, ab, cb, P', hlt, rfl, by rw [e1], hid hb⟩, by simp only [intOf]; exact meas hlt⟩
                       | (rw [hwk]; exact ⟨⟨k + 1, ab, cb, P', hlt, rfl, by rw [e1], hid hb⟩, by simp only [intOf]; exact meas hlt⟩)
                 · obtain ⟨t0, t1, t2⟩ := rT_may hrt
                   have t3 := rP_T m P l hrt
                   have HN := hid (show ∃ P', P'.T.length = z ∧ Best W.heap.size A m (2 * ((k + 1 : Nat) : Int)) a' P' W w3 from
                     ⟨_, by rw [t3, HZ.out], by
                       rw [show 2 * ((k + 1 : Nat) : Int) = 2 * (k : Int) + 2 by omega]
                       refine ⟨HQ4.out, HB4.out, ?_, ?_, ?_, ?_⟩
                       · rw [t3]; exact HLW.out
                       · rw [t3]; exact HAP.out
                       · rw [t3, HZ.out]; omega
                       · rw [rP_sv]; exact HQ.out.2.2.2.2⟩)
                   have hzy : (y : Int) < z := by rw [HY.out, HZ.out] at t1; omega
                   rw [t2]
                   clear t0 t1 t2 t3 hrt HQ HQ4 HLW HAP
                   go_wp2_with (fail)
                   obtain ⟨P', e1, hb⟩ := HN.out
                   first
                     | exact ⟨⟨k + 1, a', ca', P', hlt, rfl, by rw [e1], hid hb⟩, by simp only [intOf]; exact meas hlt⟩
                     | (rw [hwk]; exact ⟨⟨k + 1, a', ca', P', hlt, rfl, by rw [e1], hid hb⟩, by simp only [intOf]; exact meas hlt⟩))
          · have hge : ¬ (k : Int) < u := by omega
            have HE := hid HI.out
            obtain ⟨y, hy⟩ : ∃ y, P.T.length = y := ⟨_, rfl⟩
            have HY := hid hy
            have HY5 := hid (show y ≤ 5000 by rw [← hy]; exact HI.out.2.2.2.2.1)
            have hsb : Hid (y = 0) ∨ ∃ b2 off2, ab = some ⟨b2, off2, none⟩ := by
              rcases HI.out.2.2.1 with h | ⟨b2, o2, h, _⟩
              · left; rw [← hy, h]; rfl
              · exact .inr ⟨b2, o2, h⟩
            rw [hy]
            clear HI H0 hy
            obtain ⟨wo, hwo⟩ : ∃ wo, wo = wr := ⟨wr, rfl⟩
            subst hwo
            go_wp2_with (fail)
            rcases hsb with Zb | ⟨b2, off2, hab⟩
            case' inr => subst hab
            all_goals
              go_loopw [12] (fun i wr => ∃ j : Nat, j ≤ m ∧ i = .int .i64 ((j : Int) + 1) ∧ Hid (Pn W.heap.size A m 240 P wr ∧ Below W.heap.size W wr)) (fun i _ => m + 1 - (intOf i).toNat)
              case atStart => exact ⟨0, Nat.zero_le _, rfl, hid ⟨HE.out.1.mono (by have := HU1.out; omega) (by omega), HE.out.2.1⟩⟩
              case round =>
                obtain ⟨j, hj, rfl, HJ⟩ := hrel
                by_cases hjm : j < m
                · have hj1 : (j : Int) + 1 ≤ m := by omega
                  have hwj : wrap64 ((j : Int) + 1 + 1) = (j : Int) + 1 + 1 := by have := HM.out; unfold wrap64; omega
                  have HWV := hid (wantV HE.out.2.2.2.2.2 (v := j + 1) (by omega) hjm)
                  have hv32 : IntKind.i32.wrap ((j : Int) + 1) = (j : Int) + 1 := w32 (by omega) (by have := HM.out; omega)
                  have hv32n : IntKind.i32.wrap (-((j : Int) + 1)) = -((j : Int) + 1) := w32 (by have := HM.out; omega) (by omega)
                  obtain ⟨v, hv⟩ : ∃ v : Int, (j : Int) + 1 = v := ⟨_, rfl⟩
                  have HV := hid hv
                  rw [show ((j + 1 : Nat) : Int) = v from hv] at HWV
                  rw [hv] at hj1 hwj hv32 hv32n
                  rw [hv]
                  clear hv
                  obtain ⟨wi, hwi⟩ : ∃ wi, wi = wr := ⟨wr, rfl⟩
                  subst hwi
                  go_wp2_with (fail)
                  go_loopw [14, 13] (fun i wv wr => ∃ q : Nat, q ≤ y ∧ i = .int .i64 (q : Nat) ∧ wv = .bool ((Ph.lastV v (P.T.take q)).getD false) ∧ Hid (Pn W.heap.size A m 240 P wr ∧ Below W.heap.size W wr)) (fun i _ _ => y - (intOf i).toNat)
                  case atStart => exact ⟨0, Nat.zero_le _, rfl, rfl, HJ⟩
                  case round =>
                    obtain ⟨q, hq, rfl, rfl, HQ⟩ := hrel
                    by_cases hqy : q < y
                    · first
                        | (exfalso; have := Zb.out; omega)
                        | (have hqy' : (q : Int) < y := by omega
                           have hwq : wrap64 ((q : Int) + 1) = (q : Int) + 1 := by have := HY5.out; unfold wrap64; omega
                           obtain ⟨x0, x1, x2⟩ := (HE.out.2.2.1.low HQ.out.2 HE.out.2.2.2.1).at (j := q) (by rw [HY.out]; exact hqy)
                           have HT := hid (Ph.lastV_take (l := P.T) (k := q) v (by rw [HY.out]; exact hqy))
                           generalize P.T.getD q 0 = x at *
                           clear HJ HE
                           by_cases e1 : x = v
                           · have f1 : (x == v) = true := by simp [e1]
                             have HT2 := hid (show Ph.lastV v (P.T.take (q + 1)) = some (decide (0 < x)) from by rw [HT.out, if_pos (.inl e1)])
                             clear e1 HT
                             generalize Ph.lastV v (P.T.take q) = o at *
                             go_wp2_with (fail)
                             first
                               | exact ⟨⟨q + 1, hqy, rfl, by rw [HT2.out]; rfl, HQ⟩, by simp only [intOf]; exact meas hqy⟩
                               | (rw [hwq]; exact ⟨⟨q + 1, hqy, rfl, by rw [HT2.out]; rfl, HQ⟩, by simp only [intOf]; exact meas hqy⟩)
                           · have f1 : (x == v) = false := by simp [e1]
                             by_cases e2 : x = -v
                             · have f2 : (x == -v) = true := by simp [e2]
                               have HT2 := hid (show Ph.lastV v (P.T.take (q + 1)) = some (decide (0 < x)) from by rw [HT.out, if_pos (.inr e2)])
                               clear e1 e2 HT
                               generalize Ph.lastV v (P.T.take q) = o at *
                               go_wp2_with (fail)
                               first
                                 | exact ⟨⟨q + 1, hqy, rfl, by rw [HT2.out]; rfl, HQ⟩, by simp only [intOf]; exact meas hqy⟩
                                 | (rw [hwq]; exact ⟨⟨q + 1, hqy, rfl, by rw [HT2.out]; rfl, HQ⟩, by simp only [intOf]; exact meas hqy⟩)
                             · have f2 : (x == -v) = false := by simp [e2]
                               have HT2 := hid (show Ph.lastV v (P.T.take (q + 1)) = Ph.lastV v (P.T.take q) from by rw [HT.out, if_neg (fun h => by rcases h with h | h; exact e1 h; exact e2 h)])
                               clear e1 e2 HT
                               generalize Ph.lastV v (P.T.take q) = o at *
                               go_wp2_with (fail)
                               first
                                 | exact ⟨⟨q + 1, hqy, rfl, by rw [HT2.out], HQ⟩, by simp only [intOf]; exact meas hqy⟩
                                 | (rw [hwq]; exact ⟨⟨q + 1, hqy, rfl, by rw [HT2.out], HQ⟩, by simp only [intOf]; exact meas hqy⟩))
                    · have hge2 : ¬ (q : Int) < y := by omega
                      have C20 := hid (HQ.out.1.decide' v)
                      rw [HWV.out.1, HWV.out.2] at C20
                      have HTK := hid (show P.T.take q = P.T from List.take_of_length_le (by rw [HY.out]; omega))
                      rw [HTK.out]
                      generalize (Ph.lastV v P.T).getD false = b at *
                      have hbb : (b != b) = false := by simp
                      have HV2 := hid (show wrap64 (v + 1) = ((j + 1 : Nat) : Int) + 1 from by rw [hwj, ← HV.out]; rfl)
                      have HMS := hid (show m + 1 - (wrap64 (v + 1)).toNat < m + 1 - v.toNat from by rw [hwj, ← HV.out]; exact measv hjm)
                      clear HTK HWV HE HJ
                      go_wp2_with (fail)
                      go_at_call 20
                      refine C20.out.mono ?_
                      rintro e w5 ⟨rfl, hw5⟩
                      rw [hw5]
                      clear hw5
                      go_wp2_with (fail)
                      first
                        | exact ⟨⟨j + 1, hjm, by rw [HV2.out], HQ⟩, by simp only [intOf]; exact HMS.out⟩
                        | (rw [hwj]; exact ⟨⟨j + 1, hjm, by rw [← hwj, HV2.out], HQ⟩, by simp only [intOf]; rw [← hwj]; exact HMS.out⟩)
                · have hj1 : ¬ (j : Int) + 1 ≤ m := by omega
                  have C9 := hid (CW.out wr HJ.out.2)
                  clear HE HJ
                  go_wp2_with (fail)
                  go_at_call 9
                  refine C9.out.mono ?_
                  rintro e w2 ⟨rfl, b2⟩
                  have HB := hid b2
                  clear b2 C9
                  go_wp2
                  go_ret
                  exact ⟨rfl, HB.out⟩
  · have C9 := hid (CW.out w1 HD1.out)
    go_wp2_with (fail)
    go_at_call 9
    refine C9.out.mono ?_
    rintro e w2 ⟨rfl, b2⟩
    have HB := hid b2
    clear b2 C9
    go_wp2
    go_ret
    exact ⟨rfl, HB.out⟩
end Go.Proofs.Ytkodfojccodoaaa
