/- The law of what is saved. -/
import Derived.Test.YtkodfojccodoaaaDos
import Derived.Test.YtkodfojccodoaaaSav
import Derived.Test.YtkodfojccodoaaaLaw5
namespace Go.Proofs.Ytkodfojccodoaaa
open Go.RowKit Go.Maps
set_option linter.unusedVariables false
set_option linter.unusedSimpArgs false
set_option maxRecDepth 100000

theorem doP_st (n : Nat) (P : Ph.St) (s : Opr) : (doP n P s).st = P.st := by
  unfold doP Ph.sP Ph.rP draw Ph.turn
  split
  · split <;> rfl
  · split
    · split <;> rfl
    · split
      · rfl
      · split <;> rfl
theorem Pn.us {N : Nat} {A : Adr} {n : Nat} {K : Int} {P : Ph.St} {W : World} (H : Pn N A n K P W) : Us P.s := by
  obtain ⟨nt, mt, nb, mb, q, _, _, _, _, _, k4⟩ := H.px
  exact k4
theorem Pn.lt {N : Nat} {A : Adr} {n : Nat} {K : Int} {P : Ph.St} {W : World} (H : Pn N A n K P W) {g : Nat} (hg : A.own g) : g < W.heap.size := by
  obtain ⟨nt, mt, nb, mb, q, _⟩ := H.px
  exact q.ltsz hg
theorem Pn.len {N : Nat} {A : Adr} {n : Nat} {K : Int} {P : Ph.St} {W : World} (H : Pn N A n K P W) : P.sv.length = n := by rw [← H.hn]; exact H.px.len
theorem doV_ne {P : Ph.St} (h : Us P.s) (s : Opr) : (doV P s == 0) = false := by
  unfold doV
  split
  · have := (drw_us h).1
    simp; omega
  · rfl
theorem knd_lt (t : Nat) : Ph.knd t < 5 := by
  rw [knd_nx]
  have := nx_lt t
  have h : nx t = 0 ∨ nx t = 1 ∨ nx t = 2 ∨ nx t = 3 ∨ nx t = 4 ∨ nx t = 5 ∨ nx t = 6 ∨ nx t = 7 := by omega
  rcases h with h | h | h | h | h | h | h | h <;> (rw [h]; decide)
/-- What a turn of the first kinds saves. -/
theorem turn_all {n : Nat} {P : Ph.St} {u : Nat} (hu : u < n) : (Ph.knd P.k = 0 → (Ph.turn n P).sv.getD u false = P.st) ∧ (Ph.knd P.k = 1 → (Ph.turn n P).sv.getD u false = !P.st) := by
  constructor
  · intro h
    show (Ph.tsv n (Ph.knd P.k) P).2.getD u false = _
    rw [h]
    show (List.replicate n P.st).getD u false = _
    rw [List.getD_eq_getElem?_getD, List.getElem?_replicate, if_pos hu]; rfl
  · intro h
    show (Ph.tsv n (Ph.knd P.k) P).2.getD u false = _
    rw [h]
    show (List.replicate n (!P.st)).getD u false = _
    rw [List.getD_eq_getElem?_getD, List.getElem?_replicate, if_pos hu]; rfl
theorem decS {n : Nat} {P : Ph.St} (hT : P.T = []) (hl : P.sv.length = n) (l : List Int) {v : Nat} (h1 : 1 ≤ v) (h2 : v ≤ n) :
    Ph.dE n v = 0 ∧ (Ph.may n l = true → Ph.dB n (Ph.sP n P l) v = (Ph.lastV v l).getD (P.sv.getD (v - 1) false)) ∧ (Ph.may n l = false → Ph.dB n (Ph.sP n P l) v = P.sv.getD (v - 1) false) := by
  have e : Ph.inR n v = true := by simp [Ph.inR]; omega
  refine ⟨by simp [Ph.dE, e], fun hm => ?_, fun hm => ?_⟩
  · have := Ph.saves_at hm hl (v - 1) (by omega)
    rw [show ((v - 1 : Nat) : Int) + 1 = (v : Int) by omega] at this
    simp only [Ph.dB, e, Bool.true_and, Int.toNat_natCast, Ph.sP, hm, if_true, Ph.dec, Ph.save, hT]
    exact this
  · simp only [Ph.dB, e, Bool.true_and, Int.toNat_natCast, Ph.sP, hm, Ph.dec, Bool.false_eq_true, if_false, hT]
    rfl
theorem row_shape {W : World} {base e n : Nat} {o : Option Addr} {c : Nat} {xs : List Value} (h : W.ownsRow base e 1 (.slice o n c) n xs) : n = 0 ∨ ∃ g, o = some ⟨g, 0, none⟩ := by
  rcases Nat.eq_zero_or_pos n with h0 | h0
  · exact .inl h0
  · obtain ⟨g, c', cur, e, _⟩ := own_some h h0
    cases e
    exact .inr ⟨g, rfl⟩
set_option maxHeartbeats 8000000 in
theorem law4 (n : Int) (st : Bool) (seed : Int) (hseed : 0 ≤ seed ∧ seed < 18446744073709551616) {a b : Option Addr} {ca cb : Nat} {ss : List Opr} {l : List Int} {W : World} (h1 : Ops W.heap.size W a ss) (h8 : ss.length ≤ 8796093022208)
    (h2 : Lw W b l) (hl : l.length ≤ maxLen) (hb2 : ∀ g off, b = some ⟨g, off, none⟩ → 0 < l.length → g < W.heap.size) :
    Calls Try.prog 4 #[.int .i64 n, .bool st, .int .u64 seed, .slice a ss.length ca, .slice b l.length cb] W fun e w' => e = .returned (.bool true) ∧ Below W.heap.size W w' := by
  have CW := hid (fun (w : World) (hb : Below W.heap.size W w) => show Calls Try.prog 9 #[] w fun e w' => e = .returned (.bool true) ∧ Below W.heap.size W w' from (works9 w).mono (by rintro e w' ⟨rfl, b1⟩; exact ⟨rfl, hb.trans (b1.mono hb.size)⟩))
  have C8 := hid (large8 (c := ca) n h1 h8)
  have HO := hid (fun (w : World) (hb : Below W.heap.size W w) => h1.below hb)
  have HL := hid (fun (w : World) (hb : Below W.heap.size W w) => h2.all hb)
  have HLB := hid hb2
  have HLL := hid hl
  have hsh : Hid (ss.length = 0) ∨ ∃ b' off, a = some ⟨b', off, none⟩ := h1.shape
  have hsl : Hid (l.length = 0) ∨ ∃ b' off, b = some ⟨b', off, none⟩ := h2.shape
  have HF := hid (fun (e : lrg n ss = false) => And.intro (lrg_few e) (fun (k : Nat) (hk : k < ss.length) => show ss[k].l.length ≤ 4000 from by
    have := (lrg_few e).2.2
    have := cnt_mem (List.getElem_mem hk)
    omega))
  have HSD := hid hseed
  generalize hD : lrg n ss = D at *
  obtain ⟨u, hu⟩ : ∃ u, ss.length = u := ⟨_, rfl⟩
  have HU := hid hu
  obtain ⟨t, ht⟩ : ∃ t, l.length = t := ⟨_, rfl⟩
  have HT := hid ht
  rw [hu] at C8 hsh
  rw [ht] at hsl
  rw [hu, ht]
  clear h1 h8 hu hD h2 hl hb2 ht hseed
  go_enter Try.func4, Try.ntmps4
  go_wp2_with (fail)
  go_at_call 8
  refine C8.out.mono ?_
  rintro e w1 ⟨rfl, d1⟩
  have HD1 := hid (show Below W.heap.size W w1 from d1.below)
  clear d1 C8
  cases D
  · by_cases ht1 : (1000 : Int) < t
    · have C9 := hid (CW.out w1 HD1.out)
      go_wp2_with (fail)
      go_at_call 9
      refine C9.out.mono ?_
      rintro e w2 ⟨rfl, b2⟩
      have HB := hid b2
      clear b2 C9
      go_wp2
      go_ret
      exact ⟨rfl, HB.out⟩
    · obtain ⟨⟨hnn, hu1, _⟩, hfl⟩ := HF.out rfl
      have HFL := hid hfl
      have HU1 := hid (show u ≤ 120 by rw [← HU.out]; exact hu1)
      have HT1 := hid (show t ≤ 1000 by omega)
      by_cases hn : n < 0 ∨ 1048576 < n
      · have C10 := hid (new10_no n st seed w1 hn)
        have C9 := hid (CW.out w1 HD1.out)
        clear hn hnn hfl HF hu1
        go_wp2_with (fail)
        go_at_call 10
        refine C10.out.mono ?_
        rintro e w2 ⟨rfl, hw2⟩
        rw [hw2]
        clear hw2
        go_wp2_with (fail)
        go_at_call 9
        refine C9.out.mono ?_
        rintro e w2 ⟨rfl, b2⟩
        have HB := hid b2
        clear b2 C9
        go_wp2
        go_ret
        exact ⟨rfl, HB.out⟩
      · obtain ⟨m, rfl⟩ : ∃ m : Nat, n = m := ⟨n.toNat, by omega⟩
        have hm : m ≤ 100 := by omega
        have HM := hid hm
        have C10 := hid (new10n (n := m) (st := st) (seed := seed) (W := w1) (by omega) HSD.out (N := W.heap.size) HD1.out.size)
        clear hn hnn hfl HF hu1 hm
        go_wp2_with (fail)
        go_at_call 10
        refine C10.out.mono ?_
        rintro e w2 ⟨A, rfl, q2, b2, _⟩
        have H0 := hid (show ∃ P, P.st = st ∧ Pn W.heap.size A m (2 * ((0 : Nat) : Int)) P w2 ∧ Below W.heap.size W w2 from ⟨_, rfl, q2, HD1.out.trans (b2.mono HD1.out.size)⟩)
        clear q2 b2 C10
        go_wp2_with (fail)
        rcases hsh with Z | ⟨b', off, hb'⟩
        case' inr => subst hb'
        all_goals
          go_loopw [13] (fun i wr => ∃ (k : Nat), k ≤ u ∧ i = .int .i64 (k : Nat) ∧ Hid (∃ P, P.st = st ∧ Pn W.heap.size A m (2 * (k : Int)) P wr ∧ Below W.heap.size W wr)) (fun i _ => u - (intOf i).toNat)
          case atStart => exact ⟨0, Nat.zero_le _, rfl, H0⟩
          case round =>
            obtain ⟨k, hk, rfl, HI⟩ := hrel
            by_cases hlt : k < u
            · first
                | (exfalso; have := Z.out; omega)
                | (have hlt' : (k : Int) < u := by omega
                   have hkl : k < ss.length := by rw [HU.out]; exact hlt
                   have hwk : wrap64 ((k : Int) + 1) = (k : Int) + 1 := by have := HU1.out; unfold wrap64; omega
                   obtain ⟨P, hst, q3, b3⟩ := HI.out
                   obtain ⟨a', ca', ok, x0, x1, x2⟩ := (HO.out wr b3).at hkl
                   have h4 := HFL.out k hkl
                   have C16 := hid (does16 q3 b3.size (by have := HU1.out; omega) (s := ss[k]) (ca := ca') ok.kind ok.l (fun b off e hp ho => by have := ok.ap b off e hp; have := q3.new b ho; omega) ok.len)
                   have hne := doV_ne q3.us ss[k]
                   have HN := hid (fun (w : World) (q : Pn W.heap.size A m (2 * (k : Int) + 2) (doP m P ss[k]) w) (b : Below W.heap.size wr w) => show ∃ P, P.st = st ∧ Pn W.heap.size A m (2 * ((k + 1 : Nat) : Int)) P w ∧ Below W.heap.size W w from
                     ⟨_, by rw [doP_st]; exact hst, by rw [show 2 * ((k + 1 : Nat) : Int) = 2 * (k : Int) + 2 by omega]; exact q, b3.trans b⟩)
                   unfold DoesO at C16
                   generalize doV P ss[k] = dv at *
                   generalize doP m P ss[k] = P' at *
                   generalize ss[k].kind = kd at *
                   generalize ss[k].v = vv at *
                   generalize ss[k].l.length = z at *
                   clear q3 b3 ok hkl H0 HI h4 hst
                   go_wp2_with (fail)
                   go_at_call 16
                   refine C16.out.mono ?_
                   rintro e w3 ⟨rfl, q4, b4, _⟩
                   have HN2 := hid (HN.out _ q4 b4)
                   clear q4 b4 HN C16
                   go_wp2_with (fail)
                   first
                     | exact ⟨⟨k + 1, hlt, rfl, HN2⟩, by simp only [intOf]; exact meas hlt⟩
                     | (rw [hwk]; exact ⟨⟨k + 1, hlt, rfl, HN2⟩, by simp only [intOf]; exact meas hlt⟩))
            · have hge : ¬ (k : Int) < u := by omega
              obtain ⟨P, hst, q3, b3⟩ := HI.out
              have HST := hid hst
              have C17 := hid (q3.turn b3.size)
              have HB3 := hid b3
              have HKU := hid (show 2 * (k : Int) ≤ 300 by have := HU1.out; omega)
              clear HI H0 hst q3 b3
              obtain ⟨wo, hwo⟩ : ∃ wo, wo = wr := ⟨wr, rfl⟩
              subst hwo
              go_wp2_with (fail)
              go_at_call 17
              refine C17.out.mono ?_
              rintro e w4 ⟨rfl, q4, b4, _⟩
              have HB4 := hid (HB3.out.trans b4)
              have HQ4 := hid q4
              have C18 := hid q4.saved
              have HTA := hid (fun (i : Nat) (hi : i < m) => turn_all (P := P) hi)
              have HTT := hid (show (Ph.turn m P).T = [] from rfl)
              have HKN := hid (knd_lt P.k)
              rw [HST.out] at HTA
              generalize Ph.turn m P = P2 at *
              generalize Ph.knd P.k = kn at *
              clear q4 b4 C17 HB3 HST
              have HAW := hid (show ∀ (o : Option Addr) (c5 : Nat) (w5 : World), w5.ownsRow w4.heap.size 4 1 (.slice o m c5) m (bls P2.sv) → ∀ g, (Value.slice o m c5).ownBlock = some g → ¬ A.own g from fun o c5 w5 ow g hg ho => by
                have h1 := (own_blk ow hg).1
                have h2 := HQ4.out.lt ho
                omega)
              have HSV := hid HQ4.out.len
              have HDS := hid (fun (v : Nat) (h1 : 1 ≤ v) (h2 : v ≤ m) => decS (n := m) (P := P2) HTT.out HSV.out l h1 h2)
              go_wp2_with (fail)
              go_at_call 18
              refine C18.out.mono ?_
              rintro e w5 ⟨o, c5, rfl, ow5, b5⟩
              have HAW := hid (HAW.out o c5 w5 ow5)
              have HQ5 := hid (HQ4.out.below b5)
              have HB5 := hid (HB4.out.trans (b5.mono HB4.out.size))
              have OW5 := hid ow5
              have hso : Hid (m = 0) ∨ ∃ g, o = some ⟨g, 0, none⟩ := row_shape ow5
              have hmm : ((m : Int) != (m : Int)) = false := by simp
              obtain ⟨kz, hkz⟩ : ∃ kz : Int, (kn : Int) = kz := ⟨_, rfl⟩
              have HKZ := hid hkz
              rw [hkz]
              clear hkz C18 ow5 b5 HQ4 HB4
              go_wp2_with (fail)
              rcases hso with Zs | ⟨g, hog⟩
              case' inr => subst hog
              all_goals
                go_loopw [17] (fun i wr => ∃ j : Nat, j ≤ m ∧ i = .int .i64 (j : Nat) ∧ Hid (Drawn w5 wr)) (fun i _ => m - (intOf i).toNat)
                case atStart => exact ⟨0, Nat.zero_le _, rfl, hid (Drawn.refl _)⟩
                case round =>
                  obtain ⟨j, hj, rfl, HI2⟩ := hrel
                  by_cases hjm : j < m
                  · first
                      | (exfalso; have := Zs.out; omega)
                      | (have hjm' : (j : Int) < m := by omega
                         have hwj : wrap64 ((j : Int) + 1) = (j : Int) + 1 := by have := HM.out; unfold wrap64; omega
                         have x0 : wr.cell? ⟨g, j, none⟩ = some (.bool (P2.sv.getD j false)) := by
                           have := (own_cell (own_below OW5.out HI2.out.below) hjm).1
                           rw [bls_at (by rw [HSV.out]; exact hjm)] at this
                           exact this
                         have hta := HTA.out j hjm
                         generalize P2.sv.getD j false = x at *
                         by_cases k0 : kn = 0
                         · rw [hta.1 k0] at x0
                           have h0 : (kz == 0) = true := by rw [← HKZ.out, k0]; rfl
                           have h1 : (kz == 1) = false := by rw [← HKZ.out, k0]; rfl
                           have hss : (st != st) = false := by simp
                           clear hta k0
                           go_wp2_with (fail)
                           first
                             | exact ⟨⟨j + 1, hjm, rfl, HI2⟩, by simp only [intOf]; exact meas hjm⟩
                             | (rw [hwj]; exact ⟨⟨j + 1, hjm, rfl, HI2⟩, by simp only [intOf]; exact meas hjm⟩)
                         · have h0 : (kz == 0) = false := by rw [← HKZ.out]; simp; omega
                           by_cases k1 : kn = 1
                           · rw [hta.2 k1] at x0
                             have h1 : (kz == 1) = true := by rw [← HKZ.out, k1]; rfl
                             have hss : ((!st) == st) = false := by cases st <;> rfl
                             clear hta k0 k1
                             go_wp2_with (fail)
                             first
                               | exact ⟨⟨j + 1, hjm, rfl, HI2⟩, by simp only [intOf]; exact meas hjm⟩
                               | (rw [hwj]; exact ⟨⟨j + 1, hjm, rfl, HI2⟩, by simp only [intOf]; exact meas hjm⟩)
                           · have h1 : (kz == 1) = false := by rw [← HKZ.out]; simp; omega
                             clear hta k0 k1
                             go_wp2_with (fail)
                             first
                               | exact ⟨⟨j + 1, hjm, rfl, HI2⟩, by simp only [intOf]; exact meas hjm⟩
                               | (rw [hwj]; exact ⟨⟨j + 1, hjm, rfl, HI2⟩, by simp only [intOf]; exact meas hjm⟩))
                  · have hge3 : ¬ (j : Int) < m := by omega
                    have C19 := hid ((HQ5.out.below HI2.out.below).save (by have := HB5.out.size; have := HI2.out.below.size; omega) (c := cb) (HL.out wr (HB5.out.trans (HI2.out.below.mono HB5.out.size))) (fun g off e hp ho => by have := HLB.out g off e hp; have := HQ5.out.new g ho; omega) HLL.out)
                    unfold SaveO at C19
                    rw [HT.out] at C19
                    have OWr := hid (own_below OW5.out HI2.out.below)
                    have HBr := hid (HB5.out.trans (HI2.out.below.mono HB5.out.size))
                    clear HI2
                    obtain ⟨wi2, hwi2⟩ : ∃ wi2, wi2 = wr := ⟨wr, rfl⟩
                    subst hwi2
                    cases hm : Ph.may m l
                    · have hmay := hid hm
                      rw [show Ph.mE m l = 2 from by simp [Ph.mE, hm]] at C19
                      clear hm
                      go_wp2_with (fail)
                      go_at_call 19
                      refine C19.out.mono ?_
                      rintro e w6 ⟨rfl, q6, b6, f6⟩
                      have HQ6 := hid q6
                      have HB6 := hid (HBr.out.trans b6)
                      have OW6 := hid (own_fq OWr.out f6 HAW.out)
                      clear C19 q6 b6 f6 OWr HBr
                      go_wp2_with (fail)
                      go_loopw [19] (fun i wr => ∃ j : Nat, j ≤ m ∧ i = .int .i64 ((j : Int) + 1) ∧ Hid (Drawn w6 wr)) (fun i _ => m + 1 - (intOf i).toNat)
                      case atStart => exact ⟨0, Nat.zero_le _, rfl, hid (Drawn.refl _)⟩
                      case round =>
                        obtain ⟨j, hj, rfl, HJ⟩ := hrel
                        by_cases hjm : j < m
                        · first
                            | (exfalso; have := Zs.out; omega)
                            | (have hj1 : (j : Int) + 1 ≤ m := by omega
                               have hjm' : (j : Int) < m := by omega
                               have hwj : wrap64 ((j : Int) + 1 + 1) = (j : Int) + 1 + 1 := by have := HM.out; unfold wrap64; omega
                               have hv32 : IntKind.i32.wrap ((j : Int) + 1) = (j : Int) + 1 := w32 (by omega) (by have := HM.out; omega)
                               have hv32n : IntKind.i32.wrap (-((j : Int) + 1)) = -((j : Int) + 1) := w32 (by have := HM.out; omega) (by omega)
                               have HDV := hid (show Ph.dB m (Ph.sP m P2 l) ((j : Int) + 1) = P2.sv.getD j false ∧ Ph.dE m ((j : Int) + 1) = 0 from by
                                 have := HDS.out (j + 1) (by omega) hjm
                                 exact ⟨this.2.2 hmay.out, this.1⟩)
                               have x0 : wr.cell? ⟨g, j, none⟩ = some (.bool (P2.sv.getD j false)) := by
                                 have := (own_cell (own_below OW6.out HJ.out.below) hjm).1
                                 rw [bls_at (by rw [HSV.out]; exact hjm)] at this
                                 exact this
                               generalize P2.sv.getD j false = y at *
                               obtain ⟨v, hv⟩ : ∃ v : Int, (j : Int) + 1 = v := ⟨_, rfl⟩
                               have HV := hid hv
                               have hvw : wrap64 (j : Int) = (j : Int) := by have := HM.out; unfold wrap64; omega
                               have hv1 : v - 1 = (j : Int) := by omega
                               rw [hv] at hj1 hwj hv32 hv32n HDV
                               rw [hv]
                               clear hv
                               obtain ⟨wi, hwi⟩ : ∃ wi, wi = wr := ⟨wr, rfl⟩
                               subst hwi
                               go_wp2_with (fail)
                               clear hv1 hvw
                               go_loopw [21, 20] (fun i wv wr => i = .int .i64 0 ∧ wv = .bool y ∧ Hid (Drawn w6 wr)) (fun _ _ _ => 0)
                               case atStart => exact ⟨rfl, rfl, HJ⟩
                               case round =>
                                 obtain ⟨rfl, rfl, HQ⟩ := hrel
                                 by_cases h0t : (0 : Int) < t
                                 all_goals
                                   have C20 := hid ((HQ6.out.below HQ.out.below).decide' v)
                                   rw [HDV.out.1, HDV.out.2] at C20
                                   generalize y = bb at *
                                   have hbb : (bb != bb) = false := by simp
                                   have HV2 := hid (show wrap64 (v + 1) = ((j + 1 : Nat) : Int) + 1 from by rw [hwj, ← HV.out]; rfl)
                                   have HMS := hid (show m + 1 - (wrap64 (v + 1)).toNat < m + 1 - v.toNat from by rw [hwj, ← HV.out]; exact measv hjm)
                                   clear HDV HJ
                                   go_wp2_with (fail)
                                   go_at_call 20
                                   refine C20.out.mono ?_
                                   rintro e w9 ⟨rfl, hw9⟩
                                   rw [hw9]
                                   clear hw9
                                   go_wp2_with (fail)
                                   first
                                     | exact ⟨⟨j + 1, hjm, by rw [HV2.out], HQ⟩, by simp only [intOf]; exact HMS.out⟩
                                     | (rw [hwj]; exact ⟨⟨j + 1, hjm, by rw [← hwj, HV2.out], HQ⟩, by simp only [intOf]; rw [← hwj]; exact HMS.out⟩))
                        · have hj1 : ¬ (j : Int) + 1 ≤ m := by omega
                          have C9 := hid (CW.out wr (HB6.out.trans (HJ.out.below.mono HB6.out.size)))
                          clear HJ HB6
                          go_wp2_with (fail)
                          go_at_call 9
                          refine C9.out.mono ?_
                          rintro e w2 ⟨rfl, b2⟩
                          have HB := hid b2
                          clear b2 C9
                          go_wp2
                          go_ret
                          exact ⟨rfl, HB.out⟩
                    · have hmay := hid hm
                      rw [show Ph.mE m l = 0 from by simp [Ph.mE, hm]] at C19
                      clear hm
                      go_wp2_with (fail)
                      go_at_call 19
                      refine C19.out.mono ?_
                      rintro e w6 ⟨rfl, q6, b6, f6⟩
                      have HQ6 := hid q6
                      have HB6 := hid (HBr.out.trans b6)
                      have OW6 := hid (own_fq OWr.out f6 HAW.out)
                      clear C19 q6 b6 f6 OWr HBr
                      go_wp2_with (fail)
                      rcases hsl with Zl | ⟨b3, off3, hb3⟩
                      case' inr => subst hb3
                      all_goals
                        go_loopw [19] (fun i wr => ∃ j : Nat, j ≤ m ∧ i = .int .i64 ((j : Int) + 1) ∧ Hid (Drawn w6 wr)) (fun i _ => m + 1 - (intOf i).toNat)
                        case atStart => exact ⟨0, Nat.zero_le _, rfl, hid (Drawn.refl _)⟩
                        case round =>
                          obtain ⟨j, hj, rfl, HJ⟩ := hrel
                          by_cases hjm : j < m
                          · first
                              | (exfalso; have := Zs.out; omega)
                              | (have hj1 : (j : Int) + 1 ≤ m := by omega
                                 have hjm' : (j : Int) < m := by omega
                                 have hwj : wrap64 ((j : Int) + 1 + 1) = (j : Int) + 1 + 1 := by have := HM.out; unfold wrap64; omega
                                 have hv32 : IntKind.i32.wrap ((j : Int) + 1) = (j : Int) + 1 := w32 (by omega) (by have := HM.out; omega)
                                 have hv32n : IntKind.i32.wrap (-((j : Int) + 1)) = -((j : Int) + 1) := w32 (by have := HM.out; omega) (by omega)
                                 have HDV := hid (show Ph.dB m (Ph.sP m P2 l) ((j : Int) + 1) = (Ph.lastV ((j : Int) + 1) l).getD (P2.sv.getD j false) ∧ Ph.dE m ((j : Int) + 1) = 0 from by
                                   have := HDS.out (j + 1) (by omega) hjm
                                   exact ⟨this.2.1 hmay.out, this.1⟩)
                                 have x0 : wr.cell? ⟨g, j, none⟩ = some (.bool (P2.sv.getD j false)) := by
                                   have := (own_cell (own_below OW6.out HJ.out.below) hjm).1
                                   rw [bls_at (by rw [HSV.out]; exact hjm)] at this
                                   exact this
                                 generalize P2.sv.getD j false = y at *
                                 obtain ⟨v, hv⟩ : ∃ v : Int, (j : Int) + 1 = v := ⟨_, rfl⟩
                                 have HV := hid hv
                                 have hvw : wrap64 (j : Int) = (j : Int) := by have := HM.out; unfold wrap64; omega
                                 have hv1 : v - 1 = (j : Int) := by omega
                                 rw [hv] at hj1 hwj hv32 hv32n HDV
                                 rw [hv]
                                 clear hv
                                 obtain ⟨wi, hwi⟩ : ∃ wi, wi = wr := ⟨wr, rfl⟩
                                 subst hwi
                                 go_wp2_with (fail)
                                 clear hv1 hvw
                                 go_loopw [21, 20] (fun i wv wr => ∃ q : Nat, q ≤ t ∧ i = .int .i64 (q : Nat) ∧ wv = .bool ((Ph.lastV v (l.take q)).getD y) ∧ Hid (Drawn w6 wr)) (fun i _ _ => t - (intOf i).toNat)
                                 case atStart => exact ⟨0, Nat.zero_le _, rfl, rfl, HJ⟩
                                 case round =>
                                   obtain ⟨q, hq, rfl, rfl, HQ⟩ := hrel
                                   by_cases hqy : q < t
                                   · first
                                       | (exfalso; have := Zl.out; omega)
                                       | (have hqy' : (q : Int) < t := by omega
                                          have hwq : wrap64 ((q : Int) + 1) = (q : Int) + 1 := by have := HT1.out; unfold wrap64; omega
                                          obtain ⟨x0, x1, x2⟩ := (HL.out wr (HB6.out.trans (HQ.out.below.mono HB6.out.size))).at (j := q) (by rw [HT.out]; exact hqy)
                                          have HTK := hid (Ph.lastV_take (l := l) (k := q) v (by rw [HT.out]; exact hqy))
                                          generalize l.getD q 0 = x at *
                                          clear HJ
                                          by_cases e1 : x = v
                                          · have f1 : (x == v) = true := by simp [e1]
                                            have HT2 := hid (show Ph.lastV v (l.take (q + 1)) = some (decide (0 < x)) from by rw [HTK.out, if_pos (.inl e1)])
                                            have HWQ := hid hwq
                                            clear e1 HTK hwj hmm hjm' hj1 hwq
                                            generalize Ph.lastV v (l.take q) = o2 at *
                                            go_wp2_with (fail)
                                            first
                                              | exact ⟨⟨q + 1, hqy, rfl, by rw [HT2.out]; rfl, HQ⟩, by simp only [intOf]; exact meas hqy⟩
                                              | (rw [HWQ.out]; exact ⟨⟨q + 1, hqy, rfl, by rw [HT2.out]; rfl, HQ⟩, by simp only [intOf]; exact meas hqy⟩)
                                          · have f1 : (x == v) = false := by simp [e1]
                                            by_cases e2 : x = -v
                                            · have f2 : (x == -v) = true := by simp [e2]
                                              have HT2 := hid (show Ph.lastV v (l.take (q + 1)) = some (decide (0 < x)) from by rw [HTK.out, if_pos (.inr e2)])
                                              have HWQ := hid hwq
                                              clear e1 e2 HTK hwj hmm hjm' hj1 hwq
                                              generalize Ph.lastV v (l.take q) = o2 at *
                                              go_wp2_with (fail)
                                              first
                                                | exact ⟨⟨q + 1, hqy, rfl, by rw [HT2.out]; rfl, HQ⟩, by simp only [intOf]; exact meas hqy⟩
                                                | (rw [HWQ.out]; exact ⟨⟨q + 1, hqy, rfl, by rw [HT2.out]; rfl, HQ⟩, by simp only [intOf]; exact meas hqy⟩)
                                            · have f2 : (x == -v) = false := by simp [e2]
                                              have HT2 := hid (show Ph.lastV v (l.take (q + 1)) = Ph.lastV v (l.take q) from by rw [HTK.out, if_neg (fun h => by rcases h with h | h; exact e1 h; exact e2 h)])
                                              have HWQ := hid hwq
                                              clear e1 e2 HTK hwj hmm hjm' hj1 hwq
                                              generalize Ph.lastV v (l.take q) = o2 at *
                                              go_wp2_with (fail)
                                              first
                                                | exact ⟨⟨q + 1, hqy, rfl, by rw [HT2.out], HQ⟩, by simp only [intOf]; exact meas hqy⟩
                                                | (rw [HWQ.out]; exact ⟨⟨q + 1, hqy, rfl, by rw [HT2.out], HQ⟩, by simp only [intOf]; exact meas hqy⟩))
                                   · have hge2 : ¬ (q : Int) < t := by omega
                                     have C20 := hid ((HQ6.out.below HQ.out.below).decide' v)
                                     rw [HDV.out.1, HDV.out.2] at C20
                                     have HTK := hid (show l.take q = l from List.take_of_length_le (by rw [HT.out]; omega))
                                     rw [HTK.out]
                                     generalize (Ph.lastV v l).getD y = bb at *
                                     have hbb : (bb != bb) = false := by simp
                                     have HV2 := hid (show wrap64 (v + 1) = ((j + 1 : Nat) : Int) + 1 from by rw [hwj, ← HV.out]; rfl)
                                     have HMS := hid (show m + 1 - (wrap64 (v + 1)).toNat < m + 1 - v.toNat from by rw [hwj, ← HV.out]; exact measv hjm)
                                     clear HDV HJ
                                     go_wp2_with (fail)
                                     go_at_call 20
                                     refine C20.out.mono ?_
                                     rintro e w9 ⟨rfl, hw9⟩
                                     rw [hw9]
                                     clear hw9
                                     go_wp2_with (fail)
                                     first
                                       | exact ⟨⟨j + 1, hjm, by rw [HV2.out], HQ⟩, by simp only [intOf]; exact HMS.out⟩
                                       | (rw [hwj]; exact ⟨⟨j + 1, hjm, by rw [← hwj, HV2.out], HQ⟩, by simp only [intOf]; rw [← hwj]; exact HMS.out⟩))
                          · have hj1 : ¬ (j : Int) + 1 ≤ m := by omega
                            have C9 := hid (CW.out wr (HB6.out.trans (HJ.out.below.mono HB6.out.size)))
                            clear HJ HB6
                            go_wp2_with (fail)
                            go_at_call 9
                            refine C9.out.mono ?_
                            rintro e w2 ⟨rfl, b2⟩
                            have HB := hid b2
                            clear b2 C9
                            go_wp2
                            go_ret
                            exact ⟨rfl, HB.out⟩
  · have C9 := hid (CW.out w1 HD1.out)
    go_wp2_with (fail)
    go_at_call 9
    refine C9.out.mono ?_
    rintro e w2 ⟨rfl, b2⟩
    have HB := hid b2
    clear b2 C9
    go_wp2
    go_ret
    exact ⟨rfl, HB.out⟩
end Go.Proofs.Ytkodfojccodoaaa
