/- The law of stores with one seed. -/
import Derived.Test.YtkodfojccodoaaaDos
import Derived.Test.YtkodfojccodoaaaSav
namespace Go.Proofs.Ytkodfojccodoaaa
open Go.RowKit Go.Maps
set_option linter.unusedVariables false
set_option linter.unusedSimpArgs false
set_option maxRecDepth 100000

theorem Pn.keep {N : Nat} {A B : Adr} {n : Nat} {K : Int} {P : Ph.St} {W W' : World} (H : Pn N A n K P W) (f : Fa B W W') (d : ∀ g, A.own g → ¬ B.own g) : Pn N A n K P W' := ⟨H.px.keep f d, H.new, H.hn⟩
theorem Pn.ltz {N : Nat} {A : Adr} {n : Nat} {K : Int} {P : Ph.St} {W : World} (H : Pn N A n K P W) {g : Nat} (hg : A.own g) : g < W.heap.size := by
  obtain ⟨nt, mt, nb, mb, q, _⟩ := H.px
  exact q.ltsz hg
theorem Pn.lenz {N : Nat} {A : Adr} {n : Nat} {K : Int} {P : Ph.St} {W : World} (H : Pn N A n K P W) : P.sv.length = n := by rw [← H.hn]; exact H.px.len
/-- Two stores told the same, and a third one. -/
structure Thr (N : Nat) (A B C : Adr) (n : Nat) (K : Int) (P R : Ph.St) (W0 W : World) : Prop where
  p : Pn N A n K P W
  q : Pn N B n K P W
  r : Pn N C n K R W
  b : Below N W0 W
  ab : ∀ g, A.own g → ¬ B.own g
  ac : ∀ g, A.own g → ¬ C.own g
  bc : ∀ g, B.own g → ¬ C.own g
theorem Lw.low {W W' : World} {N : Nat} {a : Option Addr} {l : List Int} (h : Lw W a l) (hb : Below N W W') (hn : ∀ b off, a = some ⟨b, off, none⟩ → 0 < l.length → b < N) : Lw W' a l := by
  rcases h with h | ⟨b, off, rfl, h⟩
  · exact .inl h
  · exact .inr ⟨b, off, rfl, fun j hj => ⟨(hb.cell (p := ⟨b, off + j, none⟩) (hn b off rfl (by omega))).trans (h j hj).1, (h j hj).2⟩⟩
theorem opsAt {N : Nat} {W : World} {b off : Nat} {ss : List Opr} (h : Ops N W (some ⟨b, off, none⟩) ss) {j : Nat} (hj : j < ss.length) :
    ∃ a' ca, OpOk W ss[j] a' N ∧ b < W.heap.size ∧ W.cell? ⟨b, off + j * 3, none⟩ = some (.int .u8 ss[j].kind) ∧ W.cell? ⟨b, off + j * 3 + 1, none⟩ = some (.int .i64 ss[j].v) ∧ W.cell? ⟨b, off + j * 3 + 2, none⟩ = some (.slice a' ss[j].l.length ca) := by
  obtain ⟨a', ca, h1, h2, h3, h4⟩ := h.at hj
  exact ⟨a', ca, h1, cell_lt h2, h2, h3, h4⟩
theorem row_shape' {W : World} {base e n : Nat} {o : Option Addr} {c : Nat} {xs : List Value} (h : W.ownsRow base e 1 (.slice o n c) n xs) : n = 0 ∨ ∃ g, o = some ⟨g, 0, none⟩ := by
  rcases Nat.eq_zero_or_pos n with h0 | h0
  · exact .inl h0
  · obtain ⟨g, c', cur, e, _⟩ := own_some h h0
    cases e
    exact .inr ⟨g, rfl⟩
set_option maxHeartbeats 8000000 in
theorem law6 (n : Int) (st : Bool) (seed : Int) (hseed : 0 ≤ seed ∧ seed < 18446744073709551616) {a b : Option Addr} {ca cb : Nat} {ss ts : List Opr} {W : World} (h1 : Ops W.heap.size W a ss) (h8 : ss.length ≤ 8796093022208) (h2 : Ops W.heap.size W b ts) (h9 : ts.length ≤ 8796093022208) :
    Calls Try.prog 6 #[.int .i64 n, .bool st, .int .u64 seed, .slice a ss.length ca, .slice b ts.length cb] W fun e w' => e = .returned (.bool true) ∧ Below W.heap.size W w' := by
  have CW := hid (fun (w : World) (hb : Below W.heap.size W w) => show Calls Try.prog 9 #[] w fun e w' => e = .returned (.bool true) ∧ Below W.heap.size W w' from (works9 w).mono (by rintro e w' ⟨rfl, b1⟩; exact ⟨rfl, hb.trans (b1.mono hb.size)⟩))
  have C8 := hid (large8 (c := ca) n h1 h8)
  have C8b := hid (fun (w : World) (hb : Below W.heap.size W w) => large8 (c := cb) n (h2.below hb) h9)
  have HO := hid (fun (w : World) (hb : Below W.heap.size W w) => h1.below hb)
  have HO2 := hid (fun (w : World) (hb : Below W.heap.size W w) => h2.below hb)
  have hsh : Hid (ss.length = 0) ∨ ∃ b' off, a = some ⟨b', off, none⟩ := h1.shape
  have hsh2 : Hid (ts.length = 0) ∨ ∃ b' off, b = some ⟨b', off, none⟩ := h2.shape
  have HOB := hid (show ∀ b' off, a = some ⟨b', off, none⟩ → (ss = [] ∨ b' < W.heap.size) from fun b' off e => by
    rcases h1 with h | ⟨b5, o5, e5, hl5, _⟩
    · exact .inl h
    · rw [e] at e5; cases e5; exact .inr hl5)
  have HF := hid (fun (e : lrg n ss = false) => lrg_few e)
  have HF2 := hid (fun (e : lrg n ts = false) => lrg_few e)
  have HSD := hid hseed
  generalize hD : lrg n ss = D at *
  generalize hD2 : lrg n ts = D2 at *
  obtain ⟨u, hu⟩ : ∃ u, ss.length = u := ⟨_, rfl⟩
  have HU := hid hu
  obtain ⟨t, ht⟩ : ∃ t, ts.length = t := ⟨_, rfl⟩
  have HT := hid ht
  rw [hu] at C8 hsh
  rw [ht] at C8b hsh2
  rw [hu, ht]
  clear h1 h8 hu hD h2 h9 ht hseed hD2
  go_enter Try.func6, Try.ntmps6
  go_wp2_with (fail)
  go_at_call 8
  refine C8.out.mono ?_
  rintro e w1 ⟨rfl, d1⟩
  have HD1 := hid (show Below W.heap.size W w1 from d1.below)
  have C8c := hid (C8b.out w1 HD1.out)
  clear d1 C8 C8b
  cases D
  · go_wp2_with (fail)
    go_at_call 8
    refine C8c.out.mono ?_
    rintro e w1b ⟨rfl, d1⟩
    have HD2 := hid (show Below W.heap.size W w1b from HD1.out.trans (d1.below.mono HD1.out.size))
    clear d1 C8c HD1
    cases D2
    · obtain ⟨hnn, hu1, _⟩ := HF.out (by first | rfl | trivial)
      obtain ⟨_, ht1, _⟩ := HF2.out (by first | rfl | trivial)
      have HU1 := hid (show u ≤ 120 by rw [← HU.out]; exact hu1)
      have HT1 := hid (show t ≤ 120 by rw [← HT.out]; exact ht1)
      by_cases hn : n < 0 ∨ 1048576 < n
      · have C10 := hid (fun (w : World) => new10_no n st seed w hn)
        have C9 := hid (CW.out w1b HD2.out)
        clear hn hnn HF HF2 hu1 ht1
        go_wp2_with (fail)
        go_at_call 10
        refine (C10.out _).mono ?_
        rintro e w2 ⟨rfl, hw2⟩
        rw [hw2]
        clear hw2
        go_wp2_with (fail)
        go_at_call 10
        refine (C10.out _).mono ?_
        rintro e w2 ⟨rfl, hw2⟩
        rw [hw2]
        clear hw2
        go_wp2_with (fail)
        go_at_call 10
        refine (C10.out _).mono ?_
        rintro e w2 ⟨rfl, hw2⟩
        rw [hw2]
        clear hw2
        go_wp2_with (fail)
        go_at_call 9
        refine C9.out.mono ?_
        rintro e w2 ⟨rfl, b2⟩
        have HB := hid b2
        clear b2 C9
        go_wp2
        go_ret
        exact ⟨rfl, HB.out⟩
      · obtain ⟨m, rfl⟩ : ∃ m : Nat, n = m := ⟨n.toNat, by omega⟩
        have hm : m ≤ 100 := by omega
        have HM := hid hm
        have C10 := hid (fun (w : World) (hw : W.heap.size ≤ w.heap.size) => new10n (n := m) (st := st) (seed := seed) (W := w) (by omega) HSD.out (N := W.heap.size) hw)
        have CA := hid (C10.out w1b HD2.out.size)
        clear hn hnn HF HF2 hu1 ht1 hm
        go_wp2_with (fail)
        go_at_call 10
        refine CA.out.mono ?_
        rintro e w2 ⟨A, rfl, q2, b2, _⟩
        have HB2 := hid (HD2.out.trans (b2.mono HD2.out.size))
        have HA := hid q2
        have CB := hid (C10.out w2 HB2.out.size)
        clear q2 b2 CA HD2
        go_wp2_with (fail)
        go_at_call 10
        refine CB.out.mono ?_
        rintro e w3 ⟨B, rfl, q3, b3, o3⟩
        have HB3 := hid (HB2.out.trans (b3.mono HB2.out.size))
        have HAB := hid (show ∀ g, A.own g → ¬ B.own g from fun g ha hb => by have := HA.out.ltz ha; have := o3 g hb; omega)
        have HA3 := hid (HA.out.below b3)
        have HB := hid q3
        have CC := hid (C10.out w3 HB3.out.size)
        clear q3 b3 CB HB2 HA o3
        go_wp2_with (fail)
        go_at_call 10
        refine CC.out.mono ?_
        rintro e w4 ⟨C, rfl, q4, b4, o4⟩
        have H0 := hid (show ∃ P R, Thr W.heap.size A B C m (2 * ((0 : Nat) : Int)) P R W w4 from
          ⟨_, _, HA3.out.below b4, HB.out.below b4, q4, HB3.out.trans (b4.mono HB3.out.size), HAB.out, fun g ha hc => by have := HA3.out.ltz ha; have := o4 g hc; omega, fun g ha hc => by have := HB.out.ltz ha; have := o4 g hc; omega⟩)
        clear q4 b4 CC HB3 HA3 HB HAB o4 C10
        go_wp2_with (fail)
        rcases hsh with Z | ⟨b', off, hb'⟩
        case' inr => subst hb'
        all_goals
          rcases hsh2 with Z2 | ⟨b2, off2, hb2⟩
          case' inr => subst hb2
          all_goals
            go_loopw [17] (fun i wr => ∃ (k : Nat), k ≤ u ∧ i = .int .i64 (k : Nat) ∧ Hid (∃ P R, Thr W.heap.size A B C m (2 * (k : Int)) P R W wr)) (fun i _ => u - (intOf i).toNat)
            case atStart => exact ⟨0, Nat.zero_le _, rfl, H0⟩
            case round =>
              obtain ⟨k, hk, rfl, HI⟩ := hrel
              by_cases hlt : k < u
              · first
                  | (exfalso; have := Z.out; omega)
                  | (have hlt' : (k : Int) < u := by omega
                     have hkl : k < ss.length := by rw [HU.out]; exact hlt
                     have hwk : wrap64 ((k : Int) + 1) = (k : Int) + 1 := by have := HU1.out; unfold wrap64; omega
                     have HKB := hid (show 2 * (k : Int) + 3 ≤ 4611686018427387904 by have := HU1.out; omega)
                     obtain ⟨P, R, TH⟩ := HI.out
                     have HTH := hid TH
                     have HBL := hid (show b' < W.heap.size from by rcases HOB.out b' off rfl with h | h; (exfalso; rw [h] at hkl; simp at hkl); exact h)
                     have HTD := hid (And.intro TH.ab (And.intro TH.ac TH.bc))
                     by_cases hkt : k < t
                     · first
                         | (exfalso; have := Z2.out; omega)
                         | (have hkt' : (k : Int) < t := by omega
                            have hktl : k < ts.length := by rw [HT.out]; exact hkt
                            obtain ⟨ar, car, okr, hlr, y0, y1, y2⟩ := opsAt (HO2.out wr TH.b) hktl
                            have C16 := hid (does16 TH.r TH.b.size (by have := HKB.out; omega) (s := ts[k]) (ca := car) okr.kind okr.l (fun b off e hp ho => by have := okr.ap b off e hp; have := TH.r.new b ho; omega) okr.len)
                            unfold DoesO at C16
                            generalize doV R ts[k] = dr at *
                            obtain ⟨R5, hR5⟩ : ∃ R5, doP m R ts[k] = R5 := ⟨_, rfl⟩
                            rw [hR5] at C16
                            generalize ts[k].kind = kr at *
                            generalize ts[k].v = vr at *
                            generalize ts[k].l.length = zr at *
                            clear okr hktl hR5 HI TH
                            go_wp2_with (fail)
                            go_at_call 16
                            refine C16.out.mono ?_
                            rintro e W5 ⟨rfl, r5, b5, f5⟩
                            have b5w := HTH.out.b.trans b5
                            have p5 := HTH.out.p.keep f5 HTH.out.ac
                            have q5 := HTH.out.q.keep f5 HTH.out.bc
                            clear C16 b5 f5 y0 y1 y2
                            have hbd : Below W5.heap.size W5 W5.drew := (Below.refl _ _).drew
                            have HB5 := hid b5w
                            obtain ⟨a', ca', ok, hlb, x0, x1, x2⟩ := opsAt (HO.out W5 b5w) hkl
                            have okd := ok.below hbd
                            have hNd : W.heap.size ≤ W5.drew.heap.size := b5w.size
                            have CD1 := hid (does16 (p5.below hbd) hNd (by have := HKB.out; omega) (s := ss[k]) (ca := ca') okd.kind okd.l (fun b off e hp ho => by have := okd.ap b off e hp; have := p5.new b ho; omega) okd.len)
                            have CD2 := hid (fun (X : World) (q : Pn W.heap.size B m (2 * (k : Int)) P X) (hb : Below W.heap.size W5.drew X) => does16 q (by have := hb.size; omega) (by have := HKB.out; omega) (s := ss[k]) (ca := ca') okd.kind (okd.l.low hb okd.ap) (fun b off e hp ho => by have := okd.ap b off e hp; have := q.new b ho; omega) okd.len)
                            have HS := hid (fun (X : World) (hb : Below W.heap.size W5.drew X) => show X.cell? ⟨b', off + k * 3, none⟩ = some (.int .u8 ss[k].kind) ∧ X.cell? ⟨b', off + k * 3 + 1, none⟩ = some (.int .i64 ss[k].v) ∧ X.cell? ⟨b', off + k * 3 + 2, none⟩ = some (.slice a' ss[k].l.length ca') from
                              ⟨(hb.cell (p := ⟨b', off + k * 3, none⟩) (HBL.out)).trans x0, (hb.cell (p := ⟨b', off + k * 3 + 1, none⟩) (HBL.out)).trans x1, (hb.cell (p := ⟨b', off + k * 3 + 2, none⟩) (HBL.out)).trans x2⟩)
                            have HP5 := hid p5
                            have HQ5 := hid (q5.below hbd)
                            have HR5 := hid (r5.below hbd)
                            have HBD := hid (show Below W.heap.size W W5.drew from b5w.trans (hbd.mono b5w.size))
                            unfold DoesO at CD1 CD2
                            generalize doV P ss[k] = dv at *
                            generalize doP m P ss[k] = P' at *
                            generalize ss[k].kind = kd at *
                            generalize ss[k].v = vv at *
                            generalize ss[k].l.length = z at *
                            have hdv : (dv != dv) = false := by simp
                            clear p5 q5 r5 ok okd hkl b5w hbd hNd HTH
                            go_wp2_with (fail)
                            go_region_held3 (fun X => X.cell? ⟨b', off + k * 3, none⟩ = some (.int .u8 kd) ∧ X.cell? ⟨b', off + k * 3 + 1, none⟩ = some (.int .i64 vv) ∧ X.cell? ⟨b', off + k * 3 + 2, none⟩ = some (.slice a' z ca'))
                              (first | exact HS.out _ (Below.refl _ _) | exact HS.out _ B6 | exact HS.out _ B7)
                              (first
                                | (go_at_call 16; refine CD1.out.mono ?_; rintro e w6 ⟨rfl, p6, B6, f6⟩; have q6 := HQ5.out.keep f6 (fun g hb ha => HTD.out.1 g ha hb); have r6 := HR5.out.keep f6 (fun g hb ha => HTD.out.2.1 g ha hb); obtain ⟨x0, x1, x2⟩ := HS.out _ B6; clear CD1)
                                | (go_at_call 16; refine (CD2.out _ q6 B6).mono ?_; rintro e w7 ⟨rfl, q7, b7, f7⟩; have p7 := p6.keep f7 HTD.out.1; have r7 := r6.keep f7 (fun g hc hb => HTD.out.2.2 g hb hc); have B7 := B6.trans b7))
                            all_goals
                              have HN := hid (show ∃ P R, Thr W.heap.size A B C m (2 * ((k + 1 : Nat) : Int)) P R W w7 from
                                ⟨P', R5, by
                                  rw [show 2 * ((k + 1 : Nat) : Int) = 2 * (k : Int) + 2 by omega]
                                  exact ⟨p7, q7, r7, HBD.out.trans B7, HTD.out.1, HTD.out.2.1, HTD.out.2.2⟩⟩)
                              clear p6 q6 r6 p7 q7 r7 B6 B7 b7 f6 f7
                              go_wp2_with (fail)
                              first
                                | exact ⟨⟨k + 1, hlt, rfl, HN⟩, by simp only [intOf]; exact meas hlt⟩
                                | (rw [hwk]; exact ⟨⟨k + 1, hlt, rfl, HN⟩, by simp only [intOf]; exact meas hlt⟩))
                     · have hkt' : ¬ (k : Int) < t := by omega
                       obtain ⟨W5, hW5⟩ : ∃ W5, W5 = wr := ⟨wr, rfl⟩
                       subst hW5
                       have b5w := TH.b
                       have p5 := TH.p
                       have q5 := TH.q
                       obtain ⟨R5, hR5⟩ : ∃ R5, R = R5 := ⟨R, rfl⟩
                       have r5 := TH.r.mono (show 2 * (k : Int) ≤ 2 * (k : Int) + 2 by omega) (by have := HKB.out; omega)
                       rw [hR5] at r5
                       have hbd : Below W5.heap.size W5 W5.drew := (Below.refl _ _).drew
                       have HB5 := hid b5w
                       obtain ⟨a', ca', ok, hlb, x0, x1, x2⟩ := opsAt (HO.out W5 b5w) hkl
                       have okd := ok.below hbd
                       have hNd : W.heap.size ≤ W5.drew.heap.size := b5w.size
                       have CD1 := hid (does16 (p5.below hbd) hNd (by have := HKB.out; omega) (s := ss[k]) (ca := ca') okd.kind okd.l (fun b off e hp ho => by have := okd.ap b off e hp; have := p5.new b ho; omega) okd.len)
                       have CD2 := hid (fun (X : World) (q : Pn W.heap.size B m (2 * (k : Int)) P X) (hb : Below W.heap.size W5.drew X) => does16 q (by have := hb.size; omega) (by have := HKB.out; omega) (s := ss[k]) (ca := ca') okd.kind (okd.l.low hb okd.ap) (fun b off e hp ho => by have := okd.ap b off e hp; have := q.new b ho; omega) okd.len)
                       have HS := hid (fun (X : World) (hb : Below W.heap.size W5.drew X) => show X.cell? ⟨b', off + k * 3, none⟩ = some (.int .u8 ss[k].kind) ∧ X.cell? ⟨b', off + k * 3 + 1, none⟩ = some (.int .i64 ss[k].v) ∧ X.cell? ⟨b', off + k * 3 + 2, none⟩ = some (.slice a' ss[k].l.length ca') from
                         ⟨(hb.cell (p := ⟨b', off + k * 3, none⟩) (HBL.out)).trans x0, (hb.cell (p := ⟨b', off + k * 3 + 1, none⟩) (HBL.out)).trans x1, (hb.cell (p := ⟨b', off + k * 3 + 2, none⟩) (HBL.out)).trans x2⟩)
                       have HP5 := hid p5
                       have HQ5 := hid (q5.below hbd)
                       have HR5 := hid (r5.below hbd)
                       have HBD := hid (show Below W.heap.size W W5.drew from b5w.trans (hbd.mono b5w.size))
                       unfold DoesO at CD1 CD2
                       generalize doV P ss[k] = dv at *
                       generalize doP m P ss[k] = P' at *
                       generalize ss[k].kind = kd at *
                       generalize ss[k].v = vv at *
                       generalize ss[k].l.length = z at *
                       have hdv : (dv != dv) = false := by simp
                       clear p5 q5 r5 ok okd hkl b5w hbd hNd HI HTH TH hR5
                       go_wp2_with (fail)
                       go_region_held3 (fun X => X.cell? ⟨b', off + k * 3, none⟩ = some (.int .u8 kd) ∧ X.cell? ⟨b', off + k * 3 + 1, none⟩ = some (.int .i64 vv) ∧ X.cell? ⟨b', off + k * 3 + 2, none⟩ = some (.slice a' z ca'))
                         (first | exact HS.out _ (Below.refl _ _) | exact HS.out _ B6 | exact HS.out _ B7)
                         (first
                           | (go_at_call 16; refine CD1.out.mono ?_; rintro e w6 ⟨rfl, p6, B6, f6⟩; have q6 := HQ5.out.keep f6 (fun g hb ha => HTD.out.1 g ha hb); have r6 := HR5.out.keep f6 (fun g hb ha => HTD.out.2.1 g ha hb); obtain ⟨x0, x1, x2⟩ := HS.out _ B6; clear CD1)
                           | (go_at_call 16; refine (CD2.out _ q6 B6).mono ?_; rintro e w7 ⟨rfl, q7, b7, f7⟩; have p7 := p6.keep f7 HTD.out.1; have r7 := r6.keep f7 (fun g hc hb => HTD.out.2.2 g hb hc); have B7 := B6.trans b7))
                       all_goals
                         have HN := hid (show ∃ P R, Thr W.heap.size A B C m (2 * ((k + 1 : Nat) : Int)) P R W w7 from
                           ⟨P', R5, by
                             rw [show 2 * ((k + 1 : Nat) : Int) = 2 * (k : Int) + 2 by omega]
                             exact ⟨p7, q7, r7, HBD.out.trans B7, HTD.out.1, HTD.out.2.1, HTD.out.2.2⟩⟩)
                         clear p6 q6 r6 p7 q7 r7 B6 B7 b7 f6 f7
                         go_wp2_with (fail)
                         first
                           | exact ⟨⟨k + 1, hlt, rfl, HN⟩, by simp only [intOf]; exact meas hlt⟩
                           | (rw [hwk]; exact ⟨⟨k + 1, hlt, rfl, HN⟩, by simp only [intOf]; exact meas hlt⟩))
              · have hge : ¬ (k : Int) < u := by omega
                obtain ⟨P, R, TH⟩ := HI.out
                have HKB := hid (show 2 * (k : Int) + 3 ≤ 4611686018427387904 by have := HU1.out; omega)
                have C18 := hid TH.p.saved
                have HTH := hid TH
                clear HI TH H0
                obtain ⟨wo, hwo⟩ : ∃ wo, wo = wr := ⟨wr, rfl⟩
                subst hwo
                go_wp2_with (fail)
                go_at_call 18
                refine C18.out.mono ?_
                rintro e w5 ⟨oa, c5, rfl, ow5, b5⟩
                have HP5 := hid (HTH.out.p.below b5)
                have HQ5 := hid (HTH.out.q.below b5)
                have HB5 := hid (HTH.out.b.trans (b5.mono HTH.out.b.size))
                have HWA := hid (show ∀ g, (Value.slice oa m c5).ownBlock = some g → ¬ A.own g ∧ ¬ B.own g from fun g hg => by
                  have h1 := (own_blk ow5 hg).1
                  exact ⟨fun ho => by have := HTH.out.p.ltz ho; omega, fun ho => by have := HTH.out.q.ltz ho; omega⟩)
                have OA5 := hid ow5
                have C18b := hid HQ5.out.saved
                have HDS := hid HTH.out.ab
                have HLN := hid HTH.out.p.lenz
                clear ow5 b5 C18 HTH
                go_wp2_with (fail)
                go_at_call 18
                refine C18b.out.mono ?_
                rintro e w6 ⟨ob, c6, rfl, ow6, b6⟩
                have HP6 := hid (HP5.out.below b6)
                have HQ6 := hid (HQ5.out.below b6)
                have HB6 := hid (HB5.out.trans (b6.mono HB5.out.size))
                have HWB := hid (show ∀ g, (Value.slice ob m c6).ownBlock = some g → ¬ A.own g ∧ ¬ B.own g from fun g hg => by
                  have h1 := (own_blk ow6 hg).1
                  exact ⟨fun ho => by have := HP5.out.ltz ho; omega, fun ho => by have := HQ5.out.ltz ho; omega⟩)
                have OA6 := hid (own_below OA5.out b6)
                have OB6 := hid ow6
                have CD := hid (HP6.out.draw HB6.out.size)
                have hmm : ((m : Int) != (m : Int)) = false := by simp
                clear ow6 b6 C18b HP5 HQ5 HB5 OA5
                go_wp2_with (fail)
                go_at_call 22
                refine CD.out.mono ?_
                rintro e w7 ⟨rfl, p7, b7, f7⟩
                have HQ7 := hid (HQ6.out.keep f7 (fun g hb ha => HDS.out g ha hb))
                have HP7 := hid p7
                have HB7 := hid (HB6.out.trans b7)
                have OA7 := hid (own_fq OA6.out f7 (fun g hg => (HWA.out g hg).1))
                have OB7 := hid (own_fq OB6.out f7 (fun g hg => (HWB.out g hg).1))
                have CE := hid (HQ7.out.draw HB7.out.size)
                have hdd : (drw P.s != drw P.s) = false := by simp
                clear p7 b7 f7 CD HP6 HQ6 HB6 OA6 OB6
                go_wp2_with (fail)
                go_at_call 22
                refine CE.out.mono ?_
                rintro e w8 ⟨rfl, q8, b8, f8⟩
                have HP8 := hid (HP7.out.keep f8 HDS.out)
                have HQ8 := hid q8
                have HB8 := hid (HB7.out.trans b8)
                have OA8 := hid (own_fq OA7.out f8 (fun g hg => (HWA.out g hg).2))
                have OB8 := hid (own_fq OB7.out f8 (fun g hg => (HWB.out g hg).2))
                generalize drw P.s = dd at *
                have hsa : Hid (m = 0) ∨ ∃ g, oa = some ⟨g, 0, none⟩ := row_shape' OA8.out
                have hsb : Hid (m = 0) ∨ ∃ g, ob = some ⟨g, 0, none⟩ := row_shape' OB8.out
                clear q8 b8 f8 CE HP7 HQ7 HB7 OA7 OB7 HWA HWB
                go_wp2_with (fail)
                rcases hsa with Za | ⟨ga, hga⟩
                case' inr => subst hga
                all_goals
                  rcases hsb with Zb | ⟨gb, hgb⟩
                  case' inr => subst hgb
                  all_goals
                    go_loopw [20] (fun i wr => ∃ j : Nat, j ≤ m ∧ i = .int .i64 (j : Nat) ∧ Hid (Drawn w8 wr)) (fun i _ => m - (intOf i).toNat)
                    case atStart => exact ⟨0, Nat.zero_le _, rfl, hid (Drawn.refl _)⟩
                    case round =>
                      obtain ⟨j, hj, rfl, HJ⟩ := hrel
                      by_cases hjm : j < m
                      · first
                          | (exfalso; have := Za.out; omega)
                          | (exfalso; have := Zb.out; omega)
                          | (have hjm' : (j : Int) < m := by omega
                             have hwj : wrap64 ((j : Int) + 1) = (j : Int) + 1 := by have := HM.out; unfold wrap64; omega
                             have x0 : wr.cell? ⟨ga, j, none⟩ = some (.bool (P.sv.getD j false)) := by
                               have := (own_cell (own_below OA8.out HJ.out.below) hjm).1
                               rw [bls_at (by rw [HLN.out]; exact hjm)] at this
                               exact this
                             have y0 : wr.cell? ⟨gb, j, none⟩ = some (.bool (P.sv.getD j false)) := by
                               have := (own_cell (own_below OB8.out HJ.out.below) hjm).1
                               rw [bls_at (by rw [HLN.out]; exact hjm)] at this
                               exact this
                             have CP := hid ((HP8.out.below HJ.out.below).decide' ((j : Int) + 1))
                             have CQ := hid ((HQ8.out.below HJ.out.below).decide' ((j : Int) + 1))
                             generalize Ph.dB m (draw P) ((j : Int) + 1) = bx at *
                             generalize Ph.dE m ((j : Int) + 1) = ee at *
                             generalize P.sv.getD j false = y at *
                             have hyy : (y != y) = false := by simp
                             have hxx : (bx != bx) = false := by simp
                             go_wp2_with (fail)
                             go_at_call 20
                             refine CP.out.mono ?_
                             rintro e w9 ⟨rfl, hw9⟩
                             rw [hw9]
                             clear hw9 CP
                             go_wp2_with (fail)
                             go_at_call 20
                             refine CQ.out.mono ?_
                             rintro e w9 ⟨rfl, hw9⟩
                             rw [hw9]
                             clear hw9 CQ
                             go_wp2_with (fail)
                             go_quiet (fail)
                             have HJ2 := hid (HJ.out.drewN nq)
                             clear HJ
                             go_wp2_with (fail)
                             first
                               | exact ⟨⟨j + 1, hjm, rfl, HJ2⟩, by simp only [intOf]; exact meas hjm⟩
                               | (rw [hwj]; exact ⟨⟨j + 1, hjm, rfl, HJ2⟩, by simp only [intOf]; exact meas hjm⟩))
                      · have hge2 : ¬ (j : Int) < m := by omega
                        have C9 := hid (CW.out wr (HB8.out.trans (HJ.out.below.mono HB8.out.size)))
                        clear HJ HP8 HQ8 OA8 OB8
                        go_wp2_with (fail)
                        go_at_call 9
                        refine C9.out.mono ?_
                        rintro e w2 ⟨rfl, b2⟩
                        have HB := hid b2
                        clear b2 C9
                        go_wp2
                        go_ret
                        exact ⟨rfl, HB.out⟩
    · have C9 := hid (CW.out w1b HD2.out)
      go_wp2_with (fail)
      go_at_call 9
      refine C9.out.mono ?_
      rintro e w2 ⟨rfl, b2⟩
      have HB := hid b2
      clear b2 C9
      go_wp2
      go_ret
      exact ⟨rfl, HB.out⟩
  · have C9 := hid (CW.out w1 HD1.out)
    go_wp2_with (fail)
    go_at_call 9
    refine C9.out.mono ?_
    rintro e w2 ⟨rfl, b2⟩
    have HB := hid b2
    clear b2 C9
    go_wp2
    go_ret
    exact ⟨rfl, HB.out⟩
end Go.Proofs.Ytkodfojccodoaaa
