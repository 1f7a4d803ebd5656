/- ReduceKeeps. -/
import Derived.Test.YtekkbpaelojmeaaRnm
import Derived.Test.YtekkbpaelojmeaaWrk
namespace Go.Proofs.Ytekkbpaelojmeaa
open Go.RowKit Go.Maps
set_option linter.unusedVariables false
set_option linter.unusedSimpArgs false
set_option maxRecDepth 100000

/-- What goes, of records whose ids were made unlike. -/
theorem renum_at {rs : List Rc} {g p : Int} {i : Nat} (hi : i < (chosen (renum rs) g p).length) :
    ∃ j : Nat, ∃ hj : j < (renum rs).length, (chosen (renum rs) g p).getD i 0 = (j : Int) + 1 ∧ (renum rs)[j].lk = false ∧ tier (renum rs)[j].k.lb g ≠ 1 ∧ (renum rs)[j].k.us < 2 := by
  have hm : (chosen (renum rs) g p).getD i 0 ∈ chosen (renum rs) g p := by
    rw [List.getD_eq_getElem?_getD, List.getElem?_eq_getElem hi]
    exact List.getElem_mem hi
  obtain ⟨r, hr, hp, hid⟩ := chosen_mem hm
  obtain ⟨j, hj, rfl⟩ := List.mem_iff_getElem.1 hr
  obtain ⟨a, b, c⟩ := mayP_true hp
  exact ⟨j, hj, by rw [← hid, renum_id], a, b, c⟩
theorem renum_ne {rs : List Rc} {g p : Int} {i k : Nat} (hi : i < (chosen (renum rs) g p).length) (hk : k < i) : (chosen (renum rs) g p).getD k 0 ≠ (chosen (renum rs) g p).getD i 0 := by
  have h := chosen_nodup g p (renum_nodup rs)
  unfold List.Nodup at h
  rw [List.pairwise_iff_getElem] at h
  have := h k i (by omega) hi hk
  rw [List.getD_eq_getElem?_getD, List.getElem?_eq_getElem (by omega), List.getD_eq_getElem?_getD, List.getElem?_eq_getElem hi]
  exact this
theorem chosen_same {rs : List Rc} {g p q : Int} (h : p ≤ q) {i : Nat} (hi : i < (chosen rs g p).length) : (chosen rs g q).getD i 0 = (chosen rs g p).getD i 0 := by
  rw [chosen_pre rs g h, List.getD_eq_getElem?_getD, List.getD_eq_getElem?_getD, List.getElem?_take_of_lt hi]
theorem renum_ok {rs : List Rc} (h : ∀ r ∈ rs, r.Ok) (hl : rs.length ≤ 1000) : ∀ r ∈ renum rs, r.Ok := by
  intro r hr
  obtain ⟨j, hj, rfl⟩ := List.mem_iff_getElem.1 hr
  have hj2 : j < rs.length := by rw [renum_len] at hj; exact hj
  have := h rs[j] (List.getElem_mem hj2)
  simp only [renum, List.getElem_mapIdx]
  exact ⟨by unfold I64; dsimp only; omega, this.lb, this.sz, this.us⟩
/-- Behind the two calls: the records, and what went at either. -/
structure Kpt (W : World) (base : Nat) (rs : List Rc) (g p q : Int) (o x y : Option Addr) (w : World) : Prop where
  bel : Below base W w
  rows : Rcs w o (renum rs)
  fst : Ids w x (chosen (renum rs) g p)
  snd : Ids w y (chosen (renum rs) g q)
theorem Kpt.below {W : World} {base : Nat} {rs : List Rc} {g p q : Int} {o x y : Option Addr} {w w' : World} (h : Kpt W base rs g p q o x y w) (hb : Below w.heap.size w w') (hs : base ≤ w.heap.size) : Kpt W base rs g p q o x y w' :=
  ⟨h.bel.trans (hb.mono hs), h.rows.below hb, h.fst.below hb, h.snd.below hb⟩
/-- The renumbering under way, the row nil or not. -/
structure RenX (W : World) (base : Nat) (o : Option Addr) (n c : Nat) (rs : List Rc) (k : Nat) (w : World) : Prop where
  bel : Below base W w
  row : (n = 0 ∧ w.ownsRow base 29 5 (.slice o n c) n (flat (renum rs))) ∨ ∃ g, o = some ⟨g, 0, none⟩ ∧ base ≤ g ∧ n ≤ c ∧ c ≤ maxLen ∧ Ren W base g n c rs k w
theorem RenX.start {W w : World} {base n c : Nat} {o : Option Addr} {rs : List Rc} (hb : Below base W w) (h : w.ownsRow base 29 5 (.slice o n c) n (flat rs)) (hn : rs.length = n) : RenX W base o n c rs 0 w := by
  refine ⟨hb, ?_⟩
  rcases h.2 with ⟨e1, h0⟩ | ⟨g, c', cur, e1, h1, h2, h3, h4, h5, h6⟩
  · left
    subst h0
    have : rs = [] := List.eq_nil_of_length_eq_zero hn
    subst this
    exact ⟨rfl, h⟩
  · right
    cases e1
    exact ⟨g, rfl, h1, h3, h4, Ren.start hb h hn⟩
theorem RenX.done {W w : World} {base n c : Nat} {o : Option Addr} {rs : List Rc} (h : RenX W base o n c rs n w) (hn : rs.length = n) : w.ownsRow base 29 5 (.slice o n c) n (flat (renum rs)) := by
  rcases h.row with ⟨_, h⟩ | ⟨g, rfl, h1, h2, h3, h4⟩
  · exact h
  · exact h4.done hn h1 h2 h3
theorem RenX.ren {W w : World} {base n c k g : Nat} {rs : List Rc} (h : RenX W base (some ⟨g, 0, none⟩) n c rs k w) (hn : 0 < n) : (base ≤ g ∧ n ≤ c ∧ c ≤ maxLen) ∧ Ren W base g n c rs k w := by
  rcases h.row with ⟨h0, _⟩ | ⟨g', e, h1, h2, h3, h4⟩
  · omega
  · cases e; exact ⟨⟨h1, h2, h3⟩, h4⟩
set_option maxHeartbeats 8000000 in
theorem law4 {W : World} {a : Option Addr} {n c : Nat} {rs : List Rc} (g pa mo : Int) (hx : Rcs W a rs) (hn : rs.length = n) (hN : n ≤ 8796093022208) (hpa : I64 pa) (hmo : I64 mo) :
    Calls Try.prog 4 #[.slice a n c, .int .i64 g, .int .i64 pa, .int .i64 mo] W fun e w' => e = .returned (.bool true) ∧ Below W.heap.size W w' := by
  by_cases h100 : n ≤ 100
  · have C7 := hid (both7 (c := c) hx hn (by omega))
    have hok := hx.ok
    have HRE := hid (fun j (hj : j < rs.length) => show (rec5 rs[j]) = [.int .i64 rs[j].k.id, .int .i64 rs[j].k.lb, .int .i64 rs[j].k.sz, .int .i64 rs[j].k.us, .bool rs[j].lk] from rfl)
    have HN := hid hn
    have h100' : ¬ (100 : Int) < n := by omega
    clear hx
    go_enter Try.func4, Try.ntmps4
    go_wp2_with (go_at_call 7; refine C7.out.mono ?_; rintro e w1 ⟨⟨o1, c1, o2, c2, rfl, ho, _⟩, hb⟩; have HO := hid ho; have HB := hid hb; clear ho hb)
    obtain ⟨oo, hoo⟩ : ∃ oo, o1 = oo := ⟨_, rfl⟩
    have HRX := hid (show RenX W W.heap.size oo n c1 rs 0 w1 by rw [← hoo]; exact RenX.start HB.out HO.out HN.out)
    have sh : Hid (n = 0) ∨ ∃ g1, o1 = some ⟨g1, 0, none⟩ := by
      rw [hoo]
      rcases HRX.out.row with ⟨h0, _⟩ | ⟨g1, e, _⟩
      · exact .inl (hid h0)
      · exact .inr ⟨g1, e⟩
    clear HO HB
    have HOO := hid hoo
    clear hoo
    rcases sh with Z | ⟨g1, rfl⟩
    all_goals
      go_loopw [11] (fun iv wr => ∃ k : Nat, k ≤ n ∧ iv = .int .i64 k ∧ Hid (RenX W W.heap.size oo n c1 rs k wr)) (fun iv _ => n - (intOf iv).toNat)
      case atStart => exact ⟨0, Nat.zero_le _, rfl, HRX⟩
      case round =>
        obtain ⟨k, hk, rfl, HR⟩ := hrel
        by_cases hlt : k < n
        · first
          | (exfalso; have := Z.out; omega)
          | (have hlt' : (k : Int) < n := by omega
             have hkx : k < rs.length := by rw [HN.out]; exact hlt
             obtain ⟨⟨r1, r2, r3⟩, hr⟩ := (HOO.out ▸ HR.out : RenX W W.heap.size (some ⟨g1, 0, none⟩) n c1 rs k wr).ren (by omega)
             obtain ⟨x0, x1, x2, x3, x4⟩ := hr.at hkx
             obtain ⟨WB, hWB⟩ : ∃ WB, wr.alloc (.cells #[.int .i64 ((k : Int) + 1), .int .i64 rs[k].k.lb, .int .i64 rs[k].k.sz, .int .i64 rs[k].k.us, .bool rs[k].lk] 29) = WB := ⟨_, rfl⟩
             have hrB : Ren W W.heap.size g1 n c1 rs k WB := by rw [← hWB]; exact hr.grown (below_box wr _) HR.out.bel.size
             obtain ⟨y0, y1, y2, y3, y4⟩ := hrB.at hkx
             have hbx : WB.heap[wr.heap.size]? = some (.cells #[.int .i64 ((k : Int) + 1), .int .i64 rs[k].k.lb, .int .i64 rs[k].k.sz, .int .i64 rs[k].k.us, .bool rs[k].lk] 29 (0, 0)) := by rw [← hWB]; exact heap_alloc_new wr _
             have q0 : WB.cell? ⟨wr.heap.size, 0, none⟩ = some (.int .i64 ((k : Int) + 1)) := row_cell hbx 0
             have q1 : WB.cell? ⟨wr.heap.size, 1, none⟩ = some (.int .i64 rs[k].k.lb) := row_cell hbx 1
             have q2 : WB.cell? ⟨wr.heap.size, 2, none⟩ = some (.int .i64 rs[k].k.sz) := row_cell hbx 2
             have q3 : WB.cell? ⟨wr.heap.size, 3, none⟩ = some (.int .i64 rs[k].k.us) := row_cell hbx 3
             have q4 : WB.cell? ⟨wr.heap.size, 4, none⟩ = some (.bool rs[k].lk) := row_cell hbx 4
             clear hbx
             have fz := hrB.free
             have HST := hid (hrB.step hkx HN.out r1 r2)
             have wk : wrap64 ((k : Int) + 1) = (k : Int) + 1 := by unfold wrap64; omega
             generalize rs[k].k.id = id at *
             generalize rs[k].k.lb = lb at *
             generalize rs[k].k.sz = sz at *
             generalize rs[k].k.us = us at *
             generalize rs[k].lk = lk at *
             have HR123 := hid (And.intro r1 (And.intro r2 r3))
             clear HR hr hrB r1 r2 r3
             go_wp2_with fail
             go_roundw
             case rel =>
               obtain ⟨r1, r2, r3⟩ := HR123.out
               exact ⟨k + 1, by omega, by go_num, hid (by rw [← HOO.out]; exact ⟨HST.out.bel, .inr ⟨g1, rfl, r1, r2, r3, HST.out⟩⟩)⟩
             case measure => simp [intOf]; omega)
        · have hge : ¬ (k : Int) < n := by omega
          have hkn : k = n := by omega
          subst hkn
          have hoo := HOO.out
          clear HOO HRX HRE
          subst hoo
          have hown := HR.out.done HN.out
          have HB := hid HR.out.bel
          have hrcs := own_rcs hown (by rw [renum_len]; exact HN.out) (renum_ok hok (by rw [HN.out]; omega))
          have HRC := hid hrcs
          have HRL := hid (show (renum rs).length = k by rw [renum_len]; exact HN.out)
          have C14a := hid (fun w => pick14 pa 101 w (by decide) (by decide) hpa)
          have C14g := hid (fun (p : Nat) (hp : p < 101) w => show Calls Try.prog 14 #[.int .i64 mo, .int .i64 (101 - (p : Int))] w (fun e w' => PickOut (101 - p) e ∧ w' = w) from by
            have := pick14 mo (101 - p) w (by omega) (by omega) hmo
            rw [show ((101 - p : Nat) : Int) = 101 - (p : Int) by omega] at this
            exact this)
          clear HR hown hrcs
          go_wp2_with (go_at_call 14; refine (C14a.out _).mono ?_; rintro e w2 ⟨⟨p, hp, rfl⟩, hw2⟩; rw [hw2]; clear hw2)
          have C14b := hid (C14g.out p hp)
          have c10 := choose10 (c := c1) g (p : Int) HRC.out HRL.out (by omega) ⟨by omega, by omega⟩
          refine c10.mono ?_
          rintro e w3 ⟨⟨x, rfl, ho⟩, hb⟩
          have HX := hid (own_ids ho rfl)
          have HB3 := hid hb
          clear c10 ho hb
          obtain ⟨m1, hm1⟩ : ∃ m1, (chosen (renum rs) g (p : Int)).length = m1 := ⟨_, rfl⟩
          have HM1 := hid hm1
          rw [hm1]
          clear hm1
          go_wp2_with (go_at_call 14; refine (C14b.out _).mono ?_; rintro e w2 ⟨⟨t, ht, rfl⟩, hw2⟩; rw [hw2]; clear hw2; have hpt : wrap64 ((p : Int) + (t : Int)) = (p : Int) + (t : Int) := by unfold wrap64; omega)
          obtain ⟨q, hq⟩ : ∃ q : Int, q = (p : Int) + (t : Int) := ⟨_, rfl⟩
          have HQ := hid (show (p : Int) ≤ q ∧ q ≤ 100 by omega)
          rw [← hq]
          clear hq hpt
          have c10 := choose10 (c := c1) g q (HRC.out.below HB3.out) HRL.out (by omega) ⟨by have := HQ.out; omega, HQ.out.2⟩
          refine c10.mono ?_
          rintro e w5 ⟨⟨y, rfl, ho⟩, hb⟩
          have hy := own_ids ho rfl
          have HK := hid (Kpt.mk (HB.out.trans ((HB3.out.trans (hb.mono HB3.out.size)).mono HB.out.size)) (HRC.out.below (HB3.out.trans (hb.mono HB3.out.size))) (HX.out.below hb) hy : Kpt W W.heap.size rs g (p : Int) q _ x y w5)
          have hxs := HX.out.shape
          have hys := hy.shape
          obtain ⟨m2, hm2⟩ : ∃ m2, (chosen (renum rs) g q).length = m2 := ⟨_, rfl⟩
          have HM2 := hid hm2
          rw [hm2] at hys ⊢
          rw [HM1.out] at hxs
          have k1 : (m1 : Int) ≤ m2 := by have := chosen_len_le (renum rs) g HQ.out.1; rw [HM1.out, hm2] at this; omega
          have k2 : (m2 : Int) ≤ k := by have := chosen_len (renum rs) g q; rw [hm2, HRL.out] at this; omega
          have HS := hid (fun i (hi : i < m1) => chosen_same (rs := renum rs) HQ.out.1 (by rw [HM1.out]; exact hi : i < _))
          have HAT := hid (fun i (hi : i < m1) => renum_at (rs := rs) (g := g) (p := (p : Int)) (by rw [HM1.out]; exact hi : i < _))
          have HNE := hid (fun i l (hi : i < m1) (hl : l < i) => renum_ne (rs := rs) (g := g) (p := (p : Int)) (by rw [HM1.out]; exact hi : i < _) hl)
          have hxy : Hid (m1 = 0) ∨ ∃ bx ox by_ oy, x = some ⟨bx, ox, none⟩ ∧ y = some ⟨by_, oy, none⟩ := by
            rcases hxs with h | ⟨bx, ox, e1⟩
            · exact .inl (hid h)
            · rcases hys with h | ⟨by_, oy, e2⟩
              · left; exact hid (by omega)
              · exact .inr ⟨bx, ox, by_, oy, e1, e2⟩
          have HWB := hid HK.out.bel
          have CW := hid (fun w => works13 w)
          have C8 := hid (fun r w => tier8 r g w)
          clear c10 ho hb hxs hys hy hm2 HX HB3 HRC HB C14a C14g C14b
          rcases hxy with Z2 | ⟨bx, ox, by_, oy, rfl, rfl⟩
          all_goals
            go_wp2_with fail
            go_loopw [18] (fun iv wz => ∃ i : Nat, i ≤ m1 ∧ iv = .int .i64 i ∧ Hid (Kpt W W.heap.size rs g (p : Int) q _ _ _ wz)) (fun iv _ => m1 - (intOf iv).toNat)
            case atStart => exact ⟨0, Nat.zero_le _, rfl, HK⟩
            case round =>
              obtain ⟨i, hi, rfl, HKZ⟩ := hrel
              by_cases hil : i < m1
              · first
                | (exfalso; have := Z2.out; omega)
                | (exfalso; have := Z.out; omega)
                | (have hil' : (i : Int) < m1 := by omega
                   have hil2 : (i : Int) < m2 := by omega
                   obtain ⟨j, hj, e1, e2, e3, e4⟩ := HAT.out i hil
                   have xc := HKZ.out.fst.at (j := i) (by rw [HM1.out]; exact hil)
                   have yc := HKZ.out.snd.at (j := i) (by rw [HM2.out]; omega)
                   rw [HS.out i hil, e1] at yc
                   rw [e1] at xc
                   obtain ⟨hok2, x0, x1, x2, x3, x4⟩ := HKZ.out.rows.at hj
                   simp only [Nat.zero_add] at x0 x1 x2 x3 x4
                   have hjk : (j : Int) < k := by rw [HRL.out] at hj; omega
                   have hj1 : wrap64 ((j : Int) + 1 - 1) = j := by unfold wrap64; omega
                   have C8r := hid (fun w => C8.out (renum rs)[j] w)
                   have HNEi := hid (fun l (hl : l < i) => show (chosen (renum rs) g (p : Int)).getD l 0 ≠ (j : Int) + 1 from by have := HNE.out i l hil hl; rw [e1] at this; exact this)
                   generalize (renum rs)[j] = r at *
                   obtain ⟨⟨id, lb, sz, us⟩, lk⟩ := r
                   dsimp only at e2 e3 e4 x0 x1 x2 x3 x4
                   subst e2
                   dsimp only [rec5] at C8r
                   have hus : ¬ 2 ≤ us := by omega
                   obtain ⟨tt, htt⟩ : ∃ tt, tier lb g = tt := ⟨_, rfl⟩
                   rw [htt] at C8r e3
                   have htb : (tt == 1) = false := by simp [e3]
                   have hee : ((j : Int) + 1 != (j : Int) + 1) = false := by simp
                   have hlo : ¬ (j : Int) + 1 < 1 := by omega
                   have hhi : ¬ (k : Int) < (j : Int) + 1 := by omega
                   have HXI := hid e1
                   clear hok2 htt e1 e3 e4 HAT HNE HS
                   go_wp2_with fail
                   go_quiet (fail)
                   obtain ⟨wd, hwd⟩ : ∃ wd, wr.drewN nq = wd := ⟨_, rfl⟩
                   rw [hwd]
                   have x0d : wd.cell? ⟨g1, j * 5, none⟩ = some (.int .i64 id) := by rw [← hwd]; exact x0
                   have x1d : wd.cell? ⟨g1, j * 5 + 1, none⟩ = some (.int .i64 lb) := by rw [← hwd]; exact x1
                   have x2d : wd.cell? ⟨g1, j * 5 + 2, none⟩ = some (.int .i64 sz) := by rw [← hwd]; exact x2
                   have x3d : wd.cell? ⟨g1, j * 5 + 3, none⟩ = some (.int .i64 us) := by rw [← hwd]; exact x3
                   have x4d : wd.cell? ⟨g1, j * 5 + 4, none⟩ = some (.bool false) := by rw [← hwd]; exact x4
                   have xcd : wd.cell? ⟨bx, ox + i, none⟩ = some (.int .i64 ((j : Int) + 1)) := by rw [← hwd]; exact xc
                   have HKD := hid (show Kpt W W.heap.size rs g (p : Int) q _ _ _ wd by rw [← hwd]; exact HKZ.out.below (Drawn.below ⟨nq, rfl⟩) HKZ.out.bel.size)
                   have HB1 := hid (fun w4 (h : Below wd.heap.size wd w4) => HKD.out.below h HKD.out.bel.size)
                   clear hwd x0 x1 x2 x3 x4 xc yc HKZ
                   go_wp2_with fail
                   refine (C8r.out _).mono ?_
                   rintro e w7 ⟨rfl, hw7⟩
                   have hb7 : Below wd.heap.size wd w7 := by rw [hw7]; exact box_below wd _ (below_box _ _)
                   have HK7 := hid (HB1.out w7 hb7)
                   have y3 : w7.cell? ⟨wd.heap.size, 3, none⟩ = some (.int .i64 us) := by
                     rw [hw7]
                     exact row_cell (((below_box (wd.alloc _) _).block wd.heap.size (by simp)).trans (heap_alloc_new wd _)) 3
                   clear hw7 hb7 HB1 HKD xcd x0d x1d x2d x3d x4d C8r
                   go_wp2_with fail
                   clear y3
                   go_loopw [20] (fun lv wq => ∃ l : Nat, l ≤ i ∧ lv = .int .i64 l ∧ Hid (Kpt W W.heap.size rs g (p : Int) q _ _ _ wq)) (fun lv _ => i - (intOf lv).toNat)
                   case atStart => exact ⟨0, Nat.zero_le _, rfl, HK7⟩
                   case round =>
                     obtain ⟨l, hl, rfl, HKQ⟩ := hrel
                     by_cases hli : l < i
                     · have hli' : (l : Int) < i := by omega
                       have hlm : (l : Int) < m1 := by omega
                       have zc := HKQ.out.fst.at (j := i) (by rw [HM1.out]; exact hil)
                       have lc := HKQ.out.fst.at (j := l) (by rw [HM1.out]; omega)
                       rw [HXI.out] at zc
                       have hne := HNEi.out l hli
                       generalize (chosen (renum rs) g (p : Int)).getD l 0 = v at *
                       have hnb : (v == (j : Int) + 1) = false := by simp [hne]
                       clear hne
                       go_wp2_with fail
                       go_quiet (fail)
                       go_wp2_with fail
                       go_roundw
                       case rel => exact ⟨l + 1, by omega, by go_num, hid (HKQ.out.below (Drawn.below ⟨_, rfl⟩) HKQ.out.bel.size)⟩
                       case measure => simp [intOf]; omega
                     · have hlg : ¬ (l : Int) < i := by omega
                       go_wp2_with fail
                       go_roundw
                       case rel => exact ⟨i + 1, by omega, by omega⟩
                       case measure => simp [intOf]; omega)
              · have hig : ¬ (i : Int) < m1 := by omega
                go_wp2_with (go_at_call 13; refine (CW.out _).mono ?_; rintro e w9 ⟨rfl, hb9⟩)
                go_ret
                exact ⟨rfl, HKZ.out.bel.trans (hb9.mono HKZ.out.bel.size)⟩
  · have h100' : (100 : Int) < n := by omega
    go_enter Try.func4, Try.ntmps4
    go_wp2_with fail
    go_ret
    exact ⟨rfl, Below.refl _ _⟩
end Go.Proofs.Ytekkbpaelojmeaa
