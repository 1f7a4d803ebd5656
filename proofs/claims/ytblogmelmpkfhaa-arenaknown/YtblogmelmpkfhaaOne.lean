/- A call of both. -/
import Derived.Test.YtblogmelmpkfhaaRgo
import Derived.Deep.DeepCutAuto
namespace Go.Proofs.Ytblogmelmpkfhaa
open Go.RowKit Go.Maps
set_option linter.unusedVariables false
set_option maxRecDepth 100000
/-- The same world, behind some draws. -/
def Drawn (w w' : World) : Prop := ∃ q, w' = w.drewN q
theorem Drawn.refl (w : World) : Drawn w w := ⟨0, rfl⟩
theorem Drawn.drewN {w w' : World} (h : Drawn w w') (q : Nat) : Drawn w (w'.drewN q) := by
  obtain ⟨p, rfl⟩ := h
  exact ⟨p + q, by rw [World.drewN_drewN]⟩
theorem Drawn.cell {w w' : World} (h : Drawn w w') (a : Addr) : w'.cell? a = w.cell? a := by obtain ⟨q, rfl⟩ := h; rfl
theorem Drawn.below {w w' : World} (h : Drawn w w') {n : Nat} : Below n w w' := by obtain ⟨q, rfl⟩ := h; exact ⟨rfl, rfl, rfl, Nat.le_refl _, fun _ _ => rfl⟩
/-- The document's arena stands while a row of the caller's is written over. -/
theorem Dc.spoil {n db lim g : Nat} {v : Value} {E : List En} {W W' : World} {cs : Array Value} (h : Dc n db lim v E W) (hg : W.grownBy W' (some g)) (hgt : W.heap[g]? = some (.cells cs 48 (0, 0))) (hne : ∀ e ∈ E, e.1.lits = [] ∨ ∀ b off, e.2.1 = some ⟨b, off, none⟩ → b ≠ g) : Dc n db lim v E W' := by
  refine ⟨h.ndb, ?_, h.own.kept hg ?_, fun e he => ?_, h.ok, h.fit, h.lim, h.caps⟩
  · refine (hg.block db (lt_of_blk h.blk) ?_).trans h.blk
    intro e
    obtain rfl : db = g := by simpa using e
    have := h.blk
    rw [hgt] at this
    injection this with e3; injection e3 with _ e3; cases e3
  · cases hq : v.ownBlock with
    | none => exact .inl rfl
    | some q =>
      refine .inr ?_
      intro e
      obtain rfl : q = g := by simpa using e
      obtain ⟨_, cur, hq2⟩ := own_blk h.own hq
      rw [hgt] at hq2
      injection hq2 with e3; injection e3 with _ e3; cases e3
  · have hl := h.lits e he
    refine ⟨hl.1, ?_⟩
    rcases hne e he with h0 | h0
    · exact .inl h0
    · rcases hl.2 with h1 | ⟨b, off, cs', e1, hb, hc⟩
      · exact .inl h1
      · exact .inr ⟨b, off, cs', e1, (hg.block b (lt_of_blk hb) (fun e2 => h0 b off e1 (by simpa using e2))).trans hb, hc⟩
theorem Arx.spoil {n ab lim g : Nat} {M : List Arn.It} {W W' : World} {cs : Array Value} (h : Arx n ab lim M W) (hg : W.grownBy W' (some g)) (hgt : W.heap[g]? = some (.cells cs 48 (0, 0))) : Arx n ab lim M W' :=
  h.kept (p := pT 48) (m := 0) (Fr.grown hg (fun k hk => ⟨Nat.zero_le _, fun o ho => by
    obtain rfl : g = k := by simpa using hk
    rw [hgt] at ho
    cases ho
    rfl⟩)) (fun o h1 h2 => by
      cases o with
      | cells cs t fr =>
        have h1' : t = 48 := h1
        have h2' : t = 69 ∨ t = 84 := h2
        subst h1'
        rcases h2' with h | h <;> cases h
      | _ => exact h1.elim)
theorem grown_set {W wr : World} {g j : Nat} (h : W.grownBy wr (some g)) (u : Value) : W.grownBy (wr.setCell ⟨g, j, none⟩ u) (some g) :=
  ⟨h.os, h.tape, h.output, by have := h.size; simpa [World.setCell] using this, fun q hq hne => (heap_other wr u (fun e => hne (by rw [e]))).trans (h.block q hq hne)⟩
/-- Behind Put of both, the clause that was handed in being written over. -/
theorem put_done {N ab db lim g c' : Nat} {M : List Arn.It} {W0 w1 X w4 w5 wr : World} {E : List En} {vE : Value} {id lbd : Int} {c : List Int} {red : Bool} (hN : N ≤ W0.heap.size) (hP : Pr N ab db lim M W0 w1) (hDE : Dc N db lim vE E w1) (hEM : items E = M) (hbX : Below w1.heap.size w1 X)
    (ho : X.ownsRow w1.heap.size 48 1 (.slice (some ⟨g, 0, none⟩) c.length c') c.length (c.map (Value.int .i32)))
    (h4 : Did N ab lim X (Arn.put M lim id c red lbd) w4) (h5 : Fr pD N w4 w5) (h6 : ∃ v E', Dc N db lim v E' w5 ∧ items E' = Arn.put (items E) lim id c red lbd ∧ (E' = E ∨ ∃ x, E' = E ++ [x] ∧ ∀ b off, x.2.1 = some ⟨b, off, none⟩ → w4.heap.size ≤ b)) (hr : w5.grownBy wr (some g)) :
    Pr N ab db lim (Arn.put M lim id c red lbd) W0 wr := by
  obtain ⟨v, E', hD5, hE5, hor⟩ := h6
  obtain ⟨hgb, cur, hgX⟩ := own_blk (g := g) ho rfl
  have hNw : N ≤ w1.heap.size := Nat.le_trans hN hP.b.size
  have hg4 := h4.2.block g _ hgX (.inr (by rintro (h | h) <;> cases h))
  have hg5 := h5.block g _ hg4 (.inr (by rintro (h | h) <;> cases h))
  refine ⟨(h4.1.kept h5 pD_pA).spoil hr hg5, ⟨v, E', hD5.spoil hr hg5 ?_, by rw [hE5, hEM]⟩, ?_⟩
  · have hold : ∀ e ∈ E, e.1.lits = [] ∨ ∀ b off, e.2.1 = some ⟨b, off, none⟩ → b ≠ g := by
      intro e he
      rcases (hDE.lits e he).2 with h | ⟨b, off, cs, e1, hb, _⟩
      · exact .inl h
      · refine .inr (fun b2 off2 e2 => ?_)
        rw [e1] at e2
        cases e2
        have := lt_of_blk hb
        omega
    rcases hor with rfl | ⟨x, rfl, hx⟩
    · exact hold
    · intro e he
      rcases List.mem_append.1 he with he | he
      · exact hold e he
      · obtain rfl := List.mem_singleton.1 he
        refine .inr (fun b off e2 => ?_)
        have := hx b off e2
        have := lt_of_blk hg4
        omega
  · have q1 := hP.b.trans (hbX.mono hNw)
    have q2 := q1.trans (h4.2.below (Nat.le_trans hNw hbX.size))
    have q3 := q2.trans (h5.below (Nat.le_trans hNw (Nat.le_trans hbX.size h4.2.size)))
    refine q3.trans ⟨hr.os, hr.tape, hr.output, hr.size, fun q hq => hr.block q ?_ (fun e => ?_)⟩
    · have := lt_of_blk hg5; omega
    · have : q = g := by simpa using e
      omega
/-- The same, where no literal was handed in. -/
theorem put_done0 {N ab db lim : Nat} {M : List Arn.It} {W0 w1 X w4 w5 : World} {E : List En} {id lbd : Int} {c : List Int} {red : Bool} (hN : N ≤ W0.heap.size) (hP : Pr N ab db lim M W0 w1) (hEM : items E = M) (hbX : Below w1.heap.size w1 X)
    (h4 : Did N ab lim X (Arn.put M lim id c red lbd) w4) (h5 : Fr pD N w4 w5) (h6 : ∃ v E', Dc N db lim v E' w5 ∧ items E' = Arn.put (items E) lim id c red lbd ∧ (E' = E ∨ ∃ x, E' = E ++ [x] ∧ ∀ b off, x.2.1 = some ⟨b, off, none⟩ → w4.heap.size ≤ b)) :
    Pr N ab db lim (Arn.put M lim id c red lbd) W0 w5 := by
  obtain ⟨v, E', hD5, hE5, hor⟩ := h6
  have hNw : N ≤ w1.heap.size := Nat.le_trans hN hP.b.size
  have q1 := hP.b.trans (hbX.mono hNw)
  have q2 := q1.trans (h4.2.below (Nat.le_trans hNw hbX.size))
  exact ⟨h4.1.kept h5 pD_pA, ⟨v, E', hD5, by rw [hE5, hEM]⟩, q2.trans (h5.below (Nat.le_trans hNw (Nat.le_trans hbX.size h4.2.size)))⟩

set_option maxHeartbeats 8000000 in
theorem one10 {N ab db lim : Nat} {M : List Arn.It} {W0 W : World} (hP : Pr N ab db lim M W0 W) (hN : N ≤ W0.heap.size) (st : Arn.Stp) (a : Option Addr) (cap : Nat) (hs : StpOk W st a) (hto : st.lits.length ≤ 600) (hsD : ∀ Y, Below N W0 Y → Lits Y a st.lits) :
    Calls Try.prog 10 #[.pointer (some ⟨ab, 0, none⟩), .pointer (some ⟨db, 0, none⟩), .agg #[.int .i64 st.kind, .int .i64 st.id, .slice a st.lits.length cap, .bool st.red, .int .i64 st.r, .bool st.loose, .int .i64 st.i, .int .i64 st.k]] W fun e w' => OneOut N ab db lim W0 e w' := by
  obtain ⟨V, hV⟩ : ∃ V, W.alloc (.cells #[.int .i64 st.kind, .int .i64 st.id, .slice a st.lits.length cap, .bool st.red, .int .i64 st.r, .bool st.loose, .int .i64 st.i, .int .i64 st.k] 32) = V := ⟨_, rfl⟩
  have hbV : Below W.heap.size W V := by rw [← hV]; exact below_box _ _
  have hnew : V.heap[W.heap.size]? = some (.cells #[.int .i64 st.kind, .int .i64 st.id, .slice a st.lits.length cap, .bool st.red, .int .i64 st.r, .bool st.loose, .int .i64 st.i, .int .i64 st.k] 32 (0, 0)) := by rw [← hV]; exact heap_alloc_new W _
  have hPV := hP.below hN hbV
  have C29 := hid (refs29 hPV.d)
  have x4 : V.cell? ⟨W.heap.size, 4, none⟩ = some (.int .i64 st.r) := row_cell hnew 4
  obtain ⟨hsz, hri, hrl⟩ := hPV.a.refs_ok
  have HRI := hid hri
  have HPV := hid hPV
  have HNW := hid hnew
  have HSD := hid hsD
  have hkind := hs.kind
  have hsr := hs.r
  have hHS := hid hs
  clear hri hPV hnew hsD hs hbV
  go_enter Try.func10, Try.ntmps10
  go_wp2_with (fail)
  go_at_call 29
  refine C29.out.mono ?_
  rintro e w1 ⟨⟨v1, rfl, ho1⟩, hb1⟩
  obtain ⟨o1, c1, rfl⟩ := own_slc ho1
  have HB1 := hid ((hb1.block _ (lt_of_blk HNW.out)).trans HNW.out)
  have HP1 := hid (HPV.out.below hN hb1)
  have x0 := row_cell HB1.out 0
  have x1 := row_cell HB1.out 1
  have x2 := row_cell HB1.out 2
  have x3 := row_cell HB1.out 3
  have x4' := row_cell HB1.out 4
  have x5 := row_cell HB1.out 5
  have x6 := row_cell HB1.out 6
  have x7 := row_cell HB1.out 7
  simp only [List.getElem?_toArray, List.getElem?_cons_zero, List.getElem?_cons_succ] at x0 x1 x2 x3 x4' x5 x6 x7
  obtain ⟨L, hL⟩ : ∃ L, (Arn.refs M 0).length = L := ⟨_, rfl⟩
  have HL := hid hL
  rw [hL] at hrl ho1
  rw [hL]
  have HO1 := hid ho1
  clear C29 x4 hV HPV HNW hb1 hL ho1
  clear x1 x2 x3 x6 x7
  obtain ⟨lz, hlz⟩ : ∃ lz, st.loose = lz := ⟨_, rfl⟩
  rw [hlz] at x5
  clear hlz
  go_upto_region 3 with (fail)
  go_cut [30] (fun b w => ∃ q : Bool, b = .bool q ∧ (q = true → 0 < L) ∧ Hid (w = w1))
  case first =>
    cases lz
    · by_cases h0 : 0 < L
      · have h0' : (0 : Int) < L := by omega
        go_wp2
        go_meet
        exact ⟨true, rfl, fun _ => h0, hid rfl⟩
      · have h0' : ¬ (0 : Int) < L := by omega
        go_wp2
        go_meet
        exact ⟨false, rfl, (fun h => by cases h), hid rfl⟩
    · go_wp2
      go_meet
      exact ⟨false, rfl, (fun h => by cases h), hid rfl⟩
  case rest =>
    obtain ⟨q, rfl, hq, HWC⟩ := hcut
    rw [HWC.out]
    clear HWC
    go_upto_if 30 with (fail)
    go_cut [7] (fun rv w => ∃ r : Int, rv = .int .i64 r ∧ I64 r ∧ Hid (w = w1))
    case first =>
      cases q
      · go_wp2
        go_meet
        exact ⟨st.r, rfl, hsr, hid rfl⟩
      · have h0 := hq rfl
        have C27 := hid (pick27w st.r L w1 h0 hrl hsr)
        go_wp2_with (fail)
        go_at_call 27
        refine C27.out.mono ?_
        rintro e w3 ⟨⟨t, ht, rfl⟩, hw3⟩
        rw [hw3]
        clear hw3 C27
        obtain ⟨g1, c1', cur, e1, _⟩ := own_some HO1.out h0
        cases e1
        have htr : t < (Arn.refs M 0).length := by rw [HL.out]; exact ht
        have q1 := HO1.out.cellAt t (by omega)
        rw [List.getElem?_map, List.getElem?_eq_getElem htr] at q1
        simp only [Option.map_some] at q1
        have hI := HRI.out _ (List.getElem_mem htr)
        generalize (Arn.refs M 0)[t] = rv at *
        have ht' : (t : Int) < L := by omega
        go_wp2
        go_meet
        exact ⟨rv, rfl, hI, hid rfl⟩
    case rest =>
      obtain ⟨r, rfl, hI, HWC⟩ := hcut
      rw [HWC.out]
      clear HWC hq x4' x5
      have C27 := hid (pick27 st.kind 8 w1 (by decide) (by decide) hkind)
      go_wp2_with (fail)
      go_at_call 27
      refine C27.out.mono ?_
      rintro e w3 ⟨⟨t, ht, rfl⟩, hw3⟩
      rw [hw3]
      clear hw3 C27 x0
      have hcases : t = 3 ∨ t = 4 ∨ t = 5 ∨ t = 6 ∨ t = 7 ∨ (t = 0 ∨ t = 1 ∨ t = 2) := by omega
      rcases hcases with rfl | rfl | rfl | rfl | rfl | hput
      case' inl =>
        have C16 := hid (kill16 HP1.out.a r hI)
        have C30 := hid (fun (w' : World) (hd : Did N ab lim w1 (Arn.kill M r) w') => kill30 (HP1.out.d.kept hd.2) r)
        have HTW := hid (fun (wa wb : World) (h1 : Did N ab lim w1 (Arn.kill M r) wa) (h2 : DidD N db lim wa (Arn.kill M r) wb) => HP1.out.two hN h1 h2)
        generalize Arn.errR (Arn.find M r) = er at *
        go_wp2_with (fail)
        go_at_call 16
        refine C16.out.mono ?_
        rintro e w4 ⟨rfl, h4⟩
        have C30' := hid (C30.out _ h4)
        go_wp2_with (fail)
        go_at_call 30
        refine C30'.out.mono ?_
        rintro e w5 ⟨rfl, h5⟩
        have HO := hid (HTW.out _ _ h4 h5)
        clear C16 C30 C30' HTW h4 h5 HP1 HB1
        go_wp2
        go_ret
        exact ⟨rfl, _, HO.out⟩
      case' inr.inl =>
        have HD1 := hid (fun (Y : World) (h : SO N ab db lim M (Arn.shrink M r st.i) W0 W.heap.size #[.int .i64 st.kind, .int .i64 st.id, .slice a st.lits.length cap, .bool st.red, .int .i64 st.r, .bool st.loose, .int .i64 st.i, .int .i64 st.k] 0 Y) => (shrink17 h.1 r st.i hI).mono (R' := fun e w' => e = .returned (.int .i64 (Arn.errS (Arn.find M r) st.i)) ∧ SO N ab db lim M (Arn.shrink M r st.i) W0 W.heap.size #[.int .i64 st.kind, .int .i64 st.id, .slice a st.lits.length cap, .bool st.red, .int .i64 st.r, .bool st.loose, .int .i64 st.i, .int .i64 st.k] 1 w') (fun e w' hh => ⟨hh.1, h.one hN hh.2⟩))
        have HD2 := hid (fun (Y : World) (h : SO N ab db lim M (Arn.shrink M r st.i) W0 W.heap.size #[.int .i64 st.kind, .int .i64 st.id, .slice a st.lits.length cap, .bool st.red, .int .i64 st.r, .bool st.loose, .int .i64 st.i, .int .i64 st.k] 1 Y) => (shrink31 h.2.1 r st.i).mono (R' := fun e w' => e = .returned (.int .i64 (Arn.errS (Arn.find M r) st.i)) ∧ SO N ab db lim M (Arn.shrink M r st.i) W0 W.heap.size #[.int .i64 st.kind, .int .i64 st.id, .slice a st.lits.length cap, .bool st.red, .int .i64 st.r, .bool st.loose, .int .i64 st.i, .int .i64 st.k] 2 w') (fun e w' hh => ⟨hh.1, h.two hN hh.2⟩))
        have HM := hid (SO.mk (M' := Arn.shrink M r st.i) HP1.out hN HB1.out)
        go_wp2_with (fail)
        refine regO9 (SO N ab db lim M (Arn.shrink M r st.i) W0 W.heap.size #[.int .i64 st.kind, .int .i64 st.id, .slice a st.lits.length cap, .bool st.red, .int .i64 st.r, .bool st.loose, .int .i64 st.i, .int .i64 st.k]) ab db W.heap.size r st.i (Arn.errS (Arn.find M r) st.i) HM.out (fun k' Y h => row_cell h.2.2.2 6) HD1.out HD2.out ?_
        intro u0 u1 u2 u3 u4 u5 u6 u7 u8 u9 u10 w' hw'
        have HO := hid hw'.pr
        clear HD1 HD2 hw' HP1 HB1 HM
        dsimp only
        go_wp2
        go_ret
        exact ⟨rfl, _, HO.out⟩

      case' inr.inr.inl =>
        have HD1 := hid (fun (Y : World) (h : SO N ab db lim M (Arn.swap M r st.i st.k) W0 W.heap.size #[.int .i64 st.kind, .int .i64 st.id, .slice a st.lits.length cap, .bool st.red, .int .i64 st.r, .bool st.loose, .int .i64 st.i, .int .i64 st.k] 0 Y) => (swap18 h.1 r st.i st.k hI).mono (R' := fun e w' => e = .returned (.int .i64 (Arn.errW (Arn.find M r) st.i st.k)) ∧ SO N ab db lim M (Arn.swap M r st.i st.k) W0 W.heap.size #[.int .i64 st.kind, .int .i64 st.id, .slice a st.lits.length cap, .bool st.red, .int .i64 st.r, .bool st.loose, .int .i64 st.i, .int .i64 st.k] 1 w') (fun e w' hh => ⟨hh.1, h.one hN hh.2⟩))
        have HD2 := hid (fun (Y : World) (h : SO N ab db lim M (Arn.swap M r st.i st.k) W0 W.heap.size #[.int .i64 st.kind, .int .i64 st.id, .slice a st.lits.length cap, .bool st.red, .int .i64 st.r, .bool st.loose, .int .i64 st.i, .int .i64 st.k] 1 Y) => (swap32 h.2.1 r st.i st.k).mono (R' := fun e w' => e = .returned (.int .i64 (Arn.errW (Arn.find M r) st.i st.k)) ∧ SO N ab db lim M (Arn.swap M r st.i st.k) W0 W.heap.size #[.int .i64 st.kind, .int .i64 st.id, .slice a st.lits.length cap, .bool st.red, .int .i64 st.r, .bool st.loose, .int .i64 st.i, .int .i64 st.k] 2 w') (fun e w' hh => ⟨hh.1, h.two hN hh.2⟩))
        have HM := hid (SO.mk (M' := Arn.swap M r st.i st.k) HP1.out hN HB1.out)
        go_wp2_with (fail)
        refine regO11 (SO N ab db lim M (Arn.swap M r st.i st.k) W0 W.heap.size #[.int .i64 st.kind, .int .i64 st.id, .slice a st.lits.length cap, .bool st.red, .int .i64 st.r, .bool st.loose, .int .i64 st.i, .int .i64 st.k]) ab db W.heap.size r st.i st.k (Arn.errW (Arn.find M r) st.i st.k) HM.out (fun k' Y h => ⟨row_cell h.2.2.2 6, row_cell h.2.2.2 7⟩) HD1.out HD2.out ?_
        intro u0 u1 u2 u3 u4 u5 u6 u7 u8 u9 u10 u11 u12 u13 u14 w' hw'
        have HO := hid hw'.pr
        clear HD1 HD2 hw' HP1 HB1 HM
        dsimp only
        go_wp2
        go_ret
        exact ⟨rfl, _, HO.out⟩

      case' inr.inr.inr.inl =>
        have HD1 := hid (fun (Y : World) (h : SO N ab db lim M (Arn.mark M r st.i st.k) W0 W.heap.size #[.int .i64 st.kind, .int .i64 st.id, .slice a st.lits.length cap, .bool st.red, .int .i64 st.r, .bool st.loose, .int .i64 st.i, .int .i64 st.k] 0 Y) => (mark19 h.1 r st.i st.k hI).mono (R' := fun e w' => e = .returned (.int .i64 (Arn.errM (Arn.find M r) st.i st.k)) ∧ SO N ab db lim M (Arn.mark M r st.i st.k) W0 W.heap.size #[.int .i64 st.kind, .int .i64 st.id, .slice a st.lits.length cap, .bool st.red, .int .i64 st.r, .bool st.loose, .int .i64 st.i, .int .i64 st.k] 1 w') (fun e w' hh => ⟨hh.1, h.one hN hh.2⟩))
        have HD2 := hid (fun (Y : World) (h : SO N ab db lim M (Arn.mark M r st.i st.k) W0 W.heap.size #[.int .i64 st.kind, .int .i64 st.id, .slice a st.lits.length cap, .bool st.red, .int .i64 st.r, .bool st.loose, .int .i64 st.i, .int .i64 st.k] 1 Y) => (mark33 h.2.1 r st.i st.k).mono (R' := fun e w' => e = .returned (.int .i64 (Arn.errM (Arn.find M r) st.i st.k)) ∧ SO N ab db lim M (Arn.mark M r st.i st.k) W0 W.heap.size #[.int .i64 st.kind, .int .i64 st.id, .slice a st.lits.length cap, .bool st.red, .int .i64 st.r, .bool st.loose, .int .i64 st.i, .int .i64 st.k] 2 w') (fun e w' hh => ⟨hh.1, h.two hN hh.2⟩))
        have HM := hid (SO.mk (M' := Arn.mark M r st.i st.k) HP1.out hN HB1.out)
        go_wp2_with (fail)
        refine regO13 (SO N ab db lim M (Arn.mark M r st.i st.k) W0 W.heap.size #[.int .i64 st.kind, .int .i64 st.id, .slice a st.lits.length cap, .bool st.red, .int .i64 st.r, .bool st.loose, .int .i64 st.i, .int .i64 st.k]) ab db W.heap.size r st.i st.k (Arn.errM (Arn.find M r) st.i st.k) HM.out (fun k' Y h => ⟨row_cell h.2.2.2 6, row_cell h.2.2.2 7⟩) HD1.out HD2.out ?_
        intro u0 u1 u2 u3 u4 u5 u6 u7 u8 u9 u10 u11 u12 u13 u14 w' hw'
        have HO := hid hw'.pr
        clear HD1 HD2 hw' HP1 HB1 HM
        dsimp only
        go_wp2
        go_ret
        exact ⟨rfl, _, HO.out⟩

      case' inr.inr.inr.inr.inl =>
        have C26 := hid (collect26 HP1.out.a)
        have C34 := hid (fun (w' : World) (hd : Did N ab lim w1 (Arn.collect M) w') => collect34 (HP1.out.d.kept hd.2))
        have HTW := hid (fun (wa wb : World) (h1 : Did N ab lim w1 (Arn.collect M) wa) (h2 : DidD N db lim wa (Arn.collect M) wb) => HP1.out.two hN h1 h2)
        have HTL := hid (show (Arn.refs (Arn.collect M) 0).length = L by rw [Arn.refs_collect_len M 0 0]; exact HL.out)
        generalize Arn.refs (Arn.collect M) 0 = ts at *
        generalize Arn.refs M 0 = fs at *
        go_wp2_with (fail)
        go_at_call 26
        refine C26.out.mono ?_
        rintro e w4 ⟨⟨vm, rfl, hm⟩, h4⟩
        rw [HL.out] at hm
        obtain ⟨om, cm, rfl⟩ := own_slc hm
        have C34' := hid (C34.out _ h4)
        have HM4 := hid hm
        have H4 := hid h4
        clear hm h4 C26 C34
        go_wp2_with (fail)
        go_at_call 34
        refine C34'.out.mono ?_
        rintro e w5 ⟨⟨vf, vt, rfl, hf, htt⟩, h5⟩
        rw [HL.out] at hf htt
        obtain ⟨of, cf, rfl⟩ := own_slc hf
        obtain ⟨ot, ct, rfl⟩ := own_slc htt
        have HM5 := hid (own_fr HM4.out h5.2 (by rintro cs fr (h | h) <;> cases h))
        have HF5 := hid hf
        have HT5 := hid htt
        have HO := hid (HTW.out _ _ H4.out h5)
        clear hf htt h5 HTW H4 HM4 C34' HP1 HB1 HRI
        rcases Nat.eq_zero_or_pos L with h0 | h0
        · subst h0
          go_wp2
          go_loopw [12] (fun iv wr => iv = .int .i64 0 ∧ wr = w5) (fun _ _ => 0)
          case atStart => exact ⟨rfl, rfl⟩
          case round =>
            obtain ⟨rfl, hw⟩ := hrel
            rw [hw]
            clear hw
            go_wp2
            go_ret
            exact ⟨rfl, _, HO.out⟩
        · obtain ⟨gm, cm', em, hgm, _⟩ := HM5.out.form h0
          cases em
          obtain ⟨gf, cf', curf, ef, _⟩ := own_some HF5.out h0
          cases ef
          obtain ⟨gt, ct', curt, et, _⟩ := own_some HT5.out h0
          cases et
          go_wp2
          go_loopw [12] (fun iv wr => ∃ j : Nat, j ≤ L ∧ iv = .int .i64 j ∧ Hid (Drawn w5 wr)) (fun iv _ => L - (intOf iv).toNat)
          case atStart => exact ⟨0, Nat.zero_le _, rfl, hid (Drawn.refl _)⟩
          case round =>
            obtain ⟨j, hj, rfl, HDR⟩ := hrel
            by_cases hlt : j < L
            · have hlt' : (j : Int) < L := by omega
              have hjf : j < fs.length := by rw [HL.out]; exact hlt
              have hjt : j < ts.length := by rw [HTL.out]; exact hlt
              have y1 := HM5.out.cellAt (j * 2) (by omega)
              have y2 := HM5.out.cellAt (j * 2 + 1) (by omega)
              rw [(mv_at (by rw [HL.out, HTL.out]) hjf).1] at y1
              rw [(mv_at (by rw [HL.out, HTL.out]) hjf).2] at y2
              have y3 := HF5.out.cellAt j (by omega)
              have y4 := HT5.out.cellAt j (by omega)
              rw [List.getElem?_map, List.getElem?_eq_getElem hjf] at y3
              rw [List.getElem?_map, List.getElem?_eq_getElem hjt] at y4
              simp only [Option.map_some, List.getD, List.getElem?_eq_getElem hjf, List.getElem?_eq_getElem hjt, Option.getD_some] at y1 y2 y3 y4
              generalize fs[j] = fv at *
              generalize ts[j] = tv at *
              rw [← HDR.out.cell] at y1 y2 y3 y4
              have e1 : (fv != fv) = false := by simp
              have e2 : (tv != tv) = false := by simp
              go_wp2
              go_quiet (fail)
              go_wp2
              go_roundw
              case rel => exact ⟨j + 1, by omega, by go_num, hid (HDR.out.drewN _)⟩
              case measure => simp [intOf]; omega
            · have hge : ¬ (j : Int) < L := by omega
              have HO2 := hid (HO.out.below hN HDR.out.below)
              go_wp2
              go_ret
              exact ⟨rfl, _, HO2.out⟩
      case' inr.inr.inr.inr.inr =>
        have k3 : ((t : Int) == 3) = false := by simp; omega
        have k4 : ((t : Int) == 4) = false := by simp; omega
        have k5 : ((t : Int) == 5) = false := by simp; omega
        have k6 : ((t : Int) == 6) = false := by simp; omega
        have k7 : ((t : Int) == 7) = false := by simp; omega
        obtain ⟨o', c', X, hr, hbX, hlr, hcap, hnewb, hoX⟩ := own_copy (W := w1) (cap := cap) (c := st.lits) rfl (by omega) (HSD.out w1 HP1.out.b)
        obtain ⟨vE, E, hDE, hEM⟩ := HP1.out.d
        have C13 := hid (put13 (HP1.out.a.below hbX) st.id o' st.lits.length c' st.lits st.red st.i rfl (by omega) (fun w' hf => (hlr.fr hf (by rintro cs fr (h | h) <;> cases h)).lits))
        have hXB := (hbX.block _ (lt_of_blk HB1.out)).trans HB1.out
        have HXB := hid hXB
        have y2 : w1.cell? ⟨W.heap.size, 2, none⟩ = some (.slice a st.lits.length cap) := row_cell HB1.out 2
        have z1 : X.cell? ⟨W.heap.size, 1, none⟩ = some (.int .i64 st.id) := row_cell hXB 1
        have z3 : X.cell? ⟨W.heap.size, 3, none⟩ = some (.bool st.red) := row_cell hXB 3
        have z6 : X.cell? ⟨W.heap.size, 6, none⟩ = some (.int .i64 st.i) := row_cell hXB 6
        have C35 := hid (fun (w' : World) (hd : Did N ab lim X (Arn.put M lim st.id st.lits st.red st.i) w') => put35 ((hDE.below hbX).kept hd.2 (by rintro cs fr (h | h) <;> cases h) (by rintro cs fr (h | h) <;> cases h) (by rintro cs fr (h | h) <;> cases h)) st.id a st.lits.length cap st.lits st.red st.i rfl (by omega) (HSD.out w' ((HP1.out.b.trans (hbX.mono (Nat.le_trans hN HP1.out.b.size))).trans (hd.2.below (Nat.le_trans hN (Nat.le_trans HP1.out.b.size hbX.size))))))
        have HR := hid hr
        have HOX := hid hoX
        have HBX := hid hbX
        have HDE := hid hDE
        have HEM := hid hEM
        clear hr hoX hbX hDE hlr hcap hXB hnewb hput
        go_wp2_with (at_builtin; refine wpList_append_run rfl (.tmp 140) (.tmp 142) 30 30 rfl rfl rfl HR.out ?_)
        go_at_call 13
        refine C13.out.mono ?_
        rintro e w4 ⟨rfl, h4⟩
        have hX4 := Fr.box32 h4.2 noA32 HXB.out
        have u1 : w4.cell? ⟨W.heap.size, 1, none⟩ = some (.int .i64 st.id) := row_cell hX4 1
        have u2 : w4.cell? ⟨W.heap.size, 2, none⟩ = some (.slice a st.lits.length cap) := row_cell hX4 2
        have u3 : w4.cell? ⟨W.heap.size, 3, none⟩ = some (.bool st.red) := row_cell hX4 3
        have u6 : w4.cell? ⟨W.heap.size, 6, none⟩ = some (.int .i64 st.i) := row_cell hX4 6
        have C35' := hid (C35.out _ h4)
        have H4 := hid h4
        clear C35 C13 h4 hX4 HXB y2 z1 z3 z6
        go_wp2_with (fail)
        go_at_call 35
        refine C35'.out.mono ?_
        rintro e w5 ⟨rfl, h5, h6⟩
        rw [HEM.out]
        have HI := hid (fun (g : Nat) (hg : o' = some ⟨g, 0, none⟩) (wr : World) (hw : w5.grownBy wr (some g)) => put_done (wr := wr) hN HP1.out HDE.out HEM.out HBX.out (by rw [hg] at HOX; exact HOX.out) H4.out h5 h6 hw)
        have HI0 := hid (put_done0 hN HP1.out HEM.out HBX.out H4.out h5 h6)
        have HO5 := hid (own_fr (own_fr HOX.out H4.out.2 (by rintro cs fr (h | h) <;> cases h)) h5 (by rintro cs fr (h | h) <;> cases h))
        clear h5 h6 C35' H4 HP1 HDE HBX HR HB1 u1 u2 u3 u6
        generalize Arn.putR M lim st.id st.lits st.i = pr at *
        generalize Arn.putE M lim st.id st.lits st.i = pe at *
        generalize Arn.put M lim st.id st.lits st.red st.i = M1 at *
        obtain ⟨K, hK⟩ : ∃ K, st.lits.length = K := ⟨_, rfl⟩
        rw [hK] at HO5 hto HOX
        rw [hK]
        clear hK
        rcases Nat.eq_zero_or_pos K with h0 | h0
        · subst h0
          go_wp2
          go_loopw [18] (fun iv wr => iv = .int .i64 0 ∧ wr = w5) (fun _ _ => 0)
          case atStart => exact ⟨rfl, rfl⟩
          case round =>
            obtain ⟨rfl, hw⟩ := hrel
            rw [hw]
            clear hw
            go_wp2
            go_ret
            exact ⟨rfl, _, HI0.out⟩
        · obtain ⟨g, c2, cur, eg, _⟩ := own_some HO5.out h0
          cases eg
          have HI2 := hid (HI.out g rfl)
          clear HI HI0
          go_wp2
          go_loopw [18] (fun iv wr => ∃ j : Nat, j ≤ K ∧ iv = .int .i64 j ∧ Hid (∃ ys, wr.ownsRow w1.heap.size 48 1 (.slice (some ⟨g, 0, none⟩) K c') K ys) ∧ Hid (w5.grownBy wr (some g))) (fun iv _ => K - (intOf iv).toNat)
          case atStart => exact ⟨0, Nat.zero_le _, rfl, hid ⟨_, HO5.out⟩, hid ⟨rfl, rfl, rfl, Nat.le_refl _, fun q _ _ => rfl⟩⟩
          case round =>
            obtain ⟨j, hj, rfl, HQ, HG⟩ := hrel
            by_cases hlt : j < K
            · have hlt' : (j : Int) < K := by omega
              obtain ⟨ys, hys⟩ := HQ.out
              have hyl := hys.1
              have hcj := hys.cellAt j (by omega)
              have hfj := hys.frozenAt j
              have hn := (hys.stored j (.int .i32 99)).1
              have HN2 := hid (show ∃ ys, (wr.setCell ⟨g, j, none⟩ (.int .i32 99)).ownsRow w1.heap.size 48 1 (.slice (some ⟨g, 0, none⟩) K c') K ys from ⟨_, hn⟩)
              have HG2 := hid (grown_set (j := j) HG.out (.int .i32 99))
              clear hn hys HQ HG
              go_wp2
              exact ⟨⟨j + 1, by omega, by go_num, HN2, HG2⟩, by simp only [intOf]; omega⟩
            · have hge : ¬ (j : Int) < K := by omega
              have HO := hid (HI2.out _ HG.out)
              go_wp2
              go_ret
              exact ⟨rfl, _, HO.out⟩
end Go.Proofs.Ytblogmelmpkfhaa
