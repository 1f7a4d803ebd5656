/- A call of both. -/
import Derived.Test.YtckpahdlcdgbpaaRgo
namespace Go.Proofs.Ytckpahdlcdgbpaa
open Go.RowKit Go.Maps
set_option linter.unusedVariables false
set_option maxRecDepth 100000
/-- Between the call of the one and the call of the other. -/
def SO (N tb db n : Nat) (s s' : Trl.S) (W0 : World) (sb : Nat) (cs : Array Value) (k : Nat) (Y : World) : Prop :=
  Trx (· < N) tb n (if k = 0 then s else s') Y ∧ Dtx N db n (if k = 2 then s' else s) Y ∧ Below N W0 Y ∧ Y.heap[sb]? = some (.cells cs 36 (0, 0))
theorem SO.one {N tb db n : Nat} {s s' : Trl.S} {W0 Y w' : World} {sb : Nat} {cs : Array Value} (h : SO N tb db n s s' W0 sb cs 0 Y) (hN : N ≤ W0.heap.size) (hd : Did (· < N) tb n Y s' w') : SO N tb db n s s' W0 sb cs 1 w' :=
  ⟨hd.1, Dtx.kept h.2.1 hd.2 pA_pD, h.2.2.1.trans (hd.2.below (Nat.le_trans hN h.2.2.1.size) (fun g hg => hg)), Fr.box36 hd.2 noA36 h.2.2.2⟩
theorem SO.two {N tb db n : Nat} {s s' : Trl.S} {W0 Y w' : World} {sb : Nat} {cs : Array Value} (h : SO N tb db n s s' W0 sb cs 1 Y) (hN : N ≤ W0.heap.size) (hd : DidD N db n Y s' w') : SO N tb db n s s' W0 sb cs 2 w' :=
  ⟨Trx.kept h.1 hd.2 pD_pA, hd.1, h.2.2.1.trans (hd.2.below (Nat.le_trans hN h.2.2.1.size) (fun g hg => hg)), Fr.box36 hd.2 noD36 h.2.2.2⟩
theorem SO.pr {N tb db n : Nat} {s s' : Trl.S} {W0 Y : World} {sb : Nat} {cs : Array Value} (h : SO N tb db n s s' W0 sb cs 2 Y) : Pr N tb db n s' W0 Y := ⟨h.1, h.2.1, h.2.2.1⟩
theorem SO.mk {N tb db n : Nat} {s s' : Trl.S} {W0 Y : World} {sb : Nat} {cs : Array Value} (h : Pr N tb db n s W0 Y) (hN : N ≤ W0.heap.size) (hb : Y.heap[sb]? = some (.cells cs 36 (0, 0))) : SO N tb db n s s' W0 sb cs 0 Y.drew := ⟨h.t.below ((Below.refl Y.heap.size Y).drew), h.d.below ((Below.refl Y.heap.size Y).drew), h.b.trans (((Below.refl Y.heap.size Y).drew).mono (Nat.le_trans hN h.b.size)), hb⟩
/-- A row of numbers, as it is copied. -/
theorem copy34 (a : Option Addr) (m cap : Nat) (to : List Int) (W : World) (hm : to.length = m) (hM : m ≤ 1000000) (h : Hnts W a to) :
    ∃ o c W', (Builtin.append_ #[34, 34] 34 #[.slice none 0 0, .slice a m cap]).run Try.prog W = .ok (.slice o m c) W' ∧ W'.ownsRow W.heap.size 3 1 (.slice o m c) m (to.map (Value.int .i64)) ∧ Below W.heap.size W W' := by
  cases a with
  | none =>
    have hx0 : to = [] := by
      rcases h.2 with h | ⟨b, off, e, _⟩
      · exact h
      · cases e
    subst hx0
    obtain rfl : m = 0 := by simpa using hm.symm
    exact ⟨none, 0, W, by kernel_rfl, World.ownsRow_nil _ _ _ _, Below.refl _ _⟩
  | some ad =>
    obtain ⟨i0, hi, hz⟩ := Option.map_eq_some_iff.1 info3
    simp only [Prod.mk.injEq] at hz
    obtain ⟨v2, B, hr, ho2, hgb, _, _⟩ := run_append_own_at (P := Try.prog) W W.heap.size 34 34 3 i0 _ 1 8 Try.underlying34 hi hz.1 hz.2.1 hz.2.2 rfl (by decide) (.slice none 0 0) 0 [] (World.ownsRow_nil _ _ _ _) ad m cap (to.map (Value.int .i64)) (by simp [hm]) (fun j u hu => by
      rw [List.getElem?_map] at hu
      obtain ⟨x, hx', rfl⟩ := Option.map_eq_some_iff.1 hu
      have hj : j < to.length := by
        rcases Nat.lt_or_ge j to.length with h' | h'
        · exact h'
        · rw [List.getElem?_eq_none h'] at hx'; cases hx'
      obtain ⟨b, off, e, _, hc, _, _⟩ := Row.at h hj
      cases e
      rw [show (⟨b, off, none⟩ : Addr).add j = ⟨b, off + j, none⟩ by simp [Addr.add], hc]
      simp [List.getD, hx']) (one_ints _ _) (by simp [maxLen]; omega) (by omega) (Nat.le_refl _)
    obtain ⟨o, k, rfl⟩ := own_slc ho2
    rw [Nat.zero_add] at hr ho2
    rw [List.nil_append] at ho2
    exact ⟨o, k, B, hr, ho2, hgb.os, hgb.tape, hgb.output, hgb.size, fun q hq => hgb.block q hq (by intro e; cases e)⟩
/-- A row that is owned, as a row of numbers. -/
theorem own_nums {W : World} {base n : Nat} {o : Option Addr} {c : Nat} {xs : List Int} {e : TypeId} (h : W.ownsRow base e 1 (.slice o n c) n (xs.map (Value.int .i64))) (hx : ∀ x ∈ xs, -9223372036854775808 ≤ x ∧ x ≤ 9223372036854775807) : Hnts W o xs := by
  have hl : xs.length = n := by have := h.1; simpa using this
  rcases Nat.eq_zero_or_pos n with h0 | hp
  · exact ⟨hx, .inl (List.eq_nil_of_length_eq_zero (by omega))⟩
  · obtain ⟨g, c', cur, e1, _, hg, _, _, _, _⟩ := own_some h hp
    cases e1
    refine ⟨hx, .inr ⟨g, 0, rfl, lt_of_blk hg, fun j hj => ?_⟩⟩
    have := h.cellAt j (by omega)
    rw [Nat.zero_add, this, List.getElem?_map, List.getD, List.getElem?_eq_getElem hj]
    rfl
theorem own_stays {W : World} {base n : Nat} {o : Option Addr} {c : Nat} {xs : List Int} (h : W.ownsRow base 3 1 (.slice o n c) n (xs.map (Value.int .i64))) (hx : ∀ x ∈ xs, -9223372036854775808 ≤ x ∧ x ≤ 9223372036854775807) : StaysV W o xs :=
  fun w' hf => own_nums (own_fr h hf (by rintro cs fr ⟨cs', fr', e⟩; cases e)) hx
/-- The same, and the copied row stands until the one is moved. -/
def SM (N tb db n : Nat) (s s' : Trl.S) (W0 : World) (sb : Nat) (cs : Array Value) (a1 : Option Addr) (to : List Int) (k : Nat) (Y : World) : Prop :=
  SO N tb db n s s' W0 sb cs k Y ∧ (k = 0 → StaysV Y a1 to)
set_option maxHeartbeats 8000000 in
theorem one11 {N tb db n : Nat} {s : Trl.S} {W0 W : World} (hP : Pr N tb db n s W0 W) (hN : N ≤ W0.heap.size) (st : Trl.Stp) (a : Option Addr) (cap : Nat) (hs : StpOk W st a) (hto : st.to.length ≤ 1000000) (hsD : ∀ Y, Below N W0 Y → StaysD N Y a st.to) :
    Calls Try.prog 11 #[.pointer (some ⟨tb, 0, none⟩), .pointer (some ⟨db, 0, none⟩), .agg #[.int .i64 st.kind, .int .i32 st.l, .int .i64 st.n, .slice a st.to.length cap]] W fun e w' => OneOut N tb db n W0 e w' := by
  obtain ⟨V, hV⟩ : ∃ V, W.alloc (.cells #[.int .i64 st.kind, .int .i32 st.l, .int .i64 st.n, .slice a st.to.length cap] 36) = V := ⟨_, rfl⟩
  have hbV : Below W.heap.size W V := by rw [← hV]; exact below_box _ _
  have hnew : V.heap[W.heap.size]? = some (.cells #[.int .i64 st.kind, .int .i32 st.l, .int .i64 st.n, .slice a st.to.length cap] 36 (0, 0)) := by rw [← hV]; exact heap_alloc_new W _
  have hPV := hP.below hN hbV
  have HPV := hid hPV
  have x0 : V.cell? ⟨W.heap.size, 0, none⟩ = some (.int .i64 st.kind) := row_cell hnew 0
  have C28 := hid (pick28 st.kind 7 V (by decide) (by decide) hs.kind)
  have HNW := hid hnew
  have HOK := hid hPV.t.ok
  have HLEN := hid (show s.R.length ≤ 35184372088832 by have := hPV.t.ok.len; have := hPV.t.ok.n; omega)
  have hl := hs.l
  have hr := hs.n
  clear hnew hPV hbV
  go_enter Try.func11, Try.ntmps11
  go_wp2_with (fail)
  go_at_call 28
  refine C28.out.mono ?_
  rintro e w3 ⟨⟨t, ht, rfl⟩, hw3⟩
  rw [hw3]
  clear hw3 C28 hV
  have hcases : t = 0 ∨ t = 1 ∨ t = 2 ∨ t = 3 ∨ t = 4 ∨ t = 5 ∨ t = 6 := by omega
  rcases hcases with rfl | rfl | rfl | rfl | rfl | rfl | rfl
  case inr.inr.inr.inr.inl =>
    have C13 := hid (back13 HPV.out.t st.n)
    have x2 : V.cell? ⟨W.heap.size, 2, none⟩ = some (.int .i64 st.n) := row_cell HNW.out 2
    have hgl := goneL_i32 HOK.out st.n
    have HGL := hid hgl
    have HNV := hid (show N ≤ V.heap.size from Nat.le_trans hN HPV.out.b.size)
    have C34 := hid (fun (w' : World) (hd : Did (· < N) tb n V (Trl.backS s st.n) w') => back34 (HPV.out.d.kept hd.2 pA_pD) (Nat.le_trans HNV.out hd.2.size) st.n)
    have HX2 := hid (fun (w' : World) (hd : Did (· < N) tb n V (Trl.backS s st.n) w') => show w'.cell? ⟨W.heap.size, 2, none⟩ = some (.int .i64 st.n) from row_cell (Fr.box36 hd.2 noA36 HNW.out) 2)
    have HTW := hid (fun (w1 w2 : World) (h1 : Did (· < N) tb n V (Trl.backS s st.n) w1) (h2 : DidD N db n w1 (Trl.backS s st.n) w2) => HPV.out.two hN h1 h2)
    generalize Trl.goneL s st.n = gl at *
    generalize Trl.backE s st.n = ge at *
    generalize Trl.backS s st.n = gs at *
    clear hgl
    go_wp2_with (fail)
    go_at_call 13
    refine C13.out.mono ?_
    clear C13
    rintro e w4 ⟨o1, k1, rfl, hr1, h4⟩
    have C34' := hid (C34.out _ h4)
    have x2' := HX2.out _ h4
    have HR1 := hid hr1
    have H4 := hid h4
    clear C34 HX2 hr1 h4 x2
    go_wp2_with (fail)
    go_at_call 34
    refine C34'.out.mono ?_
    clear C34'
    rintro e w5 ⟨o2, k2, rfl, hr2, h5⟩
    have C30 := hid (same30 o1 o2 gl.length k1 k2 gl w5 rfl (by have := HGL.out.2; have := HLEN.out; omega) (own_row (own_fr HR1.out h5.2 (by rintro cs fr (h | h) <;> cases h)) HGL.out.1) (own_row hr2 HGL.out.1))
    have HO := hid (HTW.out _ _ H4.out h5)
    clear HTW H4 h5 HR1 hr2 x2'
    go_wp2_with (fail)
    go_at_call 30
    refine C30.out.mono ?_
    rintro e w6 ⟨rfl, h6⟩
    have HO2 := hid (HO.out.below hN h6)
    clear HO C30 h6 HPV HNW
    go_wp2
    go_ret
    exact ⟨rfl, _, HO2.out⟩
  case inr.inr.inr.inr.inr.inl =>
    have C14 := hid (next14 HPV.out.t)
    have C35 := hid (fun (w' : World) (hd : Did (· < N) tb n V (Trl.next s) w') => next35 (HPV.out.d.kept hd.2 pA_pD))
    have HTW := hid (fun (w1 w2 : World) (h1 : Did (· < N) tb n V (Trl.next s) w1) (h2 : DidD N db n w1 (Trl.next s) w2) => HPV.out.two hN h1 h2)
    generalize Trl.nextL s = nl at *
    generalize Trl.nextB s = nb at *
    go_wp2_with (fail)
    go_at_call 14
    refine C14.out.mono ?_
    rintro e w4 ⟨rfl, h4⟩
    have C35' := hid (C35.out _ h4)
    go_wp2_with (fail)
    go_at_call 35
    refine C35'.out.mono ?_
    rintro e w5 ⟨rfl, h5⟩
    have HO := hid (HTW.out _ _ h4 h5)
    clear C14 C35 C35' HTW h4 h5 HPV HNW
    go_wp2
    go_ret
    exact ⟨rfl, _, HO.out⟩
  case inl =>
    have HD1 := hid (fun (Y : World) (h : SO N tb db n s (Trl.dec n s st.l) W0 W.heap.size #[.int .i64 st.kind, .int .i32 st.l, .int .i64 st.n, .slice a st.to.length cap] 0 Y) => (decide17 h.1 st.l hl).mono (R' := fun e w' => e = .returned (.int .i64 (Trl.wrongE n s.R st.l (-1))) ∧ SO N tb db n s (Trl.dec n s st.l) W0 W.heap.size #[.int .i64 st.kind, .int .i32 st.l, .int .i64 st.n, .slice a st.to.length cap] 1 w') (fun e w' hh => ⟨hh.1, h.one hN hh.2⟩))
    have HD2 := hid (fun (Y : World) (h : SO N tb db n s (Trl.dec n s st.l) W0 W.heap.size #[.int .i64 st.kind, .int .i32 st.l, .int .i64 st.n, .slice a st.to.length cap] 1 Y) => (decide32 h.2.1 st.l hl).mono (R' := fun e w' => e = .returned (.int .i64 (Trl.wrongE n s.R st.l (-1))) ∧ SO N tb db n s (Trl.dec n s st.l) W0 W.heap.size #[.int .i64 st.kind, .int .i32 st.l, .int .i64 st.n, .slice a st.to.length cap] 2 w') (fun e w' hh => ⟨hh.1, h.two hN hh.2⟩))
    go_wp2_with (fail)
    refine regO4 (SO N tb db n s (Trl.dec n s st.l) W0 W.heap.size #[.int .i64 st.kind, .int .i32 st.l, .int .i64 st.n, .slice a st.to.length cap]) tb db W.heap.size st.l (Trl.wrongE n s.R st.l (-1)) (SO.mk HPV.out hN HNW.out) (fun k Y h => row_cell h.2.2.2 1) HD1.out HD2.out ?_
    intro u22 u23 u24 u25 u26 u27 u28 u29 u30 w' hw'
    have HO := hid hw'.pr
    clear HD1 HD2 hw' HPV HNW
    dsimp only
    go_wp2
    go_ret
    exact ⟨rfl, _, HO.out⟩
  case inr.inl =>
    have HD1 := hid (fun (Y : World) (h : SO N tb db n s (Trl.dec n s st.l) W0 W.heap.size #[.int .i64 st.kind, .int .i32 st.l, .int .i64 st.n, .slice a st.to.length cap] 0 Y) => (decide17 h.1 st.l hl).mono (R' := fun e w' => e = .returned (.int .i64 (Trl.wrongE n s.R st.l (-1))) ∧ SO N tb db n s (Trl.dec n s st.l) W0 W.heap.size #[.int .i64 st.kind, .int .i32 st.l, .int .i64 st.n, .slice a st.to.length cap] 1 w') (fun e w' hh => ⟨hh.1, h.one hN hh.2⟩))
    have HD2 := hid (fun (Y : World) (h : SO N tb db n s (Trl.dec n s st.l) W0 W.heap.size #[.int .i64 st.kind, .int .i32 st.l, .int .i64 st.n, .slice a st.to.length cap] 1 Y) => (decide32 h.2.1 st.l hl).mono (R' := fun e w' => e = .returned (.int .i64 (Trl.wrongE n s.R st.l (-1))) ∧ SO N tb db n s (Trl.dec n s st.l) W0 W.heap.size #[.int .i64 st.kind, .int .i32 st.l, .int .i64 st.n, .slice a st.to.length cap] 2 w') (fun e w' hh => ⟨hh.1, h.two hN hh.2⟩))
    go_wp2_with (fail)
    refine regO4 (SO N tb db n s (Trl.dec n s st.l) W0 W.heap.size #[.int .i64 st.kind, .int .i32 st.l, .int .i64 st.n, .slice a st.to.length cap]) tb db W.heap.size st.l (Trl.wrongE n s.R st.l (-1)) (SO.mk HPV.out hN HNW.out) (fun k Y h => row_cell h.2.2.2 1) HD1.out HD2.out ?_
    intro u22 u23 u24 u25 u26 u27 u28 u29 u30 w' hw'
    have HO := hid hw'.pr
    clear HD1 HD2 hw' HPV HNW
    dsimp only
    go_wp2
    go_ret
    exact ⟨rfl, _, HO.out⟩
  case inr.inr.inl =>
    have HD1 := hid (fun (Y : World) (h : SO N tb db n s (Trl.asg n s st.l st.n) W0 W.heap.size #[.int .i64 st.kind, .int .i32 st.l, .int .i64 st.n, .slice a st.to.length cap] 0 Y) => (assign18 h.1 st.l st.n hl hr).mono (R' := fun e w' => e = .returned (.int .i64 (Trl.wrongE n s.R st.l st.n)) ∧ SO N tb db n s (Trl.asg n s st.l st.n) W0 W.heap.size #[.int .i64 st.kind, .int .i32 st.l, .int .i64 st.n, .slice a st.to.length cap] 1 w') (fun e w' hh => ⟨hh.1, h.one hN hh.2⟩))
    have HD2 := hid (fun (Y : World) (h : SO N tb db n s (Trl.asg n s st.l st.n) W0 W.heap.size #[.int .i64 st.kind, .int .i32 st.l, .int .i64 st.n, .slice a st.to.length cap] 1 Y) => (assign33 h.2.1 st.l st.n hl hr).mono (R' := fun e w' => e = .returned (.int .i64 (Trl.wrongE n s.R st.l st.n)) ∧ SO N tb db n s (Trl.asg n s st.l st.n) W0 W.heap.size #[.int .i64 st.kind, .int .i32 st.l, .int .i64 st.n, .slice a st.to.length cap] 2 w') (fun e w' hh => ⟨hh.1, h.two hN hh.2⟩))
    go_wp2_with (fail)
    refine regO7 (SO N tb db n s (Trl.asg n s st.l st.n) W0 W.heap.size #[.int .i64 st.kind, .int .i32 st.l, .int .i64 st.n, .slice a st.to.length cap]) tb db W.heap.size st.l st.n (Trl.wrongE n s.R st.l st.n) (SO.mk HPV.out hN HNW.out) (fun k Y h => ⟨row_cell h.2.2.2 1, row_cell h.2.2.2 2⟩) HD1.out HD2.out ?_
    intro u34 u35 u36 u37 u38 u39 u40 u41 u42 u43 u44 u45 u46 w' hw'
    have HO := hid hw'.pr
    clear HD1 HD2 hw' HPV HNW
    dsimp only
    go_wp2
    go_ret
    exact ⟨rfl, _, HO.out⟩
  case inr.inr.inr.inl =>
    have HD1 := hid (fun (Y : World) (h : SO N tb db n s (Trl.asg n s st.l st.n) W0 W.heap.size #[.int .i64 st.kind, .int .i32 st.l, .int .i64 st.n, .slice a st.to.length cap] 0 Y) => (assign18 h.1 st.l st.n hl hr).mono (R' := fun e w' => e = .returned (.int .i64 (Trl.wrongE n s.R st.l st.n)) ∧ SO N tb db n s (Trl.asg n s st.l st.n) W0 W.heap.size #[.int .i64 st.kind, .int .i32 st.l, .int .i64 st.n, .slice a st.to.length cap] 1 w') (fun e w' hh => ⟨hh.1, h.one hN hh.2⟩))
    have HD2 := hid (fun (Y : World) (h : SO N tb db n s (Trl.asg n s st.l st.n) W0 W.heap.size #[.int .i64 st.kind, .int .i32 st.l, .int .i64 st.n, .slice a st.to.length cap] 1 Y) => (assign33 h.2.1 st.l st.n hl hr).mono (R' := fun e w' => e = .returned (.int .i64 (Trl.wrongE n s.R st.l st.n)) ∧ SO N tb db n s (Trl.asg n s st.l st.n) W0 W.heap.size #[.int .i64 st.kind, .int .i32 st.l, .int .i64 st.n, .slice a st.to.length cap] 2 w') (fun e w' hh => ⟨hh.1, h.two hN hh.2⟩))
    go_wp2_with (fail)
    refine regO7 (SO N tb db n s (Trl.asg n s st.l st.n) W0 W.heap.size #[.int .i64 st.kind, .int .i32 st.l, .int .i64 st.n, .slice a st.to.length cap]) tb db W.heap.size st.l st.n (Trl.wrongE n s.R st.l st.n) (SO.mk HPV.out hN HNW.out) (fun k Y h => ⟨row_cell h.2.2.2 1, row_cell h.2.2.2 2⟩) HD1.out HD2.out ?_
    intro u34 u35 u36 u37 u38 u39 u40 u41 u42 u43 u44 u45 u46 w' hw'
    have HO := hid hw'.pr
    clear HD1 HD2 hw' HPV HNW
    dsimp only
    go_wp2
    go_ret
    exact ⟨rfl, _, HO.out⟩
  case inr.inr.inr.inr.inr.inr =>
    have hto2 : Hnts V a st.to := (hsD V HPV.out.b).here
    obtain ⟨a1, c1, X, hrun, hown, hbX⟩ := copy34 a st.to.length cap st.to V rfl hto hto2
    have HRN := hid hrun
    have x3 : V.cell? ⟨W.heap.size, 3, none⟩ = some (.slice a st.to.length cap) := row_cell HNW.out 3
    have HPX := hid (HPV.out.below hN hbX)
    have HBX := hid (show X.heap[W.heap.size]? = some (.cells #[.int .i64 st.kind, .int .i32 st.l, .int .i64 st.n, .slice a st.to.length cap] 36 (0, 0)) from (hbX.block _ (lt_of_blk HNW.out)).trans HNW.out)
    have HSV := hid (own_stays (own_below hown (Below.refl X.heap.size X).drew) hto2.1)
    have HD1 := hid (fun (Y : World) (h : SM N tb db n s (Trl.moveS s st.to) W0 W.heap.size #[.int .i64 st.kind, .int .i32 st.l, .int .i64 st.n, .slice a st.to.length cap] a1 st.to 0 Y) => (move19 h.1.1 a1 st.to.length c1 st.to rfl hs.len (h.2 rfl)).mono (R' := fun e w' => e = .returned (.int .i64 (Trl.moveE s st.to)) ∧ SM N tb db n s (Trl.moveS s st.to) W0 W.heap.size #[.int .i64 st.kind, .int .i32 st.l, .int .i64 st.n, .slice a st.to.length cap] a1 st.to 1 w') (fun e w' hh => ⟨hh.1, h.1.one hN hh.2, fun e => by cases e⟩))
    have HD2 := hid (fun (Y : World) (h : SM N tb db n s (Trl.moveS s st.to) W0 W.heap.size #[.int .i64 st.kind, .int .i32 st.l, .int .i64 st.n, .slice a st.to.length cap] a1 st.to 1 Y) => (move36 h.1.2.1 a st.to.length cap st.to rfl hs.len (hsD Y h.1.2.2.1)).mono (R' := fun e w' => e = .returned (.int .i64 (Trl.moveE s st.to)) ∧ SM N tb db n s (Trl.moveS s st.to) W0 W.heap.size #[.int .i64 st.kind, .int .i32 st.l, .int .i64 st.n, .slice a st.to.length cap] a1 st.to 2 w') (fun e w' hh => ⟨hh.1, h.1.two hN hh.2, fun e => by cases e⟩))
    clear hrun hown hbX hto2 hsD hs hto
    go_wp2_with (at_builtin; refine wpList_append_run rfl (.tmp 91) (.tmp 93) 34 34 rfl rfl rfl HRN.out ?_)
    refine regO18 (SM N tb db n s (Trl.moveS s st.to) W0 W.heap.size #[.int .i64 st.kind, .int .i32 st.l, .int .i64 st.n, .slice a st.to.length cap] a1 st.to) tb db W.heap.size a a1 st.to.length cap c1 (Trl.moveE s st.to) ⟨SO.mk HPX.out hN HBX.out, fun _ => HSV.out⟩ (fun k Y h => row_cell h.1.2.2.2 3) HD1.out HD2.out ?_
    intro u95 u96 u97 u98 u99 u100 u101 u102 w' hw'
    have HO := hid hw'.1.pr
    clear HD1 HD2 hw' HPV HNW
    dsimp only
    go_wp2
    go_ret
    exact ⟨rfl, _, HO.out⟩
end Go.Proofs.Ytckpahdlcdgbpaa
