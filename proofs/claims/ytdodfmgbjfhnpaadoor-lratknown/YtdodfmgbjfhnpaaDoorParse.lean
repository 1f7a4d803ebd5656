/- A text of steps, read by the program. -/
import Derived.Test.YtdodfmgbjfhnpaaDoorPar2
namespace Go.Proofs.YtdodfmgbjfhnpaaDoor
open Go.RowKit
set_option linter.unusedVariables false
set_option linter.unusedSimpArgs false
attribute [local go_sem] Oper.semAt_some

theorem make22 (c : Nat) (hc : c ≤ 1000000) : ∃ mc : Array Value, mc.size = c * 4 ∧ ∀ w : World, (Instr.makeSlice 22 (.int .i64 0) (.int .i64 (c : Int))).run Tryd.prog w = .ok (.slice (some ⟨w.heap.size, 0, none⟩) 0 c) (w.alloc (.cells mc 43)) := by
  obtain ⟨i0, hi, hz⟩ := Option.map_eq_some_iff.1 info43
  simp only [Prod.mk.injEq] at hz
  obtain ⟨hz0, hz1, hz2⟩ := hz
  refine ⟨madeCells (Value.cells (.agg #[.int .u8 0, .int .i64 0, .slice none 0 0, .slice none 0 0])) (c * 4), size_madeCells _ _, fun w => ?_⟩
  · have := run_makeSlice (P := Tryd.prog) w 22 43 i0 _ Tryd.underlying22 hi hz0 .i64 .i64 0 (c : Int) (by omega) (by omega) (by rw [hz1]; simp; omega) (by rw [hz2]; omega) (by omega)
    rw [hz1] at this
    simpa using this

theorem alloc_at (w : World) (o : Obj) (k : Nat) : (w.alloc o).heap[k]? = if k = w.heap.size then some o else w.heap[k]? := by
  show (w.heap.push o)[k]? = _
  rw [Array.getElem?_push]
theorem Marks.set {B : Nat} {A : World} {ds : List Deferred} (h : Marks B A ds) (a : Addr) (u : Value) : Marks B (A.setCell a u) ds := h.kept ((KeepsOthers.setCell _ _ _).from _)
/-- What Parse tells. -/
def POut (w : World) (r : Except Nat (List Lra.Stp)) (e : Ending) (w' : World) : Prop :=
  (∃ at_ : Nat, r = .error at_ ∧ e = .returned (.tuple #[.slice none 0 0, .int .i64 40, .int .i64 (at_ : Int)]) ∧ Below w.heap.size w w')
  ∨ (∃ (qs : List Q) (v : Value), r = .ok (qs.map (·.1)) ∧ e = .returned (.tuple #[v, .int .i64 0, .int .i64 0]) ∧ Mem w.heap.size w' v qs ∧ Below w.heap.size w w')
/-- Where the program stands behind k lines. -/
def Stand (w : World) (lns : List (List Int)) (k : Nat) (W : World) : Prop :=
  ∃ qs v rest more kd id ls hs it lv hv, Lra.parseGo [] (lns.take k) = .ok (qs.map (·.1)) ∧ Par w.heap.size w W qs v rest more kd id ls hs it lv hv (Lra.items (qs.map (·.1)))
/-- Where it has stopped. -/
def Stop (w : World) (lns : List (List Int)) (cd : Code) (W : World) : Prop :=
  cd = .ret ∧ ∃ at_ : Nat, Lra.parseGo [] lns = .error at_ ∧ Boxed W w.heap.size 22 (.slice none 0 0) ∧ Boxed W (w.heap.size + 1) 26 (.int .i64 40) ∧ Boxed W (w.heap.size + 2) 3 (.int .i64 (at_ : Int)) ∧ Below w.heap.size w W

set_option maxRecDepth 100000 in
set_option maxHeartbeats 8000000 in
theorem parse15 (S : ByteArray) (w : World) (hS : S.size ≤ 1000000) :
    Calls Tryd.prog 15 #[.string S] w fun e w' => POut w (Lra.parse (Lra.ints S)) e w' := by
  obtain ⟨lns, hlns⟩ : ∃ lns, Lra.linesL (Lra.ints S) = lns := ⟨_, rfl⟩
  unfold Lra.parse
  rw [hlns]
  obtain ⟨cn, hcn⟩ : ∃ cn, Lib.countByte S.data.toList 10 = cn := ⟨_, rfl⟩
  have hc1 : cn ≤ 1000000 := by
    rw [← hcn]
    unfold Lib.countByte
    have := List.count_le_length (a := (10 : UInt8)) (l := S.data.toList)
    have h2 : S.data.toList.length = S.size := by simp
    omega
  have C26 := fun w => count26 S 10 w
  rw [hcn] at C26
  clear hcn
  have K26 := hid C26
  clear C26
  obtain ⟨mc, hmc, MK⟩ := make22 cn hc1
  have hmin : min (cn : Int) 4194304 = cn := by omega
  have MK2 : ∀ w : World, (Instr.makeSlice 22 (.int .i64 0) (.int .i64 (min (cn : Int) 4194304))).run Tryd.prog w = .ok (.slice (some ⟨w.heap.size, 0, none⟩) 0 cn) (w.alloc (.cells mc 43)) := by rw [hmin]; exact MK
  clear MK hmin
  refine (callsIn_wide (n := 9)).1 ?_
  refine callsIn_of_wp_marks Tryd.func15 rfl trivial ?_ rfl
  simp only [Tryd.ntmps15, List.size_toArray, List.length_cons, List.length_nil, Nat.reduceAdd, Nat.reduceSub, Array.replicate_succ, Array.replicate_zero, List.push_toArray, List.append_toArray, List.nil_append, List.cons_append]
  refine wpIn_wide.2 ?_
  go_wp2_with (first
    | (go_at_call 26; refine (K26.out _).mono ?_; clear K26; rintro e W2 ⟨rfl, rfl⟩)
    | (go_at_call 27; refine (lines27 S _).mono ?_; rintro e W2 ⟨rfl, rfl⟩))
  obtain ⟨W8, hW8⟩ : ∃ W8, ((((((((w.alloc (.cells #[.slice none 0 0] 22)).alloc (.cells #[.int .i64 0] 26)).alloc (.cells #[.int .i64 0] 3)).alloc (.cells mc 43)).alloc (.cells #[.slice (some ⟨w.heap.size + 1 + 1 + 1, 0, none⟩) 0 cn] 22)).alloc (.cells #[.string ⟨#[]⟩, .bool false, .int .u8 0, .int .i64 0, .slice none 0 0, .slice none 0 0, .int .i64 0] 59)).alloc (.cells #[.int .i64 0] 3)).alloc (.cells #[.string S] 9)) = W8 := ⟨_, rfl⟩
  rw [hW8]
  have hsz : W8.heap.size = w.heap.size + 8 := by rw [← hW8]; simp
  have hP0 : Par w.heap.size w W8 [] (.slice (some ⟨w.heap.size + 3, 0, none⟩) 0 cn) ⟨#[]⟩ false 0 0 [] [] 0 (.slice none 0 0) (.slice none 0 0) 0 := by
    have at0 : W8.heap[w.heap.size]? = some (.cells #[.slice none 0 0] 22 (0, 0)) := by rw [← hW8, alloc_at, if_neg (by simp only [World.size_alloc]; omega), alloc_at, if_neg (by simp only [World.size_alloc]; omega), alloc_at, if_neg (by simp only [World.size_alloc]; omega), alloc_at, if_neg (by simp only [World.size_alloc]; omega), alloc_at, if_neg (by simp only [World.size_alloc]; omega), alloc_at, if_neg (by simp only [World.size_alloc]; omega), alloc_at, if_neg (by simp only [World.size_alloc]; omega), alloc_at, if_pos (by simp only [World.size_alloc])]
    have at1 : W8.heap[w.heap.size + 1]? = some (.cells #[.int .i64 0] 26 (0, 0)) := by rw [← hW8, alloc_at, if_neg (by simp only [World.size_alloc]; omega), alloc_at, if_neg (by simp only [World.size_alloc]; omega), alloc_at, if_neg (by simp only [World.size_alloc]; omega), alloc_at, if_neg (by simp only [World.size_alloc]; omega), alloc_at, if_neg (by simp only [World.size_alloc]; omega), alloc_at, if_neg (by simp only [World.size_alloc]; omega), alloc_at, if_pos (by simp only [World.size_alloc])]
    have at2 : W8.heap[w.heap.size + 2]? = some (.cells #[.int .i64 0] 3 (0, 0)) := by rw [← hW8, alloc_at, if_neg (by simp only [World.size_alloc]; omega), alloc_at, if_neg (by simp only [World.size_alloc]; omega), alloc_at, if_neg (by simp only [World.size_alloc]; omega), alloc_at, if_neg (by simp only [World.size_alloc]; omega), alloc_at, if_neg (by simp only [World.size_alloc]; omega), alloc_at, if_pos (by simp only [World.size_alloc])]
    have at3 : W8.heap[w.heap.size + 3]? = some (.cells mc 43 (0, 0)) := by rw [← hW8, alloc_at, if_neg (by simp only [World.size_alloc]; omega), alloc_at, if_neg (by simp only [World.size_alloc]; omega), alloc_at, if_neg (by simp only [World.size_alloc]; omega), alloc_at, if_neg (by simp only [World.size_alloc]; omega), alloc_at, if_pos (by simp only [World.size_alloc])]
    have at4 : W8.heap[w.heap.size + 4]? = some (.cells #[.slice (some ⟨w.heap.size + 1 + 1 + 1, 0, none⟩) 0 cn] 22 (0, 0)) := by rw [← hW8, alloc_at, if_neg (by simp only [World.size_alloc]; omega), alloc_at, if_neg (by simp only [World.size_alloc]; omega), alloc_at, if_neg (by simp only [World.size_alloc]; omega), alloc_at, if_pos (by simp only [World.size_alloc])]
    have at5 : W8.heap[w.heap.size + 5]? = some (.cells #[.string ⟨#[]⟩, .bool false, .int .u8 0, .int .i64 0, .slice none 0 0, .slice none 0 0, .int .i64 0] 59 (0, 0)) := by rw [← hW8, alloc_at, if_neg (by simp only [World.size_alloc]; omega), alloc_at, if_neg (by simp only [World.size_alloc]; omega), alloc_at, if_pos (by simp only [World.size_alloc])]
    have at6 : W8.heap[w.heap.size + 6]? = some (.cells #[.int .i64 0] 3 (0, 0)) := by rw [← hW8, alloc_at, if_neg (by simp only [World.size_alloc]; omega), alloc_at, if_pos (by simp only [World.size_alloc])]
    have hbl : Below w.heap.size w W8 := by
      rw [← hW8]
      exact ((((((((Below.refl _ w).alloc (Nat.le_refl _) _).alloc (by simp) _).alloc (by simp; omega) _).alloc (by simp; omega) _).alloc (by simp; omega) _).alloc (by simp; omega) _).alloc (by simp; omega) _).alloc (by simp; omega) _
    refine ⟨⟨⟨rfl, .inr ⟨w.heap.size + 3, cn, mc, rfl, Nat.le_refl _, at3, Nat.zero_le _, by unfold maxLen; omega, hmc, by simp⟩⟩, fun q hq => by cases hq⟩, at4, ⟨⟨at5⟩, by omega, World.ownsRow_nil _ _ _ _, World.ownsRow_nil _ _ _ _⟩, at6, (fun q hq => by cases hq), at0, at1, at2, hbl, by omega⟩
  have hbx : W8.cell? ⟨w.heap.size + 7, 0, none⟩ = some (.string S) := by
    have h9 : Boxed W8 (w.heap.size + 7) 9 (.string S) := by
      unfold Boxed
      rw [← hW8]
      rw [alloc_at, if_pos (by simp only [World.size_alloc])]
    exact h9.cell
  have hit := lines_iter S (w.heap.size + 7) W8 hS hbx
  have hsum : ∀ k, ((lns.take k).map List.length).sum ≤ 1000000 := fun k => by
    have := Lra.sum_take lns k
    rw [← hlns, Lra.linesL_flat, Lra.ints_len] at this
    rw [← hlns]; omega
  have hlen : lns.length ≤ 1000000 := by
    have := linesL_len (Lra.ints S)
    rw [Lra.ints_len] at this
    rw [← hlns]; omega
  unfold LineV at hit
  rw [hlns] at hit
  have HSUM := hid hsum
  have HLEN := hid hlen
  have HSZ := hid hsz
  clear hW8 hmc MK2 hsum hlen hc1
  generalize min (cn : Int) 4194304 = mn
  refine (wpIn_wide (n := 9)).1 ?_
  refine range_law rfl (enters_of Tryd.func44 (by kernel_rfl) rfl) hit (fun _ => rfl) ?hV (fun _ _ => trivial) (fun _ _ _ _ _ _ _ => trivial) (fun _ _ _ _ => trivial)
    (fun k W => Stand w lns k W) (fun cd _ W => Stop w lns cd W) ?hI ?hIx (fun k h => by cases h) ⟨[], _, _, _, _, _, _, _, _, _, _, rfl, hP0⟩
    (fun x => { tmps := #[Value.string S, undef, Value.pointer (some { block := w.heap.size, off := 0 }), Value.pointer (some { block := w.heap.size + 1, off := 0 }), Value.pointer (some { block := w.heap.size + 1 + 1, off := 0 }), Value.pointer (some { block := w.heap.size + 1 + 1 + 1 + 1, off := 0 }), Value.pointer (some { block := w.heap.size + 1 + 1 + 1 + 1 + 1, off := 0 }), Value.pointer (some { block := w.heap.size + 1 + 1 + 1 + 1 + 1 + 1, off := 0 }), x.1, x.2, Value.string S, Value.int IntKind.i64 ↑cn, Value.int IntKind.i64 mn, Value.slice (some { block := w.heap.size + 1 + 1 + 1, off := 0 }) 0 cn, Value.string S, Value.func (Fn.func 44) #[] #[Value.pointer (some { block := w.heap.size + 1 + 1 + 1 + 1 + 1 + 1 + 1, off := 0 })], x.1, x.2, undef, undef, undef, undef, undef, undef, undef, undef, undef, undef, undef, undef, undef, undef, undef, undef, undef, undef, undef, undef, undef], defers := [] }) ?assign ?body ?done ?stop
  case hV =>
    rintro k x A B h hb
    exact h
  case hI =>
    rintro k A B ⟨qs, v, rest, more, kd, id, ls, hs, it, lv, hv, h1, h2⟩ hb
    exact ⟨qs, v, rest, more, kd, id, ls, hs, it, lv, hv, h1, h2.book hb (by omega) (Nat.le_refl _)⟩
  case hIx =>
    rintro cd k A B ⟨h0, at_, h1, g0, g1, g2, g4⟩ hb
    exact ⟨h0, at_, h1, hb.boxed g0 (by simp), hb.boxed g1 (by simp), hb.boxed g2 (by simp), Book.below g4 (by omega) hb (by simp) (Nat.le_refl _)⟩
  case assign =>
    intro l m x W K hK
    gi_wp2
    exact hK
  case body =>
    rintro l m k ⟨x1, x2⟩ W hl hk ⟨qs, v, rest, more, kd, id, ls, hs, it, lv, hv, h1, h2⟩ ⟨L, hx1, hx2, hLi, hLs⟩
    dsimp only at hx1 hx2
    subst hx1 hx2
    obtain ⟨va, vc, rfl⟩ := own_slc h2.mem.row
    have C28 := read28 (w.heap.size + 8) (w.heap.size + 5) W L rest more kd id ls hs it lv hv h2.rd h2.sz (by omega)
    rw [hLi] at C28
    have hsplit : lns = lns.take k ++ lns.getD k [] :: lns.drop (k + 1) := by
      have := List.take_append_drop k lns
      rw [List.drop_eq_getElem_cons hk] at this
      simp only [List.getD, List.getElem?_eq_getElem hk, Option.getD_some]
      exact this.symm
    have htk : lns.take (k + 1) = lns.take k ++ [lns.getD k []] := by
      rw [List.take_succ_eq_append_getElem hk]; simp [List.getD, List.getElem?_eq_getElem hk]
    have hok := Lra.parseGo_ok h1
    generalize lns.getD k [] = ln at C28 hsplit htk
    have hqk : qs.length = k := by
      have := hok.1
      rw [List.length_take, List.length_map] at this
      simp at this
      omega
    cases hst : Lra.stepLine ln with
    | none =>
      have HE := hid (show Lra.parseGo [] lns = .error (k + 1) by
        rw [hsplit, Lra.parseGo_app, h1]
        show Lra.parseGo _ (ln :: _) = _
        rw [Lra.parseGo, hst, List.length_map, hqk])
      have K28 := hid (C28.mono (R' := fun e w' => e = .returned (.bool false) ∧ ∃ lv' hv', Mv (w.heap.size + 5) W w' lv hv lv' hv') (by
        rintro e w' (⟨_, he, hm⟩ | ⟨x, _, _, _, _, hx, _⟩)
        · exact ⟨he, hm⟩
        · rw [hst] at hx; cases hx))
      have HP := hid h2
      clear C28 hst hok hsplit htk h1 hqk hP0 hit hLi hbx h2
      gi_wp2_with (refine ⟨trivial, fun h => (by cases h), ?_⟩; gi_at_call 28; refine (CallsIn.inRound l (callsIn_wide.2 K28.out)).mono ?_; clear K28
                   rintro e3 W3 ⟨rfl, lv', hv', hm⟩
                   have q0 : Boxed W3 w.heap.size 22 (.slice none 0 0) := (HP.out.low hm (by omega) (by omega)).trans HP.out.r0
                   have q1 : Boxed W3 (w.heap.size + 1) 26 (.int .i64 0) := (HP.out.low hm (by omega) (by omega)).trans HP.out.r1
                   have q2 : Boxed W3 (w.heap.size + 2) 3 (.int .i64 0) := (HP.out.low hm (by omega) (by omega)).trans HP.out.r2
                   have z0 := q0.cell
                   have y0 := q0.frozen
                   have z1 := q1.cell
                   have y1 := q1.frozen
                   have z2 := q2.cell
                   have y2 := q2.frozen
                   have Q0 := hid q0
                   have Q1 := hid q1
                   have Q2 := hid q2
                   have HMV := hid hm
                   clear q0 q1 q2 hm)
      have q := HP.out
      refine ⟨(Mv.keeps q.rd HMV.out _).trans ((((KeepsOthers.setCell _ _ _).trans (KeepsOthers.setCell _ _ _)).trans (KeepsOthers.setCell _ _ _)).from _), rfl, k + 1, HE.out, ?_, ?_, ?_, ?_⟩
      · exact boxed_apart (boxed_apart (Q0.out.set _) (by omega)) (by omega)
      · exact boxed_apart ((boxed_apart Q1.out (by omega)).set _) (by omega)
      · exact (boxed_apart (boxed_apart Q2.out (by omega)) (by omega)).set _
      · exact ((((q.under HMV.out).setCell (p := ⟨w.heap.size, 0, none⟩) (Nat.le_refl _) _).setCell (p := ⟨w.heap.size + 1, 0, none⟩) (by dsimp only; omega) _).setCell (p := ⟨w.heap.size + 1 + 1, 0, none⟩) (by dsimp only; omega) _)
    | some x =>
      have hgood := Lra.stepLine_good hst
      have HE := hid (show ∀ q : Q, q.1 = x → Lra.parseGo [] (lns.take (k + 1)) = .ok ((qs ++ [q]).map (·.1)) by
        rintro q rfl
        rw [htk, Lra.parseGo_app, h1]
        show Lra.parseGo _ [ln] = _
        rw [Lra.parseGo, hst, List.map_append]; rfl)
      have K28 := hid (C28.mono (R' := fun e w' => e = .returned (.bool true) ∧ ∃ rest' more' lv' hv', RdO (w.heap.size + 8) (w.heap.size + 5) w' rest' more' x.kind x.id x.lits x.hints ((x.lits.length + x.hints.length : Nat) : Int) lv' hv' ∧ Mv (w.heap.size + 5) W w' lv hv lv' hv') (by
        rintro e w' (⟨hx, _⟩ | ⟨x', rest', more', lv', hv', hx, he, hr, hm⟩)
        · rw [hst] at hx; cases hx
        · rw [hst] at hx; cases hx; exact ⟨he, rest', more', lv', hv', hr, hm⟩))
      have hit1 : Lra.items (qs.map (·.1)) + (x.lits.length + x.hints.length) ≤ 1000000 := by
        have e1 := HSUM.out (k + 1)
        rw [htk, List.map_append, List.sum_append] at e1
        have e2 := hok.2.1
        simp [Lra.items_nil] at e2 e1
        have e3 := hgood.1
        omega
      have HXL := hid (show x.lits.length ≤ 16777216 ∧ x.hints.length ≤ 16777216 by omega)
      have HITM := hid (show ∀ q : Q, q.1 = x → Lra.items ((qs ++ [q]).map (·.1)) = Lra.items (qs.map (·.1)) + (x.lits.length + x.hints.length) by
        rintro q rfl
        rw [List.map_append, Lra.items_app]; simp [Lra.items])
      have HP := hid h2
      have hq1 : qs.length ≤ 1000000 := by rw [hqk]; have := HLEN.out; omega
      generalize hxn : x.lits.length + x.hints.length = xn at *
      generalize Lra.items (qs.map (·.1)) = tot at *
      clear C28 hst hok hsplit htk h1 hqk hP0 hit hLi hbx h2 hgood hxn
      have ht1 : (tot : Int) + xn ≤ 1000000 := by omega
      obtain ⟨nq, hnq⟩ : ∃ nq, qs.length = nq := ⟨_, rfl⟩
      have HNQ := hid hnq
      rw [hnq] at HP hq1
      have hq2 : ((nq : Int) == 4194304) = false := by rw [beq_eq_false_iff_ne]; omega
      clear hnq hit1
      gi_wp2_with (refine ⟨trivial, fun h => (by cases h), ?_⟩; gi_at_call 28; refine (CallsIn.inRound l (callsIn_wide.2 K28.out)).mono ?_; clear K28
                   rintro e3 W3 ⟨rfl, rest', more', lv', hv', hr, hm⟩
                   have HKF := hid (Mv.keeps HP.out.rd hm W8.heap.size)
                   have hp3 := HP.out.read hm hr
                   have z6 := hp3.bi.cell
                   have y6 := hp3.bi.frozen
                   have z5 := hp3.rd.rd.cells 6 _ rfl
                   have hp4 := hp3.count (tot + xn)
                   rw [show ((tot + xn : Nat) : Int) = (tot : Int) + xn from by push_cast; rfl] at hp4
                   have z4 := hp4.bl.cell
                   have y4 := hp4.bl.frozen
                   have z6' := hp4.bi.cell
                   have HP4 := hid hp4
                   clear hp4 hp3 hr hm HP)
      obtain ⟨W4, hW4⟩ : ∃ W4, W3.setCell ⟨w.heap.size + 6, 0, none⟩ (.int .i64 ((tot : Int) + xn)) = W4 := ⟨_, rfl⟩
      have hW4' : W3.setCell ⟨w.heap.size + 1 + 1 + 1 + 1 + 1 + 1, 0, none⟩ (.int .i64 ((tot : Int) + xn)) = W4 := hW4
      have HK4 := hid (show KeepsFrom W8.heap.size W W4 by rw [← hW4]; exact HKF.out.trans ((KeepsOthers.setCell _ _ _).from _))
      rw [hW4] at HP4 z4 y4 z6'
      rw [hW4']
      clear hW4 hW4' z5 z6 y6 z6' HKF
      refine region12 HP4.out HNQ.out (by omega) HXL.out.1 HXL.out.2 ?_ _ _ _ _ _ _ _ _ _ _ _ _ _ _ _ _ _ _ _ _ _ _ _ _ _ _ _ _ _ _ _ _ _ _ _ _ _
      intro q v' W' a' hqx hp hk'
      exact ⟨HK4.out.trans (hk' _), trivial, qs ++ [q], v', _, _, _, _, _, _, _, _, _, HE.out q hqx, (by rw [HITM.out q hqx]; exact hp)⟩
  case done =>
    rintro D W hD hE ⟨qs, v, rest, more, kd, id, ls, hs, it, lv, hv, h1, h2⟩ hdef
    rw [List.take_length] at h1
    obtain ⟨va, vc, rfl⟩ := own_slc h2.mem.row
    have z4 := h2.bl.cell
    have z0 := h2.r0.cell
    have y0 := h2.r0.frozen
    have z1 := h2.r1.cell
    have y1 := h2.r1.frozen
    have z2 := h2.r2.cell
    have y2 := h2.r2.frozen
    have HM := hid ((Marks.nil W8.heap.size W).cons hD hdef (by simp))
    have HP := hid h2
    have H1 := hid h1
    clear h1 h2 hP0 hit hE hdef hbx
    go_wp2
    refine leave_marks (Marks.set (Marks.set (Marks.set HM.out _ _) _ _) _ _) fun W2 hb => ?_
    have q := HP.out
    have hM := ((q.mem.set (b := w.heap.size) (k := 0) (by omega) (.slice va qs.length vc)).set (b := w.heap.size + 1) (k := 0) (by omega) (.int .i64 0)).set (b := w.heap.size + 1 + 1) (k := 0) (by omega) (.int .i64 0)
    refine ⟨_, results_cells3 rfl _ _ rfl rfl rfl (load_box22 _ (hb.boxed (boxed_apart (boxed_apart (q.r0.set _) (by omega)) (by omega)) (by simp))) (load_box26 _ (hb.boxed (boxed_apart ((boxed_apart q.r1 (by omega)).set _) (by omega)) (by simp))) (load_box3 _ (hb.boxed ((boxed_apart (boxed_apart q.r2 (by omega)) (by omega)).set _) (by simp))), .inr ⟨qs, _, H1.out, rfl, ?_, ?_⟩⟩
    · exact (hM.same (fun i o h1 h2 => hb.same i o h1 (by simp) (.inr h2))).base (by omega)
    · exact Book.below (((q.bw.setCell (p := ⟨w.heap.size, 0, none⟩) (Nat.le_refl _) _).setCell (p := ⟨w.heap.size + 1, 0, none⟩) (by dsimp only; omega) _).setCell (p := ⟨w.heap.size + 1 + 1, 0, none⟩) (by dsimp only; omega) _) (by omega) hb (by simp) (Nat.le_refl _)
  case stop =>
    rintro D cd k W hD hk ⟨rfl, at_, h1, g0, g1, g2, g4⟩ hdef
    have HM := hid ((Marks.nil W8.heap.size W).cons hD hdef (by simp))
    have GG := hid (And.intro h1 (And.intro g0 (And.intro g1 (And.intro g2 g4))))
    clear h1 g0 g1 g2 g4 hP0 hit hdef hbx
    gi_wp2
    obtain ⟨h1, g0, g1, g2, g4⟩ := GG.out
    refine leave_marks HM.out fun W2 hb => ?_
    exact ⟨_, results_cells3 rfl _ _ rfl rfl rfl (load_box22 _ (hb.boxed g0 (by simp))) (load_box26 _ (hb.boxed g1 (by simp))) (load_box3 _ (hb.boxed g2 (by simp))), .inl ⟨at_, h1, rfl, Book.below g4 (by omega) hb (by simp) (Nat.le_refl _)⟩⟩
end Go.Proofs.YtdodfmgbjfhnpaaDoor
