/- Entries: what it tells. -/
import Derived.Test.YthpebfojkpnojaaGreatJbh
import Derived.Test.YthpebfojkpnojaaGreatJbi
import Derived.Test.YthpebfojkpnojaaGreatJbp
import Derived.Test.YthpebfojkpnojaaGreatJag
/- Entries: what it tells. -/
namespace Go.Proofs.YthpebfojkpnojaaGreat
open Go.RowKit Go.Maps
set_option linter.unusedVariables false
set_option linter.unusedSimpArgs false
set_option maxRecDepth 100000
abbrev EnM := Bas.E × Option Addr × Nat
def enq (q : EnM) : List Value := [.int .i64 q.1.id, .slice q.2.1 q.1.lits.length q.2.2, .bool q.1.red]
/-- Entries as they lie: a row of one's own, each clause in a row of its own. -/
structure EnR (base : Nat) (lb : Nat) (L : List Bas.E) (v : Value) (w : World) (Q : List EnM) : Prop where
  own : w.ownsRow base 83 3 v L.length (Q.flatMap enq)
  ent : Q.map (·.1) = L
  rows : ∀ q ∈ Q, LI (fun g => g = lb) w q.2.1 q.1.lits ∧ ∀ b off, q.2.1 = some ⟨b, off, none⟩ → base ≤ b
def EntC (L : List Bas.E) (W : World) (en : Ending) (w' : World) : Prop := ∃ lb c Q, en = .returned (.slice (some ⟨lb, 0, none⟩) L.length c) ∧ EnR W.heap.size lb L (.slice (some ⟨lb, 0, none⟩) L.length c) w' Q ∧ Below W.heap.size W w'
theorem Bs.lookL {M : Nat → Prop} {bb K : Nat} {s : Bas.S} {W : World} (h : Bs M bb K s W) {bm : Nat} (x3 : W.cell? ⟨bb, 3, none⟩ = some (.map (some bm))) (X : World) (hX : Below W.heap.size W X) (e : Bas.E) (hi : I64 e.id) (he : Bas.look s.live e.id = some e) :
    X.cell? ⟨bb, 3, none⟩ = some (.map (some bm)) ∧ ∃ ea ec, (Instr.lookup 71 (.map (some bm)) (.int .i64 e.id) false).run Tryz.prog X = .ok (.agg #[.int .i64 e.id, .slice ea e.lits.length ec, .bool e.red]) X ∧ Lits X ea e.lits := by
  obtain ⟨hv, bm', br, k, k2, f, g, rv, sv, tv, R, Z, rw', ids, iv, hb, m1, m2, m3, hne, ⟨a1, a2, a3⟩, _⟩ := h.below hX
  have y3 : X.cell? ⟨bb, 3, none⟩ = some (.map (some bm')) := row_cell hb 3
  have y3' := (hX.cell (p := ⟨bb, 3, none⟩) (cell_lt x3)).trans x3
  rw [y3] at y3'
  injection y3' with y3'
  injection y3' with y3'
  injection y3' with y3'
  subst y3'
  refine ⟨y3, ?_⟩
  have hlk := a1.look1 hi
  have hE := a3 e.id hi
  rw [he] at hE
  obtain ⟨a9, c9, hf, hr, _⟩ := hE
  rw [hf] at hlk
  exact ⟨a9, c9, hlk, hr.1⟩
set_option maxHeartbeats 8000000 in
theorem entries14c {M : Nat → Prop} {bb K : Nat} {s : Bas.S} {W : World} (h : Bs M bb K s W) (hg0 : Bas.Good s) (hL0 : s.last ≤ 1000000000) (hlen : ∀ e ∈ s.live, e.lits.length ≤ 16777216) {bm k : Nat} {D : DataW Value} (x3 : W.cell? ⟨bb, 3, none⟩ = some (.map (some bm))) (hD : W.ownsMap Tryz.prog 2 raw bm k D) (n : Nat) (hsz : Maps.size D = n) (hn5 : n ≤ 5500000) (hnl : s.live.length = n) (hK : KeysC W bm (s.live.map (·.id))) :
    Calls Tryz.prog 18 #[.pointer (some ⟨bb, 0, none⟩)] W fun en w' => EntC s.live W en w' := by
  obtain ⟨ids, hide⟩ : ∃ ids, s.live.map (·.id) = ids := ⟨_, rfl⟩
  rw [hide] at hK
  have hids : ids.length = n := by rw [← hide, List.length_map, hnl]
  have HLK := hid (fun (k : Nat) (hk : k < s.live.length) (X : World) (hX : Below W.heap.size W X) => show ids.getD k 0 = s.live[k].id ∧ s.live[k].lits.length ≤ 16777216 ∧ X.cell? ⟨bb, 3, none⟩ = some (.map (some bm)) ∧ ∃ ea ec, (Instr.lookup 71 (.map (some bm)) (.int .i64 s.live[k].id) false).run Tryz.prog X = .ok (.agg #[.int .i64 s.live[k].id, .slice ea s.live[k].lits.length ec, .bool s.live[k].red]) X ∧ Lits X ea s.live[k].lits from by
    have hm : s.live[k] ∈ s.live := List.getElem_mem hk
    have hi := hg0.ids _ hm
    refine ⟨by rw [← hide]; simp [List.getD, hk], hlen _ hm, ?_⟩
    exact h.lookL x3 X hX s.live[k] ⟨by omega, by omega⟩ (Bas.look_of_mem hg0.sorted hm))
  have HNL := hid hnl
  have HX3 := hid (fun X (hX : Below W.heap.size W X) => (hX.cell (p := ⟨bb, 3, none⟩) (cell_lt x3)).trans x3)
  have HK := hid hK
  have HI := hid hids
  obtain ⟨i0, hi, hz⟩ := Option.map_eq_some_iff.1 info32
  simp only [Prod.mk.injEq] at hz
  have hmk := fun W => run_makeSlice (P := Tryz.prog) W 48 83 i0 (.agg #[.int .i64 0, .slice none 0 0, .bool false]) Tryz.underlying48 hi hz.1 .i64 .i64 (0 : Int) (n : Int) (by omega) (by omega) (by rw [hz.2.1]; omega) (by rw [hz.2.2]; omega) (by omega)
  simp only [hz.2.1, Int.toNat_natCast] at hmk
  have hB1 := below_box W (.cells (madeCells (Value.agg #[.int .i64 0, .slice none 0 0, .bool false]).cells (n * 3)) 83)
  have hg1 := heap_alloc_new W (.cells (madeCells (Value.agg #[.int .i64 0, .slice none 0 0, .bool false]).cells (n * 3)) 83)
  have hmk1 := hmk W
  clear hmk
  generalize hW1 : W.alloc (.cells (madeCells (Value.agg #[.int .i64 0, .slice none 0 0, .bool false]).cells (n * 3)) 83) = W1 at hB1 hg1 hmk1
  have hmk1' : (Instr.makeSlice 48 (.int .i64 0) (.int .i64 n)).run Tryz.prog W = .ok (.slice (some ⟨W.heap.size, 0, none⟩) 0 n) W1 := hmk1
  have y3 : W1.cell? ⟨bb, 3, none⟩ = some (.map (some bm)) := (hB1.cell (p := ⟨bb, 3, none⟩) (cell_lt x3)).trans x3
  have HO1 := hid (show W1.ownsRow W.heap.size 83 3 (.slice (some ⟨W.heap.size, 0, none⟩) 0 n) 0 [] from ⟨rfl, .inr ⟨W.heap.size, n, _, rfl, Nat.le_refl _, hg1, Nat.zero_le _, by unfold maxLen; omega, by rw [size_madeCells], by simp⟩⟩)
  have HB1 := hid hB1
  have HG1 := hid (lt_of_blk hg1)
  have C40 := hid (hK.1 W1)
  have C39 := hid (hK.2 W1 hB1)
  rw [hids] at C39
  have hlen1 : (Builtin.len_ #[71] 3 #[.map (some bm)]).run Tryz.prog W = .ok (.int .i64 n) W := by rw [← hsz]; exact hD.len Tryz.underlying71 3
  clear h hids hK hi hz hlen hg1 hB1 hW1 hmk1 HK hide hg0 hnl
  go_enter Tryz.func18, Tryz.ntmps18
  go_wp2_with (first
    | (at_len; refine wpList_len_own _ rfl _ 71 rfl 2 83 Tryz.underlying71 raw bm k D rfl hD ?_; rw [hsz])
    | (go_at_call 65; refine C40.out.mono ?_; clear C40; rintro e w' ⟨rfl, hw⟩; rw [hw]; clear hw)
    | (go_at_call 64; refine C39.out.mono ?_; clear C39; rintro e W2 ⟨ao, ac, rfl, hO2, hB2⟩; have HO2 := hid hO2; have HB2 := hid hB2; clear hO2 hB2))
  have HP0 := hid (show ∀ g, ao = some ⟨g, 0, none⟩ → W2.heap[g]? = W2.heap[g]? ∧ W.heap.size ≠ g from fun g hg => ⟨rfl, by
    rcases HO2.out.2 with ⟨e, h0⟩ | ⟨g', c', cur, e, hb, _⟩
    · rw [hg] at e; cases e
    · rw [hg] at e; cases e; have := HG1.out; omega⟩)
  have HO20 := hid (show W2.ownsRow W.heap.size 83 3 (.slice (some ⟨W.heap.size, 0, none⟩) 0 n) 0 [] from own_below HO1.out HB2.out)
  have HB20 := hid (HB1.out.trans (HB2.out.mono HB1.out.size))
  clear HO1 y3 hmk1' hlen1 hD
  have HQ0 := hid (show EnR W.heap.size W.heap.size (s.live.take 0) (.slice (some ⟨W.heap.size, 0, none⟩) 0 n) W2 [] from ⟨HO20.out, rfl, fun q hq => by cases hq⟩)
  go_loopw [3, 22] (fun lv iv wr => ∃ (k2 : Nat) (lb : Nat) (lc : Nat) (Q : List EnM), k2 ≤ n ∧ iv = .int .i64 k2 ∧ lv = .slice (some ⟨lb, 0, none⟩) k2 lc ∧ Hid (EnR W.heap.size lb (s.live.take k2) (.slice (some ⟨lb, 0, none⟩) k2 lc) wr Q) ∧ Hid (∀ g, ao = some ⟨g, 0, none⟩ → wr.heap[g]? = W2.heap[g]? ∧ lb ≠ g) ∧ Hid (Below W.heap.size W wr) ∧ Hid (W2.heap.size ≤ wr.heap.size)) (fun _ iv _ => n - (intOf iv).toNat)
  case atStart => exact ⟨0, W.heap.size, n, [], Nat.zero_le _, rfl, rfl, HQ0, HP0, HB20, hid (Nat.le_refl _)⟩
  case round =>
    clear HO20 HP0 HB20 HQ0
    obtain ⟨k2, lb, lc, Q, hk2, rfl, rfl, HQ, HP, HB, HSZ⟩ := hrel
    have HO := hid (show wr.ownsRow W.heap.size 83 3 (.slice (some ⟨lb, 0, none⟩) k2 lc) k2 (Q.flatMap enq) from by
      have h := HQ.out.own
      rw [List.length_take, Nat.min_eq_left (by rw [HNL.out]; exact hk2)] at h
      exact h)
    by_cases hlt : k2 < n
    · have hlt' : (k2 : Int) < n := by omega
      obtain ⟨gk, gc, cur, e2, _, hg2, _, _, _, h72⟩ := own_some HO2.out (by omega)
      cases e2
      have hgl : gk < W2.heap.size := lt_of_blk hg2
      have hgr := ((HP.out gk rfl).1).trans hg2
      have hix : ids[k2]? = some (ids.getD k2 0) := by rw [List.getD_eq_getElem?_getD, List.getElem?_eq_getElem (by rw [HI.out]; exact hlt)]; rfl
      have hcell : wr.cell? ⟨gk, k2, none⟩ = some (.int .i64 (ids.getD k2 0)) := by
        rw [row_cell hgr]
        have := congrArg (fun l => l[k2]?) h72
        simp only [List.getElem?_map, hix] at this
        rw [List.getElem?_take_of_lt hlt, Array.getElem?_toList] at this
        simpa using this
      have hkl : k2 < s.live.length := by rw [HNL.out]; exact hlt
      obtain ⟨hid2, hyN, z3, ea, ec, hlk, hLy⟩ := HLK.out k2 hkl wr HB.out
      rw [hid2] at hcell
      have HTK := hid (show s.live.take (k2 + 1) = s.live.take k2 ++ [s.live[k2]] from List.take_succ_eq_append_getElem hkl)
      generalize s.live[k2] = e at hcell hyN hlk hLy HTK
      obtain ⟨ei, ys, er⟩ := e
      simp only at hcell hyN hlk hLy
      obtain ⟨en, hyn⟩ : ∃ en, ys.length = en := ⟨_, rfl⟩
      rw [hyn] at hyN hlk
      have HYN := hid hyn
      have C31 := hid (fun X (hX : Below wr.heap.size wr X) => clone31 ea en ec ys X hyn hyN (hLy.below hX))
      have HYR := hid hLy.1
      have POST := hid (fun (w4 : World) (hb4 : Below (wr.alloc (.cells #[.int .i64 ei, .slice ea en ec, .bool er] 83)).heap.size (wr.alloc (.cells #[.int .i64 ei, .slice ea en ec, .bool er] 83)) w4) => show w4.heap[wr.heap.size]? = some (.cells #[.int .i64 ei, .slice ea en ec, .bool er] 83 (0, 0)) ∧ Below wr.heap.size wr w4 from
        ⟨(hb4.block wr.heap.size (by simp)).trans (heap_alloc_new wr _), (below_box wr _).trans (hb4.mono (by simp))⟩)
      have PUSH := hid (fun (W5 : World) (o : Option Addr) (kc : Nat) (hb5 : Below wr.heap.size wr W5) => push32 (own_below HO.out hb5) ei o en kc er (Nat.le_trans HB.out.size hb5.size) (by omega))
      have NEXT := hid (fun (W5 B : World) (o : Option Addr) (kc g : Nat) (hb5 : Below wr.heap.size wr W5) (gr : (W5.alloc (.cells #[.int .i64 ei, .slice o en kc, .bool er] 83)).grownBy B (Value.slice (some ⟨lb, 0, none⟩) k2 lc).ownBlock) (hg : (Value.slice (some ⟨lb, 0, none⟩) k2 lc).ownBlock = some g ∨ g = W5.heap.size + 1) => show (∀ q, (some ⟨gk, 0, none⟩ : Option Addr) = some ⟨q, 0, none⟩ → B.heap[q]? = W2.heap[q]? ∧ g ≠ q) ∧ Below W.heap.size W B ∧ W2.heap.size ≤ B.heap.size from by
        have hbx := below_box W5 (.cells #[.int .i64 ei, .slice o en kc, .bool er] 83)
        have s1 := HSZ.out
        have s2 := hb5.size
        have hB5 : Below W.heap.size W (W5.alloc (.cells #[.int .i64 ei, .slice o en kc, .bool er] 83)) := (HB.out.trans (hb5.mono HB.out.size)).trans (hbx.mono (Nat.le_trans HB.out.size hb5.size))
        refine ⟨fun q hq => ?_, below_grown hB5 gr (fun q hq => (own_blk HO.out hq).1) hB5.size, Nat.le_trans (Nat.le_trans s1 s2) (Nat.le_trans hbx.size gr.size)⟩
        cases hq
        obtain ⟨p1, p2⟩ := HP.out gk rfl
        refine ⟨?_, ?_⟩
        · rw [gr.block gk (by have := hbx.size; omega) (fun e => by simp [Value.ownBlock] at e; exact p2 e.symm), hbx.block gk (by omega), hb5.block gk (by omega)]
          exact p1
        · rcases hg with hg | hg
          · simp [Value.ownBlock] at hg; omega
          · omega)
      have NROW := hid (fun (W5 B : World) (o : Option Addr) (kc g c9 : Nat) (hb5 : Below wr.heap.size wr W5) (ho : W5.ownsRow (wr.heap.size + 1) 66 1 (.slice o en kc) en (ys.map (Value.int .i32))) (gr : (W5.alloc (.cells #[.int .i64 ei, .slice o en kc, .bool er] 83)).grownBy B (Value.slice (some ⟨lb, 0, none⟩) k2 lc).ownBlock) (hg : (Value.slice (some ⟨lb, 0, none⟩) k2 lc).ownBlock = some g ∨ g = W5.heap.size + 1) (hb9 : B.ownsRow W.heap.size 83 3 (.slice (some ⟨g, 0, none⟩) (k2 + 1) c9) (k2 + 1) (Q.flatMap enq ++ [.int .i64 ei, .slice o en kc, .bool er])) => show EnR W.heap.size g (s.live.take (k2 + 1)) (.slice (some ⟨g, 0, none⟩) (k2 + 1) c9) B (Q ++ [(⟨ei, ys, er⟩, o, kc)]) from by
        have hbx := below_box W5 (.cells #[.int .i64 ei, .slice o en kc, .bool er] 83)
        obtain ⟨_, cur, hlb⟩ := own_blk HO.out (show (Value.slice (some ⟨lb, 0, none⟩) k2 lc).ownBlock = some lb from rfl)
        have hlb' := lt_of_blk hlb
        have hM : ∀ k, (Value.slice (some ⟨lb, 0, none⟩) k2 lc).ownBlock = some k → (fun g => g = lb) k := fun k hk => by simpa [Value.ownBlock] using hk.symm
        have f5 : Fm (fun g => g = lb) W5 B := (Fm.of_below hbx).trans (Fm.grown gr hM) (Mn.refl _ _)
        have f : Fm (fun g => g = lb) wr B := (Fm.of_below hb5).trans f5 (Mn.refl _ _)
        have hN5 : Mn W5 (fun g => g = lb) (fun q => q = g) := fun q hq => by
          subst hq
          rcases hg with h | h
          · left; simp [Value.ownBlock] at h; exact h.symm
          · right; omega
        have hN : Mn wr (fun g => g = lb) (fun q => q = g) := fun q hq => by
          rcases hN5 q hq with h | h
          · exact .inl h
          · exact .inr (Nat.le_trans hb5.size h)
        have hRI := (own_RI (M1 := fun g => g = lb) ho HYN.out HYR.out (fun g hg => by subst hg; omega)).1
        refine ⟨?_, by rw [List.map_append, HQ.out.ent, HTK.out]; rfl, fun q hq => ?_⟩
        · rw [HTK.out, List.length_append, List.length_take, Nat.min_eq_left (by rw [HNL.out]; exact hk2), List.flatMap_append]
          have : [((⟨ei, ys, er⟩, o, kc) : EnM)].flatMap enq = [.int .i64 ei, .slice o en kc, .bool er] := by simp [enq, HYN.out]
          rw [this]
          exact hb9
        · rcases List.mem_append.1 hq with hq | hq
          · exact ⟨(HQ.out.rows q hq).1.fm f hN, (HQ.out.rows q hq).2⟩
          · obtain rfl := List.mem_singleton.1 hq
            refine ⟨hRI.fm f5 hN5, fun b off e => ?_⟩
            rcases ho.2 with ⟨e1, _⟩ | ⟨g', c', cur', e1, hbb, _⟩
            · cases e1; cases e
            · cases e1; cases e; have := HB.out.size; omega)
      clear hg2 h72 hgr hLy hix hid2 hkl hyn
      go_wp2_with (first
        | (go_at_call 35; go_loud (refine (C31.out _ (below_box _ _)).mono ?_; clear C31; rintro e w4 ⟨o, kc, rfl, ho, hb4⟩
                                   obtain ⟨G1, B4⟩ := POST.out w4 hb4
                                   have g10 : w4.cell? ⟨wr.heap.size, 0, none⟩ = some (.int .i64 ei) := row_cell G1 0
                                   have g11 : w4.cell? ⟨wr.heap.size, 1, none⟩ = some (.slice ea en ec) := row_cell G1 1
                                   have f11 := row_frozen G1 1
                                   have g12 : w4.cell? ⟨wr.heap.size, 2, none⟩ = some (.bool er) := row_cell G1 2
                                   have B5 : Below wr.heap.size wr (w4.setCell ⟨wr.heap.size, 1, none⟩ (.slice o en kc)) := B4.setCell (Nat.le_refl _) _
                                   obtain ⟨g9, c9, B, r9, o9, gr9, w9⟩ := PUSH.out _ o kc B5
                                   rw [show (w4.setCell ⟨wr.heap.size, 1, none⟩ (.slice o en kc)).heap.size = w4.heap.size by simp [World.setCell]] at r9
                                   have R9 := hid r9
                                   have O9 := hid o9
                                   have N9 := hid (NEXT.out _ B o kc g9 B5 gr9 w9)
                                   have QN := hid (NROW.out _ B o kc g9 c9 B5 (own_set (by simpa using ho) (by simp) _) gr9 w9 o9)
                                   clear ho hb4 G1 r9 o9 gr9 w9 B5 B4 PUSH NEXT POST NROW))
        | (at_builtin; refine wpList_append_run rfl (.tmp 36) (.tmp 38) 48 48 rfl rfl rfl R9.out ?_))
      go_roundw
      case rel => exact ⟨k2 + 1, g9, c9, _, by omega, by go_num, rfl, QN, hid N9.out.1, hid N9.out.2.1, hid N9.out.2.2⟩
      case measure => simp [intOf]; omega
    · have hge : ¬ (k2 : Int) < n := by omega
      obtain rfl : k2 = n := by omega
      have HF := hid (show EntC s.live W (.returned (.slice (some ⟨lb, 0, none⟩) k2 lc)) wr from by
        have h := HQ.out
        rw [List.take_of_length_le (by rw [HNL.out]; exact Nat.le_refl _)] at h
        refine ⟨lb, lc, Q, by rw [HNL.out], ?_, HB.out⟩
        rw [HNL.out]
        exact h)
      go_wp2_with fail
      go_ret
      exact HF.out
end Go.Proofs.YthpebfojkpnojaaGreat

/- What a base of blocks of its own tells. -/
namespace Go.Proofs.YthpebfojkpnojaaGreat
open Go.RowKit Go.Maps
set_option linter.unusedVariables false
set_option linter.unusedSimpArgs false
set_option maxRecDepth 100000
theorem Bst.entriesC {w : World} {bb B : Nat} {s : Bas.S} {X : World} (h : Bst w bb B s X) (hg : Bas.Good s) (hL : s.last ≤ 1000000000) (hB : B ≤ 100000000) (hlen : ∀ e ∈ s.live, e.lits.length ≤ 16777216) (hn : s.live.length ≤ 5500000) :
    Calls Tryz.prog 18 #[.pointer (some ⟨bb, 0, none⟩)] X fun en w' => EntC s.live X en w' ∧ Bst w bb B s w' := by
  have h' := h
  obtain ⟨M, K, h1, h2, h3, h4⟩ := h
  obtain ⟨bm, k, D, x3, hk, hown, hsz, hss⟩ := keys_perm h1 hg hL
  refine (entries14c h1 hg hL hlen x3 hown s.live.length hsz hn rfl (keysC hown (by omega) _ hss)).mono ?_
  rintro en w' ⟨lb, c, Q, e, q1, q2⟩
  exact ⟨⟨lb, c, Q, e, q1, q2⟩, h'.below q2⟩
theorem Bst.occurs {w : World} {bb B : Nat} {s : Bas.S} {X : World} (h : Bst w bb B s X) (hL : s.last ≤ 100000000) (l : Int) (hl : I32 l) :
    Calls Tryz.prog 62 #[.pointer (some ⟨bb, 0, none⟩), .int .i32 l] X fun e w' => IntsOut X.heap.size (Bas.occ s.live l) e w' ∧ Bst w bb B s w' ∧ Below X.heap.size X w' := by
  have h' := h
  obtain ⟨M, K, h1, h2, h3, h4⟩ := h
  refine (occurs15 h1 hL l hl).mono ?_
  rintro en w' ⟨q1, q2⟩
  exact ⟨q1, h'.below q2, q2⟩
end Go.Proofs.YthpebfojkpnojaaGreat

/- own: a clause and hints of their own. -/
namespace Go.Proofs.YthpebfojkpnojaaGreat
open Go.RowKit Go.Maps
set_option linter.unusedVariables false
set_option linter.unusedSimpArgs false
set_option maxRecDepth 100000
theorem row_news {k : IntKind} {lo hi : Int} {W : World} {ad : Addr} {xs : List Int} (h : Row k lo hi W (some ad) xs) : ∀ j u, (xs.map (Value.int k))[j]? = some u → W.cell? (ad.add j) = some u := by
  intro j u hu
  rw [List.getElem?_map] at hu
  obtain ⟨x, hx', rfl⟩ := Option.map_eq_some_iff.1 hu
  have hj : j < xs.length := by
    rcases Nat.lt_or_ge j xs.length with h' | h'
    · exact h'
    · rw [List.getElem?_eq_none h'] at hx'; cases hx'
  obtain ⟨b, off, e, _, hc, _, _⟩ := Row.at h hj
  cases e
  rw [show (⟨b, off, none⟩ : Addr).add j = ⟨b, off + j, none⟩ by simp [Addr.add], hc]
  simp [List.getD, hx']
theorem app23 {W : World} {base : Nat} (hb : base ≤ W.heap.size) (ad : Addr) (n c : Nat) (xs : List Int) (hn : xs.length = n) (hN : n ≤ 16777216) (hx : Lits W (some ad) xs) :
    ∃ o k B, (Builtin.append_ #[38, 38] 38 #[.slice none 0 0, .slice (some ad) n c]).run Tryz.prog W = .ok (.slice o n k) B ∧ B.ownsRow base 66 1 (.slice o n k) n (xs.map (Value.int .i32)) ∧ Below W.heap.size W B := by
  obtain ⟨i0, hi, hz⟩ := Option.map_eq_some_iff.1 info45
  simp only [Prod.mk.injEq] at hz
  obtain ⟨v2, B, hr, ho2, hgb, _, _⟩ := run_append_own_at (P := Tryz.prog) W base 38 38 66 i0 _ 1 4 Tryz.underlying38 hi hz.1 hz.2.1 hz.2.2 rfl (by decide) (.slice none 0 0) 0 [] (World.ownsRow_nil _ _ _ _) ad n c (xs.map (Value.int .i32)) (by simp [hn]) (row_news hx) (one_ints _ _) (by simp [maxLen]; omega) (by omega) hb
  obtain ⟨o, k, rfl⟩ := own_slc ho2
  rw [Nat.zero_add] at hr ho2
  rw [List.nil_append] at ho2
  exact ⟨o, k, B, hr, ho2, below_grown (Below.refl _ _) hgb (fun q hq => by cases hq) (Nat.le_refl _)⟩
theorem app24 {W : World} {base : Nat} (hb : base ≤ W.heap.size) (ad : Addr) (n c : Nat) (xs : List Int) (hn : xs.length = n) (hN : n ≤ 16777216) (hx : Hnts W (some ad) xs) :
    ∃ o k B, (Builtin.append_ #[39, 39] 39 #[.slice none 0 0, .slice (some ad) n c]).run Tryz.prog W = .ok (.slice o n k) B ∧ B.ownsRow base 2 1 (.slice o n k) n (xs.map (Value.int .i64)) ∧ Below W.heap.size W B := by
  obtain ⟨i0, hi, hz⟩ := Option.map_eq_some_iff.1 info2
  simp only [Prod.mk.injEq] at hz
  obtain ⟨v2, B, hr, ho2, hgb, _, _⟩ := run_append_own_at (P := Tryz.prog) W base 39 39 2 i0 _ 1 8 Tryz.underlying39 hi hz.1 hz.2.1 hz.2.2 rfl (by decide) (.slice none 0 0) 0 [] (World.ownsRow_nil _ _ _ _) ad n c (xs.map (Value.int .i64)) (by simp [hn]) (row_news hx) (one_ints _ _) (by simp [maxLen]; omega) (by omega) hb
  obtain ⟨o, k, rfl⟩ := own_slc ho2
  rw [Nat.zero_add] at hr ho2
  rw [List.nil_append] at ho2
  exact ⟨o, k, B, hr, ho2, below_grown (Below.refl _ _) hgb (fun q hq => by cases hq) (Nat.le_refl _)⟩
def OwnOut (w : World) (n : Nat) (xs : List Int) (n2 : Nat) (hs : List Int) (e : Ending) (w' : World) : Prop :=
  ∃ o k o2 k2, e = .returned (.tuple #[.slice o n k, .slice o2 n2 k2]) ∧ w'.ownsRow (w.heap.size + 1) 66 1 (.slice o n k) n (xs.map (Value.int .i32)) ∧ w'.ownsRow (w.heap.size + 1) 2 1 (.slice o2 n2 k2) n2 (hs.map (Value.int .i64)) ∧ Below w.heap.size w w'
set_option maxHeartbeats 4000000 in
theorem own24 (k id by_ : Int) (a : Option Addr) (n c : Nat) (xs : List Int) (a2 : Option Addr) (n2 c2 : Nat) (hs : List Int) (red : Bool) (w : World) (hn : xs.length = n) (hn2 : hs.length = n2) (hN : n ≤ 16777216) (hN2 : n2 ≤ 16777216) (hx : Lits w a xs) (hh : Hnts w a2 hs) :
    Calls Tryz.prog 19 #[.agg #[.int .i64 k, .int .i64 id, .int .i64 by_, .slice a n c, .slice a2 n2 c2, .bool red]] w fun e w' => OwnOut w n xs n2 hs e w' := by
  have hB := below_box w (.cells #[.int .i64 k, .int .i64 id, .int .i64 by_, .slice a n c, .slice a2 n2 c2, .bool red] 41)
  have hx1 := heap_alloc_new w (.cells #[.int .i64 k, .int .i64 id, .int .i64 by_, .slice a n c, .slice a2 n2 c2, .bool red] 41)
  have hsz : (w.alloc (.cells #[.int .i64 k, .int .i64 id, .int .i64 by_, .slice a n c, .slice a2 n2 c2, .bool red] 41)).heap.size = w.heap.size + 1 := alloc_size _ _
  generalize hW1 : w.alloc (.cells #[.int .i64 k, .int .i64 id, .int .i64 by_, .slice a n c, .slice a2 n2 c2, .bool red] 41) = W1 at hB hx1 hsz
  have p3 : W1.cell? ⟨w.heap.size, 3, none⟩ = some (.slice a n c) := row_cell hx1 3
  have p4 : W1.cell? ⟨w.heap.size, 4, none⟩ = some (.slice a2 n2 c2) := row_cell hx1 4
  have HB := hid hB
  cases a with
  | none =>
    have hx0 : xs = [] := by
      rcases hx.2 with h | ⟨b, off, e, _⟩
      · exact h
      · cases e
    subst hx0
    obtain rfl : n = 0 := by simpa using hn.symm
    cases a2 with
    | none =>
      have hh0 : hs = [] := by
        rcases hh.2 with h | ⟨b, off, e, _⟩
        · exact h
        · cases e
      subst hh0
      obtain rfl : n2 = 0 := by simpa using hn2.symm
      clear hx hh hn hn2 hB hx1
      go_enter Tryz.func19, Tryz.ntmps19
      go_wp2_with fail
      go_ret2
      exact ⟨none, 0, none, 0, rfl, World.ownsRow_nil _ _ _ _, World.ownsRow_nil _ _ _ _, HB.out⟩
    | some ad2 =>
      obtain ⟨o2, k2, B, hr, ho, hb⟩ := app24 (base := w.heap.size + 1) (W := W1) (by omega) ad2 n2 c2 hs hn2 hN2 (hh.below hB)
      have HR := hid hr
      have HF := hid (show OwnOut w 0 [] n2 hs (.returned (.tuple #[.slice none 0 0, .slice o2 n2 k2])) B from ⟨none, 0, o2, k2, rfl, World.ownsRow_nil _ _ _ _, ho, HB.out.trans (hb.mono HB.out.size)⟩)
      clear hx hh hn hn2 hB hx1 hr ho hb
      go_enter Tryz.func19, Tryz.ntmps19
      go_wp2_with (at_builtin; refine wpList_append_run rfl (.tmp 10) (.tmp 12) 39 39 rfl rfl rfl HR.out ?_)
      go_ret2
      exact HF.out
  | some ad =>
    obtain ⟨o, k1, B, hr, ho, hb⟩ := app23 (base := w.heap.size + 1) (W := W1) (by omega) ad n c xs hn hN (hx.below hB)
    have HR := hid hr
    have q4 : B.cell? ⟨w.heap.size, 4, none⟩ = some (.slice a2 n2 c2) := (hb.cell (p := ⟨w.heap.size, 4, none⟩) (cell_lt p4)).trans p4
    cases a2 with
    | none =>
      have hh0 : hs = [] := by
        rcases hh.2 with h | ⟨b, off, e, _⟩
        · exact h
        · cases e
      subst hh0
      obtain rfl : n2 = 0 := by simpa using hn2.symm
      have HF := hid (show OwnOut w n xs 0 [] (.returned (.tuple #[.slice o n k1, .slice none 0 0])) B from ⟨o, k1, none, 0, rfl, ho, World.ownsRow_nil _ _ _ _, HB.out.trans (hb.mono HB.out.size)⟩)
      clear hx hh hn hn2 hB hx1 hr ho hb
      go_enter Tryz.func19, Tryz.ntmps19
      go_wp2_with (at_builtin; refine wpList_append_run rfl (.tmp 6) (.tmp 8) 38 38 rfl rfl rfl HR.out ?_)
      go_ret2
      exact HF.out
    | some ad2 =>
      obtain ⟨o2, k2, B2, hr2, ho2, hb2⟩ := app24 (base := w.heap.size + 1) (W := B) (Nat.le_trans (by omega) hb.size) ad2 n2 c2 hs hn2 hN2 ((hh.below hB).below hb)
      have HR2 := hid hr2
      have HF := hid (show OwnOut w n xs n2 hs (.returned (.tuple #[.slice o n k1, .slice o2 n2 k2])) B2 from ⟨o, k1, o2, k2, rfl, own_below ho hb2, ho2, (HB.out.trans (hb.mono HB.out.size)).trans (hb2.mono (Nat.le_trans HB.out.size hb.size))⟩)
      clear hx hh hn hn2 hB hx1 hr ho hb hr2 ho2 hb2
      go_enter Tryz.func19, Tryz.ntmps19
      go_wp2_with (first
        | (at_builtin; refine wpList_append_run rfl (.tmp 6) (.tmp 8) 38 38 rfl rfl rfl HR.out ?_)
        | (at_builtin; refine wpList_append_run rfl (.tmp 10) (.tmp 12) 39 39 rfl rfl rfl HR2.out ?_))
      go_ret2
      exact HF.out
end Go.Proofs.YthpebfojkpnojaaGreat

