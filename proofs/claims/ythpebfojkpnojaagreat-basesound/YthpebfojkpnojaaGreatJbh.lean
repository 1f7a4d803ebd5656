/- Entries: how many. -/
import Derived.Test.YthpebfojkpnojaaGreatJbf
import Derived.Maps.OwnSet
import Derived.Deep.CutBlock
import Derived.Deep.RegionHeld3
/- Entries: how many. -/
namespace Go.Proofs.YthpebfojkpnojaaGreat
open Go.RowKit Go.Maps
set_option linter.unusedVariables false
set_option linter.unusedSimpArgs false
set_option maxRecDepth 100000
theorem info32 : (Tryz.prog.info? 83).map (fun i => (i.zero, i.size, i.bytes)) = some (some (.agg #[.int .i64 0, .slice none 0 0, .bool false]), 3, 40) := by kernel_rfl
/-- An entry more, behind a row of one's own. -/
theorem push32 {W : World} {base : Nat} {v : Value} {k : Nat} {xs : List Value} (ho : W.ownsRow base 83 3 v k xs) (i : Int) (o : Option Addr) (n c : Nat) (r : Bool) (hb : base ≤ W.heap.size) (hk : k ≤ 1000000000) :
    ∃ g c1 B, (Builtin.append_ #[48, 48] 48 #[v, .slice (some ⟨W.heap.size, 0, none⟩) 1 1]).run Tryz.prog (W.alloc (.cells #[.int .i64 i, .slice o n c, .bool r] 83)) = .ok (.slice (some ⟨g, 0, none⟩) (k + 1) c1) B ∧ B.ownsRow base 83 3 (.slice (some ⟨g, 0, none⟩) (k + 1) c1) (k + 1) (xs ++ [.int .i64 i, .slice o n c, .bool r]) ∧
      (W.alloc (.cells #[.int .i64 i, .slice o n c, .bool r] 83)).grownBy B v.ownBlock ∧ (v.ownBlock = some g ∨ g = W.heap.size + 1) := by
  obtain ⟨i0, hi0, hz⟩ := Option.map_eq_some_iff.1 info32
  simp only [Prod.mk.injEq] at hz
  obtain ⟨g, c1, B, hr, h2, h3, h5, _⟩ := run_append_lies (P := Tryz.prog) (W.alloc (.cells #[.int .i64 i, .slice o n c, .bool r] 83)) 48 48 base 83 i0 _ 3 40 Tryz.underlying48 hi0 hz.1 hz.2.1 hz.2.2 rfl (by decide) v k _ (ho.alloc _) ⟨W.heap.size, 0, none⟩ 1 1 [.int .i64 i, .slice o n c, .bool r] rfl (World.news_of_block (heap_alloc_new W (.cells #[.int .i64 i, .slice o n c, .bool r] 83))) (by intro u hu; simp at hu; rcases hu with rfl | rfl | rfl <;> rfl) (by decide) (by unfold maxLen; omega) (by omega) (by simp; omega) _ rfl
  exact ⟨g, c1, B, hr, h2, h3, by simpa using h5⟩
/-- The keys of the base's map, in order. -/
def KeysC (W : World) (bm : Nat) (ks : List Int) : Prop :=
  (∀ X, Calls Tryz.prog 65 #[.map (some bm)] X fun e w' => e = .returned (.func (.func 97) #[] #[.pointer (some ⟨X.heap.size, 0, none⟩)]) ∧ w' = X.alloc (.cells #[.map (some bm)] 71)) ∧
  (∀ X, Below W.heap.size W X → Calls Tryz.prog 64 #[.func (.func 97) #[] #[.pointer (some ⟨X.heap.size, 0, none⟩)]] (X.alloc (.cells #[.map (some bm)] 71)) fun e w' =>
    ∃ a c, e = .returned (.slice a ks.length c) ∧ w'.ownsRow X.heap.size 2 1 (.slice a ks.length c) ks.length (ks.map (Value.int .i64)) ∧ Below X.heap.size X w')
def EntOut (n : Nat) (W : World) (en : Ending) (w' : World) : Prop := ∃ o c, en = .returned (.slice o n c) ∧ Below W.heap.size W w'
theorem Bs.lookE {M : Nat → Prop} {bb K : Nat} {s : Bas.S} {W : World} (h : Bs M bb K s W) (hlen : ∀ e ∈ s.live, e.lits.length ≤ 16777216) {bm : Nat} (x3 : W.cell? ⟨bb, 3, none⟩ = some (.map (some bm))) (X : World) (hX : Below W.heap.size W X) (id : Int) (hi : I64 id) :
    X.cell? ⟨bb, 3, none⟩ = some (.map (some bm)) ∧ ∃ ei ea en ec er, ∃ xs : List Int, (Instr.lookup 71 (.map (some bm)) (.int .i64 id) false).run Tryz.prog X = .ok (.agg #[.int .i64 ei, .slice ea en ec, .bool er]) X ∧ Lits X ea xs ∧ xs.length = en ∧ en ≤ 16777216 := by
  obtain ⟨hv, bm', br, k, k2, f, g, rv, sv, tv, R, Z, rw', ids, iv, hb, m1, m2, m3, hne, ⟨a1, a2, a3⟩, _⟩ := h.below hX
  have y3 : X.cell? ⟨bb, 3, none⟩ = some (.map (some bm')) := row_cell hb 3
  have y3' := (hX.cell (p := ⟨bb, 3, none⟩) (cell_lt x3)).trans x3
  rw [y3] at y3'
  injection y3' with y3'
  injection y3' with y3'
  injection y3' with y3'
  subst y3'
  refine ⟨y3, ?_⟩
  have hlk := a1.look1 hi
  have hE := a3 id hi
  cases he : Bas.look s.live id with
  | none =>
    rw [he] at hE
    simp only [EntAt] at hE
    rw [hE] at hlk
    exact ⟨0, none, 0, 0, false, [], hlk, Row.nil _ _ _ _ _, rfl, Nat.zero_le _⟩
  | some e =>
    rw [he] at hE
    obtain ⟨a9, c9, hf, hr, _⟩ := hE
    rw [hf] at hlk
    exact ⟨e.id, a9, e.lits.length, c9, e.red, e.lits, hlk, hr.1, rfl, hlen e (Bas.look_mem he).1⟩
set_option maxHeartbeats 8000000 in
theorem entries14 {M : Nat → Prop} {bb K : Nat} {s : Bas.S} {W : World} (h : Bs M bb K s W) (hlen : ∀ e ∈ s.live, e.lits.length ≤ 16777216) {bm k : Nat} {D : DataW Value} (x3 : W.cell? ⟨bb, 3, none⟩ = some (.map (some bm))) (hD : W.ownsMap Tryz.prog 2 raw bm k D) (n : Nat) (hsz : Maps.size D = n) (hn5 : n ≤ 5500000) (ids : List Int) (hids : ids.length = n) (h64 : ∀ i ∈ ids, I64 i) (hK : KeysC W bm ids) :
    Calls Tryz.prog 18 #[.pointer (some ⟨bb, 0, none⟩)] W fun en w' => EntOut n W en w' := by
  have HLK := hid (h.lookE hlen x3)
  have HX3 := hid (fun X (hX : Below W.heap.size W X) => (hX.cell (p := ⟨bb, 3, none⟩) (cell_lt x3)).trans x3)
  have HK := hid hK
  have HI := hid hids
  have H64 := hid h64
  obtain ⟨i0, hi, hz⟩ := Option.map_eq_some_iff.1 info32
  simp only [Prod.mk.injEq] at hz
  have hmk := fun W => run_makeSlice (P := Tryz.prog) W 48 83 i0 (.agg #[.int .i64 0, .slice none 0 0, .bool false]) Tryz.underlying48 hi hz.1 .i64 .i64 (0 : Int) (n : Int) (by omega) (by omega) (by rw [hz.2.1]; omega) (by rw [hz.2.2]; omega) (by omega)
  simp only [hz.2.1, Int.toNat_natCast] at hmk
  have hB1 := below_box W (.cells (madeCells (Value.agg #[.int .i64 0, .slice none 0 0, .bool false]).cells (n * 3)) 83)
  have hg1 := heap_alloc_new W (.cells (madeCells (Value.agg #[.int .i64 0, .slice none 0 0, .bool false]).cells (n * 3)) 83)
  have hmk1 := hmk W
  clear hmk
  generalize hW1 : W.alloc (.cells (madeCells (Value.agg #[.int .i64 0, .slice none 0 0, .bool false]).cells (n * 3)) 83) = W1 at hB1 hg1 hmk1
  have hmk1' : (Instr.makeSlice 48 (.int .i64 0) (.int .i64 n)).run Tryz.prog W = .ok (.slice (some ⟨W.heap.size, 0, none⟩) 0 n) W1 := hmk1
  have y3 : W1.cell? ⟨bb, 3, none⟩ = some (.map (some bm)) := (hB1.cell (p := ⟨bb, 3, none⟩) (cell_lt x3)).trans x3
  have HO1 := hid (show W1.ownsRow W.heap.size 83 3 (.slice (some ⟨W.heap.size, 0, none⟩) 0 n) 0 [] from ⟨rfl, .inr ⟨W.heap.size, n, _, rfl, Nat.le_refl _, hg1, Nat.zero_le _, by unfold maxLen; omega, by rw [size_madeCells], by simp⟩⟩)
  have HB1 := hid hB1
  have HG1 := hid (lt_of_blk hg1)
  have C40 := hid (hK.1 W1)
  have C39 := hid (hK.2 W1 hB1)
  rw [hids] at C39
  have hlen1 : (Builtin.len_ #[71] 3 #[.map (some bm)]).run Tryz.prog W = .ok (.int .i64 n) W := by rw [← hsz]; exact hD.len Tryz.underlying71 3
  clear h hids h64 hK hi hz hlen hg1 hB1 hW1 hmk1 HK
  go_enter Tryz.func18, Tryz.ntmps18
  go_wp2_with (first
    | (at_len; refine wpList_len_own _ rfl _ 71 rfl 2 83 Tryz.underlying71 raw bm k D rfl hD ?_; rw [hsz])
    | (go_at_call 65; refine C40.out.mono ?_; clear C40; rintro e w' ⟨rfl, hw⟩; rw [hw]; clear hw)
    | (go_at_call 64; refine C39.out.mono ?_; clear C39; rintro e W2 ⟨ao, ac, rfl, hO2, hB2⟩; have HO2 := hid hO2; have HB2 := hid hB2; clear hO2 hB2))
  have HP0 := hid (show ∀ g, ao = some ⟨g, 0, none⟩ → W2.heap[g]? = W2.heap[g]? ∧ W.heap.size ≠ g from fun g hg => ⟨rfl, by
    rcases HO2.out.2 with ⟨e, h0⟩ | ⟨g', c', cur, e, hb, _⟩
    · rw [hg] at e; cases e
    · rw [hg] at e; cases e; have := HG1.out; omega⟩)
  have HO20 := hid (show W2.ownsRow W.heap.size 83 3 (.slice (some ⟨W.heap.size, 0, none⟩) 0 n) 0 [] from own_below HO1.out HB2.out)
  have HB20 := hid (HB1.out.trans (HB2.out.mono HB1.out.size))
  clear HO1 y3 hmk1' hlen1 hD
  go_loopw [3, 22] (fun lv iv wr => ∃ (k2 : Nat) (lb : Nat) (lc : Nat) (xs : List Value), k2 ≤ n ∧ iv = .int .i64 k2 ∧ lv = .slice (some ⟨lb, 0, none⟩) k2 lc ∧ Hid (wr.ownsRow W.heap.size 83 3 (.slice (some ⟨lb, 0, none⟩) k2 lc) k2 xs) ∧ Hid (∀ g, ao = some ⟨g, 0, none⟩ → wr.heap[g]? = W2.heap[g]? ∧ lb ≠ g) ∧ Hid (Below W.heap.size W wr) ∧ Hid (W2.heap.size ≤ wr.heap.size)) (fun _ iv _ => n - (intOf iv).toNat)
  case atStart => exact ⟨0, W.heap.size, n, [], Nat.zero_le _, rfl, rfl, HO20, HP0, HB20, hid (Nat.le_refl _)⟩
  case round =>
    clear HO20 HP0 HB20
    obtain ⟨k2, lb, lc, xs, hk2, rfl, rfl, HO, HP, HB, HSZ⟩ := hrel
    by_cases hlt : k2 < n
    · have hlt' : (k2 : Int) < n := by omega
      obtain ⟨gk, gc, cur, e2, _, hg2, _, _, _, h72⟩ := own_some HO2.out (by omega)
      cases e2
      have hgl : gk < W2.heap.size := lt_of_blk hg2
      have hgr := ((HP.out gk rfl).1).trans hg2
      have hix : ids[k2]? = some (ids.getD k2 0) := by rw [List.getD_eq_getElem?_getD, List.getElem?_eq_getElem (by rw [HI.out]; exact hlt)]; rfl
      have hcell : wr.cell? ⟨gk, k2, none⟩ = some (.int .i64 (ids.getD k2 0)) := by
        rw [row_cell hgr]
        have := congrArg (fun l => l[k2]?) h72
        simp only [List.getElem?_map, hix] at this
        rw [List.getElem?_take_of_lt hlt, Array.getElem?_toList] at this
        simpa using this
      obtain ⟨z3, ei, ea, en, ec, er, ys, hlk, hLy, hyn, hyN⟩ := HLK.out wr HB.out (ids.getD k2 0) (H64.out _ (by simp only [List.getD_eq_getElem?_getD, List.getElem?_eq_getElem (show k2 < ids.length by rw [HI.out]; exact hlt)]; simp))
      have HLY := hid hLy
      generalize ids.getD k2 0 = id at hcell hlk hix
      have C31 := hid (fun X (hX : Below wr.heap.size wr X) => clone31 ea en ec ys X hyn hyN (hLy.below hX))
      have POST := hid (fun (w4 : World) (hb4 : Below (wr.alloc (.cells #[.int .i64 ei, .slice ea en ec, .bool er] 83)).heap.size (wr.alloc (.cells #[.int .i64 ei, .slice ea en ec, .bool er] 83)) w4) => show w4.heap[wr.heap.size]? = some (.cells #[.int .i64 ei, .slice ea en ec, .bool er] 83 (0, 0)) ∧ Below wr.heap.size wr w4 from
        ⟨(hb4.block wr.heap.size (by simp)).trans (heap_alloc_new wr _), (below_box wr _).trans (hb4.mono (by simp))⟩)
      have PUSH := hid (fun (W5 : World) (o : Option Addr) (kc : Nat) (hb5 : Below wr.heap.size wr W5) => push32 (own_below HO.out hb5) ei o en kc er (Nat.le_trans HB.out.size hb5.size) (by omega))
      have NEXT := hid (fun (W5 B : World) (o : Option Addr) (kc g : Nat) (hb5 : Below wr.heap.size wr W5) (gr : (W5.alloc (.cells #[.int .i64 ei, .slice o en kc, .bool er] 83)).grownBy B (Value.slice (some ⟨lb, 0, none⟩) k2 lc).ownBlock) (hg : (Value.slice (some ⟨lb, 0, none⟩) k2 lc).ownBlock = some g ∨ g = W5.heap.size + 1) => show (∀ q, (some ⟨gk, 0, none⟩ : Option Addr) = some ⟨q, 0, none⟩ → B.heap[q]? = W2.heap[q]? ∧ g ≠ q) ∧ Below W.heap.size W B ∧ W2.heap.size ≤ B.heap.size from by
        have hbx := below_box W5 (.cells #[.int .i64 ei, .slice o en kc, .bool er] 83)
        have s1 := HSZ.out
        have s2 := hb5.size
        have hB5 : Below W.heap.size W (W5.alloc (.cells #[.int .i64 ei, .slice o en kc, .bool er] 83)) := (HB.out.trans (hb5.mono HB.out.size)).trans (hbx.mono (Nat.le_trans HB.out.size hb5.size))
        refine ⟨fun q hq => ?_, below_grown hB5 gr (fun q hq => (own_blk HO.out hq).1) hB5.size, Nat.le_trans (Nat.le_trans s1 s2) (Nat.le_trans hbx.size gr.size)⟩
        cases hq
        obtain ⟨p1, p2⟩ := HP.out gk rfl
        refine ⟨?_, ?_⟩
        · rw [gr.block gk (by have := hbx.size; omega) (fun e => by simp [Value.ownBlock] at e; exact p2 e.symm), hbx.block gk (by omega), hb5.block gk (by omega)]
          exact p1
        · rcases hg with hg | hg
          · simp [Value.ownBlock] at hg; omega
          · omega)
      clear hg2 h72 hgr hLy hix
      go_wp2_with (first
        | (go_at_call 35; go_loud (refine (C31.out _ (below_box _ _)).mono ?_; clear C31; rintro e w4 ⟨o, kc, rfl, ho, hb4⟩
                                   obtain ⟨G1, B4⟩ := POST.out w4 hb4
                                   have g10 : w4.cell? ⟨wr.heap.size, 0, none⟩ = some (.int .i64 ei) := row_cell G1 0
                                   have g11 : w4.cell? ⟨wr.heap.size, 1, none⟩ = some (.slice ea en ec) := row_cell G1 1
                                   have f11 := row_frozen G1 1
                                   have g12 : w4.cell? ⟨wr.heap.size, 2, none⟩ = some (.bool er) := row_cell G1 2
                                   have B5 : Below wr.heap.size wr (w4.setCell ⟨wr.heap.size, 1, none⟩ (.slice o en kc)) := B4.setCell (Nat.le_refl _) _
                                   obtain ⟨g9, c9, B, r9, o9, gr9, w9⟩ := PUSH.out _ o kc B5
                                   rw [show (w4.setCell ⟨wr.heap.size, 1, none⟩ (.slice o en kc)).heap.size = w4.heap.size by simp [World.setCell]] at r9
                                   have R9 := hid r9
                                   have O9 := hid o9
                                   have N9 := hid (NEXT.out _ B o kc g9 B5 gr9 w9)
                                   clear ho hb4 G1 r9 o9 gr9 w9 B5 B4 PUSH NEXT POST))
        | (at_builtin; refine wpList_append_run rfl (.tmp 36) (.tmp 38) 48 48 rfl rfl rfl R9.out ?_))
      go_roundw
      case rel => exact ⟨k2 + 1, g9, c9, _, by omega, by go_num, rfl, O9, hid N9.out.1, hid N9.out.2.1, hid N9.out.2.2⟩
      case measure => simp [intOf]; omega
    · have hge : ¬ (k2 : Int) < n := by omega
      obtain rfl : k2 = n := by omega
      go_wp2_with fail
      go_ret
      exact ⟨_, _, rfl, HB.out⟩
end Go.Proofs.YthpebfojkpnojaaGreat

/- Steps: how many. -/
namespace Bas
theorem steps_len : ∀ (rs : List Rl) (l : Int), (stepsOf l rs).length = (rs.filter (fun r => r.kind != 2)).length
  | [], l => rfl
  | r :: rs, l => by
    rw [stepsOf]
    by_cases h1 : r.kind = 1
    · have h2 : (r.kind != 2) = true := by simp [h1]
      rw [if_pos h1, List.filter_cons, if_pos h2, List.length_cons, List.length_cons, steps_len rs r.id]
    · by_cases h2 : r.kind = 2
      · have h3 : ¬ (r.kind != 2) = true := by simp [h2]
        rw [if_neg h1, if_pos h2, List.filter_cons, if_neg h3, steps_len rs l]
      · have h3 : (r.kind != 2) = true := by simp [h2]
        rw [if_neg h1, if_neg h2, List.filter_cons, if_pos h3, List.length_cons, List.length_cons, steps_len rs l]
def cnt (rs : List Rl) (k : Nat) : Nat := ((rs.take k).filter (fun r => r.kind != 2)).length
theorem cnt_zero (rs : List Rl) : cnt rs 0 = 0 := by simp [cnt]
theorem cnt_succ (rs : List Rl) (k : Nat) (h : k < rs.length) : cnt rs (k + 1) = cnt rs k + (if rs[k].kind = 2 then 0 else 1) := by
  unfold cnt
  rw [List.take_succ_eq_append_getElem h, List.filter_append, List.length_append]
  congr 1
  by_cases h2 : rs[k].kind = 2
  · rw [if_pos h2]; simp [h2]
  · rw [if_neg h2]; simp [h2]
theorem cnt_all (rs : List Rl) (l : Int) : cnt rs rs.length = (stepsOf l rs).length := by
  unfold cnt; rw [List.take_length, steps_len]
theorem cnt_le (rs : List Rl) (k : Nat) : cnt rs k ≤ k := by
  unfold cnt
  exact Nat.le_trans (List.length_filter_le _ _) (by rw [List.length_take]; omega)
end Bas
namespace Go.Proofs.YthpebfojkpnojaaGreat
open Go.RowKit Go.Maps
set_option linter.unusedVariables false
set_option linter.unusedSimpArgs false
set_option maxRecDepth 100000
theorem info94 : (Tryz.prog.info? 111).map (fun i => (i.zero, i.size, i.bytes)) = some (some (.agg #[.int .u8 0, .int .i64 0, .slice none 0 0, .slice none 0 0]), 4, 64) := by kernel_rfl
/-- A step more, behind a row of one's own. -/
theorem push94 {W : World} {base : Nat} {v : Value} {k : Nat} {xs : List Value} (ho : W.ownsRow base 111 4 v k xs) (q i : Int) (o : Option Addr) (n c : Nat) (o2 : Option Addr) (n2 c2 : Nat) (hb : base ≤ W.heap.size) (hk : k ≤ 1000000000) :
    ∃ g c1 B, (Builtin.append_ #[79, 79] 79 #[v, .slice (some ⟨W.heap.size, 0, none⟩) 1 1]).run Tryz.prog (W.alloc (.cells #[.int .u8 q, .int .i64 i, .slice o n c, .slice o2 n2 c2] 111)) = .ok (.slice (some ⟨g, 0, none⟩) (k + 1) c1) B ∧ B.ownsRow base 111 4 (.slice (some ⟨g, 0, none⟩) (k + 1) c1) (k + 1) (xs ++ [.int .u8 q, .int .i64 i, .slice o n c, .slice o2 n2 c2]) ∧
      (W.alloc (.cells #[.int .u8 q, .int .i64 i, .slice o n c, .slice o2 n2 c2] 111)).grownBy B v.ownBlock ∧ (v.ownBlock = some g ∨ g = W.heap.size + 1) := by
  obtain ⟨i0, hi0, hz⟩ := Option.map_eq_some_iff.1 info94
  simp only [Prod.mk.injEq] at hz
  obtain ⟨g, c1, B, hr, h2, h3, h5, _⟩ := run_append_lies (P := Tryz.prog) (W.alloc (.cells #[.int .u8 q, .int .i64 i, .slice o n c, .slice o2 n2 c2] 111)) 79 79 base 111 i0 _ 4 64 Tryz.underlying79 hi0 hz.1 hz.2.1 hz.2.2 rfl (by decide) v k _ (ho.alloc _) ⟨W.heap.size, 0, none⟩ 1 1 [.int .u8 q, .int .i64 i, .slice o n c, .slice o2 n2 c2] rfl (World.news_of_block (heap_alloc_new W (.cells #[.int .u8 q, .int .i64 i, .slice o n c, .slice o2 n2 c2] 111))) (by intro u hu; simp at hu; rcases hu with rfl | rfl | rfl | rfl <;> rfl) (by decide) (by unfold maxLen; omega) (by omega) (by simp; omega) _ rfl
  exact ⟨g, c1, B, hr, h2, h3, by simpa using h5⟩
theorem flat6_at {R : List RlM} : ∀ {j : Nat} (hj : j < R.length) {t : Nat} (ht : t < 6), (R.flatMap rlv)[j * 6 + t]? = (rlv R[j])[t]? := by
  induction R with
  | nil => intro j hj; simp at hj
  | cons r R ih =>
    intro j hj t ht
    rw [List.flatMap_cons]
    cases j with
    | zero => rw [List.getElem?_append_left (by simp [rlv, ruleV]; omega), Nat.zero_mul, Nat.zero_add]; rfl
    | succ j =>
      rw [List.getElem?_append_right (by simp [rlv, ruleV]; omega), show (j + 1) * 6 + t - (rlv r).length = j * 6 + t by simp [rlv, ruleV]; omega, ih (by simp at hj; omega) ht]
      rfl
/-- The rules as they lie. -/
theorem Bs.rulesAt {M : Nat → Prop} {bb K : Nat} {s : Bas.S} {W : World} (h : Bs M bb K s W) : ∃ ro rc, W.cell? ⟨bb, 5, none⟩ = some (.slice ro s.rules.length rc) ∧ ∀ k (hk : k < s.rules.length), ∃ g a c a2 c2, ro = some ⟨g, 0, none⟩ ∧ W.cell? ⟨g, k * 6, none⟩ = some (.int .u8 s.rules[k].kind) ∧ W.cell? ⟨g, k * 6 + 1, none⟩ = some (.int .i64 s.rules[k].id) ∧ W.cell? ⟨g, k * 6 + 2, none⟩ = some (.int .i64 s.rules[k].by_) ∧ W.cell? ⟨g, k * 6 + 3, none⟩ = some (.bool s.rules[k].red) ∧ W.cell? ⟨g, k * 6 + 4, none⟩ = some (.slice a s.rules[k].lits.length c) ∧ W.cell? ⟨g, k * 6 + 5, none⟩ = some (.slice a2 s.rules[k].hints.length c2) ∧ Lits W a s.rules[k].lits ∧ Hnts W a2 s.rules[k].hints := by
  obtain ⟨hv, bm, br, k, k2, f, g, rv, sv, tv, R, Z, rw', ids, iv, hb, m1, m2, m3, hne, _, _, ⟨⟨c1, _⟩, c2, c3⟩, _⟩ := h
  have hRl : R.length = s.rules.length := by rw [← c2]; simp
  obtain ⟨ro, rc, rfl⟩ := own_slc c1
  have x5 := row_cell hb 5
  rw [show (#[Value.int .i64 s.vars, .int .i64 s.form, .int .i64 s.last, .map (some bm), .map (some br), .slice ro R.length rc, .int .i64 (Bas.nsteps s : Nat), sv, tv])[5]? = some (Value.slice ro R.length rc) from rfl, hRl] at x5
  refine ⟨ro, rc, x5, fun j hj => ?_⟩
  have hjR : j < R.length := by omega
  rcases c1.2 with ⟨_, h0⟩ | ⟨gr, c', cur, e1, _, hg, _, _, _, h7⟩
  · omega
  · cases e1
    have hr : s.rules[j] = R[j].1 := by simp only [← c2, List.getElem_map]
    obtain ⟨q1, q2⟩ := c3 R[j] (List.getElem_mem hjR)
    rw [hr]
    have hc : ∀ t v, t < 6 → (rlv R[j])[t]? = some v → W.cell? ⟨gr, j * 6 + t, none⟩ = some v := fun t v ht hv => by
      have := flat6_at hjR ht
      rw [hv, ← h7, List.getElem?_take_of_lt (by omega), Array.getElem?_toList] at this
      rw [row_cell hg, this]
    exact ⟨gr, _, _, _, _, rfl, hc 0 _ (by omega) rfl, hc 1 _ (by omega) rfl, hc 2 _ (by omega) rfl, hc 3 _ (by omega) rfl, hc 4 _ (by omega) rfl, hc 5 _ (by omega) rfl, q1.1, q2.1⟩
theorem Bs.formc {M : Nat → Prop} {bb K : Nat} {s : Bas.S} {W : World} (h : Bs M bb K s W) : W.cell? ⟨bb, 1, none⟩ = some (.int .i64 s.form) ∧ W.cell? ⟨bb, 6, none⟩ = some (.int .i64 (Bas.nsteps s : Nat)) := by
  obtain ⟨hv, bm, br, k, k2, f, g, rv, sv, tv, R, Z, rw', ids, iv, hb, _⟩ := h
  exact ⟨row_cell hb 1, row_cell hb 6⟩
end Go.Proofs.YthpebfojkpnojaaGreat

