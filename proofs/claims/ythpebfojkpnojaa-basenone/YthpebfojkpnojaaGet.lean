/- Get. -/
import Derived.Test.YthpebfojkpnojaaKp8
namespace Go.Proofs.Ythpebfojkpnojaa
open Go.RowKit Go.Maps
set_option linter.unusedVariables false
set_option linter.unusedSimpArgs false
set_option maxRecDepth 100000
def GetOut (W : World) (d : Bas.E) (b : Bool) (en : Ending) (w' : World) : Prop := ∃ o k, en = .returned (.tuple #[.agg #[.int .i64 d.id, .slice o d.lits.length k, .bool d.red], .bool b]) ∧ w'.ownsRow W.heap.size 45 1 (.slice o d.lits.length k) d.lits.length (d.lits.map (Value.int .i32)) ∧ Below W.heap.size W w'
set_option maxHeartbeats 4000000 in
theorem get6 {M : Nat → Prop} {bb K : Nat} {s : Bas.S} {W : World} (h : Bs M bb K s W) (id : Int) (hi : I64 id) (hn : ∀ e, Bas.look s.live id = some e → e.lits.length ≤ 16777216) :
    Calls Try.prog 6 #[.pointer (some ⟨bb, 0, none⟩), .int .i64 id] W fun en w' => GetOut W ((Bas.look s.live id).getD ⟨0, [], false⟩) (Bas.look s.live id).isSome en w' := by
  obtain ⟨hv, bm, br, k, k2, f, g, rv, sv, tv, R, Z, rw', ids, iv, hb, m1, m2, m3, hne, ⟨a1, a2, a3⟩, _⟩ := h
  have x3 : W.cell? ⟨bb, 3, none⟩ = some (.map (some bm)) := row_cell hb 3
  have hlk := (a1.same ((below_box W (.cells #[.int .i64 0, .slice none 0 0, .bool false] 32)).block bm a1.lt)).look hi
  have hb2 : Below W.heap.size W ((W.alloc (.cells #[.int .i64 0, .slice none 0 0, .bool false] 32)).alloc (.cells #[.int .i64 0, .slice none 0 0, .bool false] 32)) := box_below _ _ (below_box _ _)
  have hlk2 := (a1.same (hb2.block bm a1.lt)).look hi
  have x3a := ((below_box W (.cells #[.int .i64 0, .slice none 0 0, .bool false] 32)).cell (p := ⟨bb, 3, none⟩) (cell_lt x3)).trans x3
  have x3b := (hb2.cell (p := ⟨bb, 3, none⟩) (cell_lt x3)).trans x3
  clear hb2
  have hE := a3 id hi
  obtain ⟨d, hd⟩ : ∃ d, (Bas.look s.live id).getD ⟨0, [], false⟩ = d := ⟨_, rfl⟩
  obtain ⟨b, hbb⟩ : ∃ b, (Bas.look s.live id).isSome = b := ⟨_, rfl⟩
  have hn' : d.lits.length ≤ 16777216 := by
    rw [← hd]
    cases he : Bas.look s.live id with
    | none => simp
    | some e => exact hn e he
  obtain ⟨a, c, hv, hrow⟩ : ∃ a c, (f id).getD (.agg #[.int .i64 0, .slice none 0 0, .bool false]) = .agg #[.int .i64 d.id, .slice a d.lits.length c, .bool d.red] ∧ Lits W a d.lits := by
    rw [← hd]
    cases he : Bas.look s.live id with
    | none => rw [he] at hE; simp only [EntAt] at hE; rw [hE]; exact ⟨none, 0, rfl, Row.nil _ _ _ _ _⟩
    | some e => rw [he] at hE; obtain ⟨a9, c9, hf, hr, _⟩ := hE; rw [hf]; exact ⟨a9, c9, rfl, hr.1⟩
  have hfb : (f id).isSome = b := by
    rw [← hbb]
    cases he : Bas.look s.live id with
    | none => rw [he] at hE; simp only [EntAt] at hE; rw [hE]; rfl
    | some e => rw [he] at hE; obtain ⟨a9, c9, hf, hr, _⟩ := hE; rw [hf]; rfl
  rw [hv, hfb] at hlk hlk2
  rw [hd, hbb]
  have C31 := hid (fun X (hX : Below W.heap.size W X) => clone31 a d.lits.length c d.lits X rfl hn' (hrow.below hX))

  have POST := hid (fun (w4 : World) (hb4 : Below ((W.alloc (.cells #[.int .i64 0, .slice none 0 0, .bool false] 32)).alloc (.cells #[.int .i64 d.id, .slice a d.lits.length c, .bool d.red] 32)).heap.size ((W.alloc (.cells #[.int .i64 0, .slice none 0 0, .bool false] 32)).alloc (.cells #[.int .i64 d.id, .slice a d.lits.length c, .bool d.red] 32)) w4) => show w4.heap[W.heap.size + 1]? = some (.cells #[.int .i64 d.id, .slice a d.lits.length c, .bool d.red] 32 (0, 0)) ∧ w4.heap[W.heap.size]? = some (.cells #[.int .i64 0, .slice none 0 0, .bool false] 32 (0, 0)) ∧ Below W.heap.size W w4 from by
    refine ⟨(hb4.block (W.heap.size + 1) (by simp)).trans ?_, (hb4.block W.heap.size (by simp; omega)).trans (((below_box (W.alloc (.cells #[.int .i64 0, .slice none 0 0, .bool false] 32)) (.cells #[.int .i64 d.id, .slice a d.lits.length c, .bool d.red] 32)).block W.heap.size (by simp)).trans (heap_alloc_new W _)), box_below _ _ (box_below _ _ hb4)⟩
    have := heap_alloc_new (W.alloc (.cells #[.int .i64 0, .slice none 0 0, .bool false] 32)) (.cells #[.int .i64 d.id, .slice a d.lits.length c, .bool d.red] 32)
    simpa using this)
  have CX := hid (C31.out ((W.alloc (.cells #[.int .i64 0, .slice none 0 0, .bool false] 32)).alloc (.cells #[.int .i64 d.id, .slice a d.lits.length c, .bool d.red] 32)) (box_below _ _ (below_box _ _)))
  clear C31
  clear a1 a3 hb hn hn' hE hd hbb hv hfb hrow
  go_enter Try.func6, Try.ntmps6
  go_wp2_with (go_at_call 31; go_loud (refine CX.out.mono ?_; clear CX; rintro e w4 ⟨o, k4, rfl, ho, hb4⟩; obtain ⟨G1, G0, B0⟩ := POST.out w4 hb4; have HO := hid ho; have HB := hid B0; have HG1 := hid G1; have HG0 := hid G0; have g10 : w4.cell? ⟨W.heap.size + 1, 0, none⟩ = some (.int .i64 d.id) := row_cell G1 0; have f10 := row_frozen G1 0; have g11 : w4.cell? ⟨W.heap.size + 1, 1, none⟩ = some (.slice a d.lits.length c) := row_cell G1 1; have f11 := row_frozen G1 1; have g12 : w4.cell? ⟨W.heap.size + 1, 2, none⟩ = some (.bool d.red) := row_cell G1 2; have f12 := row_frozen G1 2; have g00 : w4.cell? ⟨W.heap.size, 0, none⟩ = some (.int .i64 0) := row_cell G0 0; have f00 := row_frozen G0 0; have g01 : w4.cell? ⟨W.heap.size, 1, none⟩ = some (.slice none 0 0) := row_cell G0 1; have f01 := row_frozen G0 1; have g02 : w4.cell? ⟨W.heap.size, 2, none⟩ = some (.bool false) := row_cell G0 2; have f02 := row_frozen G0 2; clear ho hb4 G0 G1 B0 POST))
  have hz : ((W.alloc (.cells #[.int .i64 0, .slice none 0 0, .bool false] 32)).alloc (.cells #[.int .i64 d.id, .slice a d.lits.length c, .bool d.red] 32)).heap.size = W.heap.size + 2 := by simp
  have ho := HO.out
  rw [hz] at ho
  refine bodyPost_ret (results_row_tmp rfl _ _ W.heap.size 32 #[.int .i64 d.id, .slice o d.lits.length k4, .bool d.red] (0, 0) _ rfl ?_ Try.underlying32 rfl (by kernel_rfl)) rfl ?_
  · exact heap_set_row (heap_set_row (heap_set_row ((heap_other w4 _ (by omega)).trans HG0.out) _) _) _
  · refine ⟨o, k4, rfl, own_base (own_set (own_set (own_set (own_set ho (by omega) _) (by omega) _) (by omega) _) (by omega) _) (by omega), ?_⟩
    exact (((HB.out.setCell (by simp) _).setCell (by simp) _).setCell (by simp) _).setCell (by simp) _
end Go.Proofs.Ythpebfojkpnojaa
