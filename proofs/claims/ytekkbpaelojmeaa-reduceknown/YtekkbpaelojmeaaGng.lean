/- Those that may go, as they stand. -/
import Derived.Test.YtekkbpaelojmeaaLv
namespace Go.Proofs.Ytekkbpaelojmeaa
open Go.RowKit Go.Maps
set_option linter.unusedVariables false
set_option linter.unusedSimpArgs false
set_option maxRecDepth 100000

theorem own_blk5 {W : World} {base n size : Nat} {e : TypeId} {v : Value} {xs : List Value} {g : Nat} (h : W.ownsRow base e size v n xs) (hg : v.ownBlock = some g) : base ≤ g ∧ ∃ cur, W.heap[g]? = some (.cells cur e (0, 0)) := own_blk h hg
def GOut (base : Nat) (rs : List Rc) (g : Int) (e : Ending) (w' : World) : Prop := ∃ o c, e = .returned (.slice o (rs.filter (fun r => mayP r g)).length c) ∧ w'.ownsRow base 29 5 (.slice o (rs.filter (fun r => mayP r g)).length c) (rs.filter (fun r => mayP r g)).length (flat (rs.filter (fun r => mayP r g)))
set_option maxHeartbeats 4000000 in
theorem going17 {W : World} {a : Option Addr} {n c : Nat} {rs : List Rc} (g : Int) (hx : Rcs W a rs) (hn : rs.length = n) (hN : n ≤ 100000000) :
    Calls Try.prog 17 #[.slice a n c, .int .i64 g] W fun e w' => GOut W.heap.size rs g e w' ∧ Below W.heap.size W w' := by
  have HX := hid (fun X (hX : Below W.heap.size W X) => hx.below hX)
  have HN := hid hn
  have sh : Hid (n = 0) ∨ ∃ b off, a = some ⟨b, off, none⟩ := by
    rcases hx.shape with h | h
    · left; rw [hn] at h; exact h
    · exact .inr h
  clear hx hn
  rcases sh with Z | ⟨b, off, rfl⟩
  all_goals
    go_enter Try.func17, Try.ntmps17
    go_wp2_with fail
    go_loopw [5, 10] (fun lv iv wr => ∃ (k2 m : Nat) (lo : Option Addr) (lc : Nat), k2 ≤ n ∧ m ≤ k2 ∧ iv = .int .i64 k2 ∧ lv = .slice lo m lc ∧ Hid (((rs.take k2).filter (fun r => mayP r g)).length = m) ∧ Hid (wr.ownsRow W.heap.size 29 5 (.slice lo m lc) m (flat ((rs.take k2).filter (fun r => mayP r g)))) ∧ Hid (Below W.heap.size W wr)) (fun _ iv _ => n - (intOf iv).toNat)
    case atStart => exact ⟨0, 0, none, 0, Nat.zero_le _, Nat.le_refl _, rfl, rfl, hid (by simp), hid (World.ownsRow_nil _ _ _ _), hid (Below.refl _ _)⟩
    case round =>
      obtain ⟨k2, m, lo, lc, hk2, hm, rfl, rfl, HLN, HO, HB⟩ := hrel
      by_cases hlt : k2 < n
      · first
        | (exfalso; have := Z.out; omega)
        | (have hlt' : (k2 : Int) < n := by omega
           have hkx : k2 < rs.length := by rw [HN.out]; exact hlt
           obtain ⟨hok, x0, x1, x2, x3, x4⟩ := (HX.out wr HB.out).at hkx
           have HTK := hid (show rs.take (k2 + 1) = rs.take k2 ++ [rs[k2]] from List.take_succ_eq_append_getElem hkx)
           have HF := hid (show ∀ q, mayP rs[k2] g = q → (rs.take (k2 + 1)).filter (fun r => mayP r g) = (rs.take k2).filter (fun r => mayP r g) ++ (if q then [rs[k2]] else []) from fun q hq => by
             rw [HTK.out, List.filter_append]
             congr 1
             rw [List.filter_cons, hq]
             cases q <;> simp)
           have C22 := hid (fun (W : World) => may22 rs[k2] g W)
           have HPU := hid (fun (W1 : World) (hb1 : Below wr.heap.size wr W1) => push29 (own_below HO.out hb1) rs[k2] (Nat.le_trans HB.out.size hb1.size) (by omega))
           have HBG := hid (fun (W1 B : World) (hb1 : Below wr.heap.size wr W1) (gr1 : (W1.alloc (.cells (rec5 rs[k2]).toArray 29)).grownBy B (Value.slice lo m lc).ownBlock) => show Below W.heap.size W B from PushOut.below (T := 23) (base := W.heap.size) (k := m) (rs := []) (HB.out.trans (hb1.mono HB.out.size)) (Nat.le_trans HB.out.size hb1.size) (fun q hq => (own_blk5 HO.out hq).1) gr1)
           have HB1 := hid (fun (w4 : World) (o : Obj) (h : Below (wr.alloc o).heap.size (wr.alloc o) w4) => box_below wr o h)
           have HC4 := hid (fun (w4 : World) (h : Below (wr.alloc (.cells (rec5 rs[k2]).toArray 29)).heap.size (wr.alloc (.cells (rec5 rs[k2]).toArray 29)) w4) => show w4.heap[wr.heap.size]? = some (.cells (rec5 rs[k2]).toArray 29 (0, 0)) from (h.block wr.heap.size (by simp)).trans (heap_alloc_new wr _))
           generalize rs[k2] = r at *
           obtain ⟨⟨id, lb, sz, us⟩, lk⟩ := r
           dsimp only [rec5] at x0 x1 x2 x3 x4 C22 HBG HC4
           clear HTK hok
           cases hq : mayP ⟨⟨id, lb, sz, us⟩, lk⟩ g with
           | false =>
             have HF2 := hid (HF.out _ hq)
             simp only [Bool.false_eq_true, if_false, List.append_nil] at HF2
             rw [hq] at C22
             have HO1 := hid (fun w4 (h : Below wr.heap.size wr w4) => own_below HO.out h)
             have HB2 := hid (fun w4 (h : Below wr.heap.size wr w4) => HB.out.trans (h.mono HB.out.size))
             clear hq HF HPU HBG HC4
             go_wp2_with (go_at_call 22; refine (C22.out _).mono ?_; rintro e w4 ⟨rfl, hb4⟩; have HD := hid (HB1.out _ _ hb4); clear hb4)
             go_roundw
             case rel => exact ⟨k2 + 1, m, lo, lc, by omega, by omega, by go_num, rfl, hid (by rw [HF2.out]; exact HLN.out), hid (by rw [HF2.out]; exact HO1.out _ HD.out), hid (HB2.out _ HD.out)⟩
             case measure => simp [intOf]; omega
           | true =>
             have HF2 := hid (HF.out _ hq)
             simp only [if_true] at HF2
             rw [hq] at C22
             clear hq HF
             go_wp2_with (first
               | (go_at_call 22; refine (C22.out _).mono ?_; rintro e w4 ⟨rfl, hb4⟩
                  have hcs := HC4.out w4 hb4
                  have y0 : w4.cell? ⟨wr.heap.size, 0, none⟩ = some (.int .i64 id) := row_cell hcs 0
                  have y1 : w4.cell? ⟨wr.heap.size, 1, none⟩ = some (.int .i64 lb) := row_cell hcs 1
                  have y2 : w4.cell? ⟨wr.heap.size, 2, none⟩ = some (.int .i64 sz) := row_cell hcs 2
                  have y3 : w4.cell? ⟨wr.heap.size, 3, none⟩ = some (.int .i64 us) := row_cell hcs 3
                  have y4 : w4.cell? ⟨wr.heap.size, 4, none⟩ = some (.bool lk) := row_cell hcs 4
                  have HD := hid (HB1.out _ _ hb4)
                  obtain ⟨g1, c1, B, r1, o1, gr1, w1⟩ := HPU.out w4 HD.out
                  have HO1 := hid o1
                  have R1 := hid r1
                  have HB1 := hid (HBG.out w4 B HD.out gr1)
                  clear hcs hb4 r1 o1 gr1 w1 HPU HBG HC4)
               | (at_builtin; refine wpList_append_run rfl (.tmp 17) (.tmp 19) 23 23 rfl rfl rfl R1.out ?_))
             go_roundw
             case rel => exact ⟨k2 + 1, m + 1, some ⟨g1, 0, none⟩, c1, by omega, by omega, by go_num, rfl, hid (by rw [HF2.out, List.length_append, HLN.out]; rfl), hid (by rw [HF2.out]; exact HO1.out), HB1⟩
             case measure => simp [intOf]; omega)
      · have hge : ¬ (k2 : Int) < n := by omega
        have HT := hid (show rs.take k2 = rs from List.take_of_length_le (by rw [HN.out]; omega))
        have hln := HLN.out
        have ho := HO.out
        rw [HT.out] at hln ho
        have HL2 := hid hln
        have HO2 := hid ho
        clear hln ho
        go_wp2
        go_ret
        exact ⟨⟨lo, lc, by rw [HL2.out]; rfl, by rw [HL2.out]; exact HO2.out⟩, HB.out⟩
end Go.Proofs.Ytekkbpaelojmeaa
