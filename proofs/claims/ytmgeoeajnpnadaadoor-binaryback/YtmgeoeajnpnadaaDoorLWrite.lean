/- A proof's text, by the program. -/
import Derived.Test.YtmgeoeajnpnadaaDoorLStep
import Derived.Test.YtmgeoeajnpnadaaDoorLBase
import Derived.Shelf.Strings.Builder1
namespace Lra
def textB (ss : List Stp) : List UInt8 := (ss.map lineB).flatten
theorem textB_take (ss : List Stp) (k : Nat) (h : k < ss.length) : textB (ss.take (k + 1)) = textB (ss.take k) ++ lineB ss[k] := by
  unfold textB
  rw [List.take_succ_eq_append_getElem h, List.map_append, List.flatten_append]
  simp only [List.map_cons, List.map_nil, List.flatten_cons, List.flatten_nil, List.append_nil]
end Lra
namespace Go.Proofs.YtmgeoeajnpnadaaDoor
open Go.RowKit
set_option linter.unusedVariables false
set_option linter.unusedSimpArgs false

theorem mixed : Tryd.prog.follows Departure.mixedOrders = true := by kernel_rfl
set_option maxRecDepth 100000 in
set_option maxHeartbeats 2000000 in
theorem string22_nil (base pb : Nat) (W : World) (p : Value) (ws : List Value) (h : Pg base pb W [] p (.slice none 0 0) ws) :
    Calls Tryd.prog 16 #[.pointer (some ⟨pb, 0, none⟩)] W fun e w' => e = .returned (.string ⟨#[]⟩) ∧ Below base W w' := by
  have c1 : W.drew.cell? ⟨pb, 1, none⟩ = some (.slice none 0 0) := by
    have := row_cell h.blk 1
    simpa using this
  have hSD : (Builtin.unsafeSliceData_ #[23] 69 #[.slice none 0 0]).run Tryd.prog W.drew = .ok (.pointer none) W.drew := rfl
  have hUS := Lib.run_unsafeString_none (P := Tryd.prog) W.drew 69 3 9 none
  have mx := mixed
  clear h
  go_enter Tryd.func16, Tryd.ntmps16
  go_wp2
  go_region_o
  all_goals
    go_wp2
    go_ret
    exact ⟨rfl, (Below.refl base W).drew⟩

set_option maxRecDepth 100000 in
set_option maxHeartbeats 2000000 in
theorem string22 (base pb : Nat) (W : World) (bs : List UInt8) (h : PgTo base pb W bs) (hl : bs.length ≤ 1099511627776) (h0 : bs ≠ []) :
    Calls Tryd.prog 16 #[.pointer (some ⟨pb, 0, none⟩)] W fun e w' => e = .returned (.string ⟨bs.toArray⟩) ∧ Below base W w' := by
  obtain ⟨p, v, ws, h⟩ := h
  have hcb : Tryd.prog.cellsOf 5 = 1 := by kernel_rfl
  have c1 : W.drew.cell? ⟨pb, 1, none⟩ = some v := by
    have := row_cell h.blk 1
    simpa using this
  have hl0 : bs.length ≠ 0 := by simpa using h0
  rcases h.own.2 with ⟨e, hz⟩ | ⟨g, cap, cur, e, hbg, hg, hnc, hcm, hcs, htake⟩
  · exact absurd hz hl0
  · subst e
    have hSD : (Builtin.unsafeSliceData_ #[23] 69 #[.slice (some ⟨g, 0, none⟩) bs.length cap]).run Tryd.prog W.drew = .ok (.pointer (some ⟨g, 0, none⟩)) W.drew :=
      Lib.run_unsafeSliceData_row _ _ _ _ _ _ (by omega)
    have hUS : (Builtin.unsafeString_ #[69, 3] 9 #[.pointer (some ⟨g, 0, none⟩), .int .i64 bs.length]).run Tryd.prog W.drew = .ok (.string ⟨bs.toArray⟩) (W.drew.freeze ⟨g, 0, none⟩ bs.length) := by
      refine Lib.run_unsafeString_row W.drew 69 3 9 5 Tryd.underlying69 hcb g cur.size (by have hg' : W.drew.heap[g]? = some (.cells cur 5 (0, 0)) := hg; simp [World.shape?, hg']) bs h0 (by omega) (by unfold maxLen at hcm; omega) ?_
      intro j x hx
      exact h.own.cells (g := g) rfl j (.int .u8 x.toNat) (by simp [Lib.byteCells, hx])
    have HG := hid hbg
    have mx := mixed
    clear h hcm hcs htake hg hbg hnc
    generalize bs.length = L at c1 hSD hUS hl0 hl
    go_enter Tryd.func16, Tryd.ntmps16
    go_wp2
    go_region_o
    all_goals
      go_wp2
      go_ret
      exact ⟨rfl, Lib.below_freeze (Below.drew (Below.refl base W)) (p := ⟨g, 0, none⟩) HG.out _⟩

theorem lineB_len (s : Lra.Stp) (hs : -9223372036854775808 ≤ s.id ∧ s.id ≤ 9223372036854775807) (h1 : ∀ x ∈ s.lits, -2147483648 ≤ x ∧ x ≤ 2147483647) (h2 : ∀ x ∈ s.hints, -9223372036854775808 ≤ x ∧ x ≤ 9223372036854775807) : 0 < (Lra.lineB s).length ∧ (Lra.lineB s).length ≤ 21 * (s.lits.length + s.hints.length + 4) := by
  have hw : ∀ x : Int, -9223372036854775808 ≤ x → x ≤ 9223372036854775807 → (Lra.wordB x).length ≤ 21 := fun x a b => by
    have := itoa_le x a b
    simp [Lra.wordB]; omega
  have hr : ∀ xs : List Int, (∀ x ∈ xs, -9223372036854775808 ≤ x ∧ x ≤ 9223372036854775807) → (Lra.rowB xs).length ≤ 21 * xs.length := fun xs => by
    induction xs with
    | nil => intro _; simp [Lra.rowB]
    | cons x xs ih =>
      intro h
      have a := ih (fun y hy => h y (List.mem_cons_of_mem _ hy))
      have b := hw x (h x (by simp)).1 (h x (by simp)).2
      simp [Lra.rowB] at a ⊢
      omega
  have a1 := hw s.id hs.1 hs.2
  have a2 := hr s.lits (fun x hx => by have := h1 x hx; omega)
  have a3 := hr s.hints h2
  have a4 := hw 0 (by omega) (by omega)
  have a5 := itoa_le 0 (by omega) (by omega)
  unfold Lra.lineB
  constructor
  · rw [List.length_append, show (Lib.itoa 0 ++ [(10 : UInt8)]).length = (Lib.itoa 0).length + 1 by simp]
    omega
  · rw [List.length_append, List.length_append, List.length_append, List.length_append]
    split
    · simp; omega
    · simp only [List.length_append, List.length_singleton]; omega

theorem on_start (wr : World) : On (wr.heap.size + 1) wr.heap.size wr (wr.alloc (.cells #[.pointer none, .slice none 0 0, .int .u8 0, .int .u8 0, .int .u8 0, .int .u8 0, .int .u8 0, .int .u8 0, .int .u8 0, .int .u8 0, .int .u8 0, .int .u8 0, .int .u8 0, .int .u8 0, .int .u8 0, .int .u8 0, .int .u8 0, .int .u8 0, .int .u8 0, .int .u8 0, .int .u8 0, .int .u8 0, .int .u8 0] 49)) [] :=
  ⟨⟨.pointer none, .slice none 0 0, List.replicate 21 (.int .u8 0), heap_alloc_new _ _, by simp, .inl rfl, World.ownsRow_nil _ _ _ _, by omega⟩, below_box _ _, by simp⟩
theorem pg_start (wr : World) : Pg (wr.heap.size + 1) wr.heap.size (wr.alloc (.cells #[.pointer none, .slice none 0 0, .int .u8 0, .int .u8 0, .int .u8 0, .int .u8 0, .int .u8 0, .int .u8 0, .int .u8 0, .int .u8 0, .int .u8 0, .int .u8 0, .int .u8 0, .int .u8 0, .int .u8 0, .int .u8 0, .int .u8 0, .int .u8 0, .int .u8 0, .int .u8 0, .int .u8 0, .int .u8 0, .int .u8 0] 49)) [] (.pointer none) (.slice none 0 0) (List.replicate 21 (.int .u8 0)) :=
  ⟨heap_alloc_new _ _, by simp, .inl rfl, World.ownsRow_nil _ _ _ _, by omega⟩

/-- What Write tells. -/
def LOut (ss : List Lra.Stp) (e : Ending) : Prop := e = .returned (.tuple #[.string ⟨(if ss.all Lra.may then Lra.textB ss else []).toArray⟩, .int .i64 (if ss.all Lra.may then 0 else 40)])

set_option maxRecDepth 100000 in
set_option maxHeartbeats 4000000 in
theorem write12 (a : Option Addr) (n c : Nat) (ss : List Lra.Stp) (w : World) (hn : ss.length = n) (hb : n ≤ 1000000) (hi : Lra.items ss ≤ 1000000) (hs : Steps w a ss) (hT : Tab w.heap.size w) :
    Calls Tryd.prog 7 #[.slice a n c] w fun e w' => LOut ss e ∧ Below w.heap.size w w' := by
  have C19 := hid (tooMany19 a n c ss w hn (by omega) hs (by omega))
  rw [decide_eq_false (by omega)] at C19
  have HS := hid hs
  have HN := hid hn
  have HI := hid hi
  have HT := hid hT
  have sh := hs.shape
  rw [hn] at sh
  clear hs hn hi hT
  rcases sh with Z | ⟨b, off, rfl⟩
  all_goals
    go_enter Tryd.func7, Tryd.ntmps7
    go_wp2_with (first
      | (go_at_call 13; refine C19.out.mono ?_; clear C19; rintro e W1 ⟨rfl, hb1⟩
         have HB1 := hid hb1
         clear hb1))
    go_loopw [13] (fun iv wr => ∃ k : Nat, iv = .int .i64 k ∧ k ≤ n ∧ Hid ((ss.take k).all Lra.may = true) ∧ Hid (Below w.heap.size w wr)) (fun iv _ => n - (intOf iv).toNat)
    case atStart => exact ⟨0, rfl, by omega, hid (by simp), HB1⟩
    case round =>
      clear HB1
      obtain ⟨k, rfl, hk, HA, HB⟩ := hrel
      by_cases hlt : k < n
      · have hlt' : (k : Int) < n := by omega
        first
        | (exfalso; have := Z.out; omega)
        | (have hks : k < ss.length := by rw [HN.out]; exact hlt
           obtain ⟨a1, c1, a2, c2, hst⟩ := (HS.out.below HB.out).at (j := k) hks
           have HK := hid (show (ss.take (k + 1)).all Lra.may = ((ss.take k).all Lra.may && Lra.may ss[k]) by rw [List.take_succ_eq_append_getElem hks, List.all_append]; simp)
           have HM := hid (show Lra.may ss[k] = false → ss.all Lra.may = false from fun h => by
             cases e : ss.all Lra.may
             · rfl
             · have := List.all_eq_true.1 e _ (List.getElem_mem hks); rw [h] at this; cases this)
           have hbx := below_box wr (.cells #[.int .u8 ss[k].kind, .int .i64 ss[k].id, .slice a1 ss[k].lits.length c1, .slice a2 ss[k].hints.length c2] 39)
           have C20 := hid (mayBe20 ss[k] a1 c1 a2 c2 _ (hst.v.below hbx))
           have HBX := hid hbx
           unfold sval at C20
           obtain ⟨x0, x1, x2, x3, _⟩ := hst
           generalize ss[k] = s at x0 x1 x2 x3 C20 HK HM HBX hbx
           generalize s.lits.length = m1 at x2 C20 HBX hbx
           generalize s.hints.length = m2 at x3 C20 HBX hbx
           generalize s.kind = kd at x0 C20 HBX hbx
           generalize s.id = id at x1 C20 HBX hbx
           clear hbx
           cases hm : Lra.may s
           · have HF := hid (HM.out hm)
             rw [hm] at C20
             clear HK HM hm
             go_wp2_with (first
               | (go_at_call 14; refine C20.out.mono ?_; clear C20; rintro e W4 ⟨rfl, hb4⟩
                  have HB4 := hid (HB.out.trans ((HBX.out.trans (hb4.mono HBX.out.size)).mono HB.out.size))
                  clear hb4))
             go_ret2
             refine ⟨?_, HB4.out⟩
             unfold LOut
             rw [HF.out]
             rfl
           · have HK2 := hid (show (ss.take (k + 1)).all Lra.may = true by rw [HK.out, HA.out, hm]; rfl)
             rw [hm] at C20
             clear HK HM hm
             go_wp2_with (first
               | (go_at_call 14; refine C20.out.mono ?_; clear C20; rintro e W4 ⟨rfl, hb4⟩
                  have HB4 := hid (HB.out.trans ((HBX.out.trans (hb4.mono HBX.out.size)).mono HB.out.size))
                  clear hb4))
             go_roundw
             case rel => exact ⟨k + 1, by go_num, by omega, HK2, HB4⟩
             case measure => simp [intOf]; omega)
      · have hlt' : ¬ (k : Int) < n := by omega
        have HALL := hid (show ss.all Lra.may = true by
          have := HA.out
          rwa [List.take_of_length_le (by rw [HN.out]; omega)] at this)
        go_wp2
        have HON := hid (on_start wr)
        have HPG := hid (pg_start wr)
        have hT2 : Tab wr.heap.size wr := fun w' hw => HT.out w' (HB.out.trans (hw.mono HB.out.size))
        have HT2 := hid hT2
        obtain ⟨pb, hpb⟩ : ∃ pb, wr.heap.size = pb := ⟨_, rfl⟩
        obtain ⟨wP, hwP⟩ : ∃ wP, wr.alloc (.cells #[.pointer none, .slice none 0 0, .int .u8 0, .int .u8 0, .int .u8 0, .int .u8 0, .int .u8 0, .int .u8 0, .int .u8 0, .int .u8 0, .int .u8 0, .int .u8 0, .int .u8 0, .int .u8 0, .int .u8 0, .int .u8 0, .int .u8 0, .int .u8 0, .int .u8 0, .int .u8 0, .int .u8 0, .int .u8 0, .int .u8 0] 49) = wP := ⟨_, rfl⟩
        rw [hpb, hwP] at HON HPG ⊢
        rw [hpb] at HT2
        have HP := hid hpb
        have HS2 := hid (HS.out.below HB.out)
        have HBW := hid HB.out
        have HW0 := hid (show Below pb wr wP by rw [← hpb, ← hwP]; exact below_box _ _)
        clear hT2 hpb hwP HS HT HA HB
        obtain ⟨w1, hw1⟩ : ∃ w1, wr = w1 := ⟨_, rfl⟩
        rw [hw1] at HON HT2 HP HS2 HBW HW0
        clear hw1
        go_loopw [23] (fun iv wz => ∃ (q : Nat) (bs : List UInt8), iv = .int .i64 q ∧ q ≤ n ∧ Hid (bs = Lra.textB (ss.take q)) ∧ Hid (bs.length ≤ 21 * (Lra.items (ss.take q) + 4 * q)) ∧ Hid (On (pb + 1) pb w1 wz bs) ∧ Hid (q = 0 → wz = wP) ∧ Hid (0 < q → bs ≠ [])) (fun iv _ => n - (intOf iv).toNat)
        case atStart => exact ⟨0, [], rfl, by omega, hid (by simp [Lra.textB]), hid (by simp), HON, hid (fun _ => rfl), hid (fun h => by omega)⟩
        case round =>
          clear HON
          obtain ⟨q, bs, rfl, hq, HZ, HZL, HO, HQ0, HQ1⟩ := hrel
          by_cases hl2 : q < n
          · have hl2' : (q : Int) < n := by omega
            first
            | (exfalso; have := Z.out; omega)
            | (have hks : q < ss.length := by rw [HN.out]; exact hl2
               have hbl := HO.out.bl
               rw [← HP.out] at hbl
               obtain ⟨a1, c1, a2, c2, hst⟩ := (HS2.out.below hbl).at (j := q) hks
               obtain ⟨a1', c1', a2', c2', hst0⟩ := HS2.out.at (j := q) hks
               have HTK := hid (Lra.items_take ss q hks)
               have HTE := hid (Lra.items_le ss (q + 1))
               have HTX := hid (show Lra.textB (ss.take (q + 1)) = Lra.textB (ss.take q) ++ Lra.lineB ss[q] from Lra.textB_take ss q hks)
               have hv0 := hst0.v
               have e2 := (hbl.cell (p := ⟨b, off + q * 4 + 2, none⟩) (cell_lt hst0.k)).symm.trans hst.l
               rw [hst0.l] at e2
               have e3 := (hbl.cell (p := ⟨b, off + q * 4 + 3, none⟩) (cell_lt hst0.k)).symm.trans hst.h
               rw [hst0.h] at e3
               cases e2
               cases e3
               have HLB := hid (lineB_len ss[q] hv0.i hv0.l.1 hv0.h.1)
               have C21 := hid (step21 (pb + 1) pb w1 _ bs ss[q] a1 c1 a2 c2 HP.out hv0 (HO.out.box (.cells #[.int .u8 ss[q].kind, .int .i64 ss[q].id, .slice a1 ss[q].lits.length c1, .slice a2 ss[q].hints.length c2] 39)) HT2.out (by
                 have h1 := HZL.out
                 have h2 := HTE.out
                 rw [HTK.out] at h2
                 have h3 := HI.out
                 omega))
               unfold sval at C21
               obtain ⟨x0, x1, x2, x3, _⟩ := hst
               clear hst0 hv0 hbl
               generalize ss[q] = s at x0 x1 x2 x3 C21 HTK HTX HLB
               have HLN := hid (show (Lra.lineB s).length ≤ 21 * (s.lits.length + s.hints.length + 4) from HLB.out.2)
               generalize s.lits.length = m1 at x2 C21 HTK HLN
               generalize s.hints.length = m2 at x3 C21 HTK HLN
               generalize s.kind = kd at x0 C21
               generalize s.id = id at x1 C21
               go_wp2_with (first
                 | (go_at_call 15; refine C21.out.mono ?_; clear C21; rintro e W4 ⟨⟨r, rfl⟩, hO4, hF4⟩
                    have HO4 := hid hO4
                    clear hO4 hF4))
               go_roundw
               case rel => exact ⟨q + 1, _, by go_num, by omega, hid (by rw [HTX.out, HZ.out]), hid (by have h1 := HZL.out; have h2 := HLN.out; rw [HTK.out, List.length_append]; omega), HO4, hid (fun h => by omega), hid (fun _ h => by have := HLB.out.1; have e := congrArg List.length h; rw [List.length_append] at e; simp at e; have := List.length_pos_iff.1 this; exact this e.2)⟩
               case measure => simp [intOf]; omega)
          · have hl2' : ¬ (q : Int) < n := by omega
            have hze : bs = Lra.textB ss := by
              have := HZ.out
              rwa [List.take_of_length_le (by rw [HN.out]; omega)] at this
            have HZE := hid hze
            have hbl : bs.length ≤ 1099511627776 := by
              have h1 := HZL.out
              have h2 := Lra.items_le ss q
              have h3 := HI.out
              omega
            have HBF := hid (fun (X : World) (hx : Below (pb + 1) wr X) => HBW.out.trans ((HO.out.bl.trans (hx.mono (by omega))).mono (by rw [← HP.out]; exact HBW.out.size)))
            have C22 : Hid (Calls Tryd.prog 16 #[.pointer (some ⟨pb, 0, none⟩)] wr fun e w' => e = .returned (.string ⟨bs.toArray⟩) ∧ Below (pb + 1) wr w') := by
              rcases Nat.eq_zero_or_pos q with h0 | h0
              · have e1 := HQ0.out h0
                have e2 : bs = [] := by rw [HZ.out, h0]; rfl
                rw [e1, e2]
                exact hid (string22_nil (pb + 1) pb wP _ _ HPG.out)
              · exact hid (string22 (pb + 1) pb wr bs HO.out.pg hbl (HQ1.out h0))
            clear hze hbl
            go_wp2_with (first
              | (go_at_call 16; refine C22.out.mono ?_; clear C22; rintro e W5 ⟨rfl, hb5⟩
                 have HB5 := hid (HBF.out _ hb5)
                 clear hb5))
            go_ret2
            refine ⟨?_, HB5.out⟩
            unfold LOut
            rw [HALL.out, HZE.out]
            rfl
end Go.Proofs.YtmgeoeajnpnadaaDoor
