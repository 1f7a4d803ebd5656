/- Steps: the walk. -/
import Derived.Test.YthpebfojkpnojaaSts
namespace Go.Proofs.Ythpebfojkpnojaa
open Go.RowKit Go.Maps
set_option linter.unusedVariables false
set_option linter.unusedSimpArgs false
set_option maxRecDepth 100000
set_option maxHeartbeats 8000000 in
theorem steps16 {M : Nat → Prop} {bb K : Nat} {s : Bas.S} {W : World} (h : Bs M bb K s W) (hns : Bas.nsteps s ≤ 4194304) (hn : s.rules.length ≤ 1000000000) (hk : ∀ r ∈ s.rules, (r.kind = 1 ∨ r.kind = 2 ∨ r.kind = 3 ∨ r.kind = 4 ∨ r.kind = 5) ∧ r.lits.length ≤ 16777216 ∧ r.hints.length ≤ 16777216) :
    Calls Try.prog 16 #[.pointer (some ⟨bb, 0, none⟩)] W fun en w' => EntOut (Bas.nsteps s) W en w' := by
  obtain ⟨ro, rc, x5, hru⟩ := h.rulesAt
  obtain ⟨x1, x6⟩ := h.formc
  have HKD := hid (fun k (hk2 : k < s.rules.length) => hk s.rules[k] (List.getElem_mem hk2))
  have HRU := hid hru
  have HNS := hid (show Bas.cnt s.rules s.rules.length = Bas.nsteps s from Bas.cnt_all _ _)
  have HCS := hid (Bas.cnt_succ s.rules)
  have HCL := hid (Bas.cnt_le s.rules)
  obtain ⟨i0, hi, hz⟩ := Option.map_eq_some_iff.1 info94
  simp only [Prod.mk.injEq] at hz
  have hmk := run_makeSlice (P := Try.prog) W 46 94 i0 (.agg #[.int .u8 0, .int .i64 0, .slice none 0 0, .slice none 0 0]) Try.underlying46 hi hz.1 .i64 .i64 (0 : Int) (Bas.nsteps s : Int) (by omega) (by omega) (by rw [hz.2.1]; omega) (by rw [hz.2.2]; omega) (by omega)
  simp only [hz.2.1, Int.toNat_natCast] at hmk
  have hB1 := below_box W (.cells (madeCells (Value.agg #[.int .u8 0, .int .i64 0, .slice none 0 0, .slice none 0 0]).cells (Bas.nsteps s * 4)) 94)
  have hg1 := heap_alloc_new W (.cells (madeCells (Value.agg #[.int .u8 0, .int .i64 0, .slice none 0 0, .slice none 0 0]).cells (Bas.nsteps s * 4)) 94)
  generalize hW1 : W.alloc (.cells (madeCells (Value.agg #[.int .u8 0, .int .i64 0, .slice none 0 0, .slice none 0 0]).cells (Bas.nsteps s * 4)) 94) = W1 at hB1 hg1 hmk
  have hmk' : (Instr.makeSlice 46 (.int .i64 0) (.int .i64 (Bas.nsteps s : Nat))).run Try.prog W = .ok (.slice (some ⟨W.heap.size, 0, none⟩) 0 (Bas.nsteps s)) W1 := hmk
  have y1 : W1.cell? ⟨bb, 1, none⟩ = some (.int .i64 s.form) := (hB1.cell (p := ⟨bb, 1, none⟩) (cell_lt x1)).trans x1
  have y5 : W1.cell? ⟨bb, 5, none⟩ = some (.slice ro s.rules.length rc) := (hB1.cell (p := ⟨bb, 5, none⟩) (cell_lt x5)).trans x5
  have HO0 := hid (show W1.ownsRow W.heap.size 94 4 (.slice (some ⟨W.heap.size, 0, none⟩) (Bas.cnt s.rules 0) (Bas.nsteps s)) (Bas.cnt s.rules 0) [] from by
    rw [Bas.cnt_zero]
    exact ⟨rfl, .inr ⟨W.heap.size, Bas.nsteps s, _, rfl, Nat.le_refl _, hg1, Nat.zero_le _, by unfold maxLen; omega, by rw [size_madeCells], by simp⟩⟩)
  have HC0 := hid (Bas.cnt_zero s.rules)
  have HB0 := hid hB1
  generalize hNS : Bas.nsteps s = ns at *
  have HN := hid hn
  clear h hru hk hi hz hmk hB1 hg1 hW1 hn hNS
  rw [HC0.out] at HO0
  generalize s.form = fo at *
  obtain ⟨n, hnn⟩ : ∃ n, s.rules.length = n := ⟨_, rfl⟩
  rw [hnn] at y5 x5 HNS
  have HNN := hid hnn
  have hn9 : n ≤ 1000000000 := by rw [← hnn]; exact HN.out
  clear hnn
  go_enter Try.func16, Try.ntmps16
  go_wp2_with fail
  go_loopw [3, 4, 23] (fun lv av iv wr => ∃ (k2 m : Nat) (lb : Nat) (lc : Nat) (la : Int) (xs : List Value), k2 ≤ n ∧ iv = .int .i64 k2 ∧ lv = .slice (some ⟨lb, 0, none⟩) m lc ∧ av = .int .i64 la ∧ Hid (Bas.cnt s.rules k2 = m) ∧ Hid (wr.ownsRow W.heap.size 94 4 (.slice (some ⟨lb, 0, none⟩) m lc) m xs) ∧ Hid (Below W.heap.size W wr)) (fun _ _ iv _ => n - (intOf iv).toNat)
  case atStart => exact ⟨0, 0, W.heap.size, ns, fo, [], Nat.zero_le _, rfl, rfl, rfl, HC0, HO0, HB0⟩
  case round =>
    clear HO0 HB0 y1 y5 x1 x5 x6 hmk'
    obtain ⟨k2, m, lb, lc, la, xs, hk2, rfl, rfl, rfl, HM, HO, HB⟩ := hrel
    by_cases hlt : k2 < n
    · have hlt' : (k2 : Int) < n := by omega
      have hkl : k2 < s.rules.length := by rw [HNN.out]; exact hlt
      obtain ⟨gr, a, c, a2, c2, rfl, r0, r1, r2, r3, r4, r5, hL, hH⟩ := HRU.out k2 hkl
      have hW : ∀ t v, W.cell? ⟨gr, t, none⟩ = some v → wr.cell? ⟨gr, t, none⟩ = some v := fun t v hv => (HB.out.cell (p := ⟨gr, t, none⟩) (cell_lt hv)).trans hv
      have q0 := hW _ _ r0
      have q1 := hW _ _ r1
      have q2 := hW _ _ r2
      have q3 := hW _ _ r3
      have q4 := hW _ _ r4
      have q5 := hW _ _ r5
      have HKk := hid (HKD.out k2 hkl)
      have HCk := hid (HCS.out k2 hkl)
      have hm9 : m ≤ 1000000000 := by have h1 := HCL.out k2; have h2 := HM.out; have h3 := HN.out; have h4 := HNN.out; omega
      have hL2 := hL.below HB.out
      have hH2 := hH.below HB.out
      clear hW r0 r1 r2 r3 r4 r5 hL hH
      generalize hrk : s.rules[k2] = r at *
      clear hrk
      obtain ⟨kd, id, by_, red, lits, hints⟩ := r
      simp only at q0 q1 q2 q3 q4 q5 HKk HCk hL2 hH2
      have C31 := hid (fun X (hX : Below wr.heap.size wr X) => clone31 a lits.length c lits X rfl HKk.out.2.1 (hL2.below hX))
      have C34 := hid (fun X (hX : Below wr.heap.size wr X) => clone34 a2 hints.length c2 hints X rfl HKk.out.2.2 (hH2.below hX))
      have HKD1 := hid HKk.out.1
      clear hL2 hH2 HKk
      generalize lits.length = l1 at *
      generalize hints.length = l2 at *
      have PUSH := hid (fun (W5 : World) (hb5 : Below wr.heap.size wr W5) (q i : Int) o n1 c1 o2 n2 c2' => push94 (own_below HO.out hb5) q i o n1 c1 o2 n2 c2' (Nat.le_trans HB.out.size hb5.size) hm9)
      have NEXT := hid (fun (W5 B : World) (X : Obj) (hb5 : Below wr.heap.size wr W5) (gr : (W5.alloc X).grownBy B (Value.slice (some ⟨lb, 0, none⟩) m lc).ownBlock) => show Below W.heap.size W B from by
        have hbx := below_box W5 X
        have hB5 : Below W.heap.size W (W5.alloc X) := (HB.out.trans (hb5.mono HB.out.size)).trans (hbx.mono (Nat.le_trans HB.out.size hb5.size))
        exact below_grown hB5 gr (fun q hq => (own_blk HO.out hq).1) hB5.size)
      by_cases h1 : kd = 1
      · subst h1
        have HCk1 := hid (show Bas.cnt s.rules (k2 + 1) = m + 1 from by rw [HCk.out, HM.out]; rfl)
        clear HKD1 HCk
        go_wp2_with fail
        have POST := hid (fun (w4 : World) (hb4 : Below (wr.alloc (.cells #[.int .u8 1, .int .i64 id, .int .i64 by_, .bool red, .slice a l1 c, .slice a2 l2 c2] 81)).heap.size (wr.alloc (.cells #[.int .u8 1, .int .i64 id, .int .i64 by_, .bool red, .slice a l1 c, .slice a2 l2 c2] 81)) w4) => show (w4.cell? ⟨wr.heap.size, 1, none⟩ = some (.int .i64 id) ∧ w4.cell? ⟨wr.heap.size, 4, none⟩ = some (.slice a l1 c) ∧ w4.cell? ⟨wr.heap.size, 5, none⟩ = some (.slice a2 l2 c2)) ∧ Below wr.heap.size wr w4 from by
          have hh := (hb4.block wr.heap.size (by simp)).trans (heap_alloc_new wr (.cells #[.int .u8 1, .int .i64 id, .int .i64 by_, .bool red, .slice a l1 c, .slice a2 l2 c2] 81))
          exact ⟨⟨row_cell hh 1, row_cell hh 4, row_cell hh 5⟩, (below_box wr _).trans (hb4.mono (by simp))⟩)
        have BB := hid (Below.refl (wr.alloc (.cells #[.int .u8 1, .int .i64 id, .int .i64 by_, .bool red, .slice a l1 c, .slice a2 l2 c2] 81)).heap.size (wr.alloc (.cells #[.int .u8 1, .int .i64 id, .int .i64 by_, .bool red, .slice a l1 c, .slice a2 l2 c2] 81)))
        have v1 := (POST.out _ BB.out).1.1
        have v4 := (POST.out _ BB.out).1.2.1
        have v5 := (POST.out _ BB.out).1.2.2
        go_region_held3 (fun X => X.cell? ⟨wr.heap.size, 1, none⟩ = some (.int .i64 id) ∧ X.cell? ⟨wr.heap.size, 4, none⟩ = some (.slice a l1 c) ∧ X.cell? ⟨wr.heap.size, 5, none⟩ = some (.slice a2 l2 c2))
          (first | exact (POST.out _ BB.out.drew).1 | exact (POST.out _ BB.out).1 | exact (POST.out _ hb4).1 | exact (POST.out _ hb5).1 | exact (POST.out _ (hb5.trans ((below_box w5 _).mono hb5.size))).1 | exact C9.out)
          (first
            | (go_at_call 31; refine (C31.out _ (POST.out _ BB.out.drew).2).mono ?_; rintro e w4 ⟨o4, c4, rfl, ho4, hb4'⟩
               have hb4 := BB.out.drew.trans (hb4'.mono (by simp))
               clear ho4 hb4')
            | (go_at_call 34; refine (C34.out _ (POST.out _ hb4).2).mono ?_; rintro e w5 ⟨o5, c5, rfl, ho5, hb5'⟩
               have hb5 := hb4.trans (hb5'.mono hb4.size)
               clear ho5 hb5'
               obtain ⟨g9, c9, B, r9, o9, gr9, w9⟩ := PUSH.out _ (POST.out _ hb5).2 1 id o4 l1 c4 o5 l2 c5
               have R9 := hid r9
               have O9 := hid o9
               have N9 := hid (NEXT.out _ B _ (POST.out _ hb5).2 gr9)
               have C9 := hid (show B.cell? ⟨wr.heap.size, 1, none⟩ = some (.int .i64 id) ∧ B.cell? ⟨wr.heap.size, 4, none⟩ = some (.slice a l1 c) ∧ B.cell? ⟨wr.heap.size, 5, none⟩ = some (.slice a2 l2 c2) from by
                 have hh := (gr9.block wr.heap.size (by have := hb5.size; simp at this ⊢; omega) (fun e => by obtain ⟨_, cur, hq⟩ := own_blk HO.out e.symm; exact Nat.lt_irrefl _ (lt_of_blk hq))).trans (((hb5.trans ((below_box w5 _).mono hb5.size)).block wr.heap.size (by simp)).trans (heap_alloc_new wr (.cells #[.int .u8 1, .int .i64 id, .int .i64 by_, .bool red, .slice a l1 c, .slice a2 l2 c2] 81)))
                 exact ⟨row_cell hh 1, row_cell hh 4, row_cell hh 5⟩)
               clear r9 o9 gr9 w9)
            | (refine step_append_run rfl (.tmp 33) (.tmp 43) 46 46 (by rfl) (by rfl) (by rfl) R9.out ?_))
        all_goals
          go_wp2_with fail
          go_roundw
          case rel => exact ⟨k2 + 1, m + 1, g9, c9, id, _, by omega, by go_num, rfl, rfl, HCk1, O9, N9⟩
          case measure => simp [intOf]; omega
      · by_cases h2 : kd = 2
        · subst h2
          have HCk1 := hid (show Bas.cnt s.rules (k2 + 1) = m from by rw [HCk.out, HM.out]; rfl)
          clear HKD1 HCk
          have HO1 := hid (fun o => own_below HO.out (below_box wr o))
          have HB1 := hid (fun o => HB.out.trans ((below_box wr o).mono HB.out.size))
          go_wp2_with fail
          go_roundw
          case rel => exact ⟨k2 + 1, m, lb, lc, la, xs, by omega, by go_num, rfl, rfl, HCk1, hid (HO1.out _), hid (HB1.out _)⟩
          case measure => simp [intOf]; omega
        · have HCk1 := hid (show Bas.cnt s.rules (k2 + 1) = m + 1 from by rw [HCk.out, HM.out, if_neg h2])
          have hbb : Below wr.heap.size wr ((wr.alloc (.cells #[.int .u8 kd, .int .i64 id, .int .i64 by_, .bool red, .slice a l1 c, .slice a2 l2 c2] 81)).alloc (.cells #[.int .i64 id] 2)) := (below_box wr _).trans ((below_box _ _).mono (by simp))
          obtain ⟨g9, c9, B, r9, o9, gr9, w9⟩ := PUSH.out _ hbb 2 la none 0 0 (some ⟨wr.heap.size + 1, 0, none⟩) 1 1
          simp only [alloc_size] at r9
          have R9 := hid r9
          have O9 := hid o9
          have N9 := hid (NEXT.out _ B _ hbb gr9)
          clear hbb r9 o9 gr9 w9 PUSH NEXT HCk C31 C34
          have hk3 : kd = 3 ∨ kd = 4 ∨ kd = 5 := by have := HKD1.out; omega
          clear HKD1 h1 h2
          rcases hk3 with rfl | rfl | rfl
          all_goals
            go_wp2_with (at_builtin; refine wpList_append_run rfl (.tmp 49) (.tmp 55) 46 46 rfl rfl rfl R9.out ?_)
            go_roundw
            case rel => exact ⟨k2 + 1, m + 1, g9, c9, la, _, by omega, by go_num, rfl, rfl, HCk1, O9, N9⟩
            case measure => simp [intOf]; omega
    · have hge : ¬ (k2 : Int) < n := by omega
      obtain rfl : k2 = n := by omega
      have HE := hid (show m = ns from by rw [← HM.out, HNS.out])
      obtain rfl := HE.out
      go_wp2_with fail
      go_ret
      exact ⟨_, _, rfl, HB.out⟩
end Go.Proofs.Ythpebfojkpnojaa
