/- Steps: the walk. -/
import Derived.Test.YthpebfojkpnojaaGreatJbh
import Derived.Shelf.SlIterI.Nil
import Derived.Shelf.SortM.Plain
import Derived.Shelf.SortM.SortNone
import Derived.Ground.GgzProg
import Derived.Ground.SlgmProg
import Derived.Test.YthpebfojkpnojaaGreatProg
/- Steps: the walk. -/
namespace Go.Proofs.YthpebfojkpnojaaGreat
open Go.RowKit Go.Maps
set_option linter.unusedVariables false
set_option linter.unusedSimpArgs false
set_option maxRecDepth 100000
set_option maxHeartbeats 8000000 in
theorem steps16 {M : Nat → Prop} {bb K : Nat} {s : Bas.S} {W : World} (h : Bs M bb K s W) (hns : Bas.nsteps s ≤ 4194304) (hn : s.rules.length ≤ 1000000000) (hk : ∀ r ∈ s.rules, (r.kind = 1 ∨ r.kind = 2 ∨ r.kind = 3 ∨ r.kind = 4 ∨ r.kind = 5) ∧ r.lits.length ≤ 16777216 ∧ r.hints.length ≤ 16777216) :
    Calls Tryz.prog 38 #[.pointer (some ⟨bb, 0, none⟩)] W fun en w' => EntOut (Bas.nsteps s) W en w' := by
  obtain ⟨ro, rc, x5, hru⟩ := h.rulesAt
  obtain ⟨x1, x6⟩ := h.formc
  have HKD := hid (fun k (hk2 : k < s.rules.length) => hk s.rules[k] (List.getElem_mem hk2))
  have HRU := hid hru
  have HNS := hid (show Bas.cnt s.rules s.rules.length = Bas.nsteps s from Bas.cnt_all _ _)
  have HCS := hid (Bas.cnt_succ s.rules)
  have HCL := hid (Bas.cnt_le s.rules)
  obtain ⟨i0, hi, hz⟩ := Option.map_eq_some_iff.1 info94
  simp only [Prod.mk.injEq] at hz
  have hmk := run_makeSlice (P := Tryz.prog) W 79 111 i0 (.agg #[.int .u8 0, .int .i64 0, .slice none 0 0, .slice none 0 0]) Tryz.underlying79 hi hz.1 .i64 .i64 (0 : Int) (Bas.nsteps s : Int) (by omega) (by omega) (by rw [hz.2.1]; omega) (by rw [hz.2.2]; omega) (by omega)
  simp only [hz.2.1, Int.toNat_natCast] at hmk
  have hB1 := below_box W (.cells (madeCells (Value.agg #[.int .u8 0, .int .i64 0, .slice none 0 0, .slice none 0 0]).cells (Bas.nsteps s * 4)) 111)
  have hg1 := heap_alloc_new W (.cells (madeCells (Value.agg #[.int .u8 0, .int .i64 0, .slice none 0 0, .slice none 0 0]).cells (Bas.nsteps s * 4)) 111)
  generalize hW1 : W.alloc (.cells (madeCells (Value.agg #[.int .u8 0, .int .i64 0, .slice none 0 0, .slice none 0 0]).cells (Bas.nsteps s * 4)) 111) = W1 at hB1 hg1 hmk
  have hmk' : (Instr.makeSlice 79 (.int .i64 0) (.int .i64 (Bas.nsteps s : Nat))).run Tryz.prog W = .ok (.slice (some ⟨W.heap.size, 0, none⟩) 0 (Bas.nsteps s)) W1 := hmk
  have y1 : W1.cell? ⟨bb, 1, none⟩ = some (.int .i64 s.form) := (hB1.cell (p := ⟨bb, 1, none⟩) (cell_lt x1)).trans x1
  have y5 : W1.cell? ⟨bb, 5, none⟩ = some (.slice ro s.rules.length rc) := (hB1.cell (p := ⟨bb, 5, none⟩) (cell_lt x5)).trans x5
  have HO0 := hid (show W1.ownsRow W.heap.size 111 4 (.slice (some ⟨W.heap.size, 0, none⟩) (Bas.cnt s.rules 0) (Bas.nsteps s)) (Bas.cnt s.rules 0) [] from by
    rw [Bas.cnt_zero]
    exact ⟨rfl, .inr ⟨W.heap.size, Bas.nsteps s, _, rfl, Nat.le_refl _, hg1, Nat.zero_le _, by unfold maxLen; omega, by rw [size_madeCells], by simp⟩⟩)
  have HC0 := hid (Bas.cnt_zero s.rules)
  have HB0 := hid hB1
  generalize hNS : Bas.nsteps s = ns at *
  have HN := hid hn
  clear h hru hk hi hz hmk hB1 hg1 hW1 hn hNS
  rw [HC0.out] at HO0
  generalize s.form = fo at *
  obtain ⟨n, hnn⟩ : ∃ n, s.rules.length = n := ⟨_, rfl⟩
  rw [hnn] at y5 x5 HNS
  have HNN := hid hnn
  have hn9 : n ≤ 1000000000 := by rw [← hnn]; exact HN.out
  clear hnn
  go_enter Tryz.func38, Tryz.ntmps38
  go_wp2_with fail
  go_loopw [3, 4, 23] (fun lv av iv wr => ∃ (k2 m : Nat) (lb : Nat) (lc : Nat) (la : Int) (xs : List Value), k2 ≤ n ∧ iv = .int .i64 k2 ∧ lv = .slice (some ⟨lb, 0, none⟩) m lc ∧ av = .int .i64 la ∧ Hid (Bas.cnt s.rules k2 = m) ∧ Hid (wr.ownsRow W.heap.size 111 4 (.slice (some ⟨lb, 0, none⟩) m lc) m xs) ∧ Hid (Below W.heap.size W wr)) (fun _ _ iv _ => n - (intOf iv).toNat)
  case atStart => exact ⟨0, 0, W.heap.size, ns, fo, [], Nat.zero_le _, rfl, rfl, rfl, HC0, HO0, HB0⟩
  case round =>
    clear HO0 HB0 y1 y5 x1 x5 x6 hmk'
    obtain ⟨k2, m, lb, lc, la, xs, hk2, rfl, rfl, rfl, HM, HO, HB⟩ := hrel
    by_cases hlt : k2 < n
    · have hlt' : (k2 : Int) < n := by omega
      have hkl : k2 < s.rules.length := by rw [HNN.out]; exact hlt
      obtain ⟨gr, a, c, a2, c2, rfl, r0, r1, r2, r3, r4, r5, hL, hH⟩ := HRU.out k2 hkl
      have hW : ∀ t v, W.cell? ⟨gr, t, none⟩ = some v → wr.cell? ⟨gr, t, none⟩ = some v := fun t v hv => (HB.out.cell (p := ⟨gr, t, none⟩) (cell_lt hv)).trans hv
      have q0 := hW _ _ r0
      have q1 := hW _ _ r1
      have q2 := hW _ _ r2
      have q3 := hW _ _ r3
      have q4 := hW _ _ r4
      have q5 := hW _ _ r5
      have HKk := hid (HKD.out k2 hkl)
      have HCk := hid (HCS.out k2 hkl)
      have hm9 : m ≤ 1000000000 := by have h1 := HCL.out k2; have h2 := HM.out; have h3 := HN.out; have h4 := HNN.out; omega
      have hL2 := hL.below HB.out
      have hH2 := hH.below HB.out
      clear hW r0 r1 r2 r3 r4 r5 hL hH
      generalize hrk : s.rules[k2] = r at *
      clear hrk
      obtain ⟨kd, id, by_, red, lits, hints⟩ := r
      simp only at q0 q1 q2 q3 q4 q5 HKk HCk hL2 hH2
      have C31 := hid (fun X (hX : Below wr.heap.size wr X) => clone31 a lits.length c lits X rfl HKk.out.2.1 (hL2.below hX))
      have C34 := hid (fun X (hX : Below wr.heap.size wr X) => clone34 a2 hints.length c2 hints X rfl HKk.out.2.2 (hH2.below hX))
      have HKD1 := hid HKk.out.1
      clear hL2 hH2 HKk
      generalize lits.length = l1 at *
      generalize hints.length = l2 at *
      have PUSH := hid (fun (W5 : World) (hb5 : Below wr.heap.size wr W5) (q i : Int) o n1 c1 o2 n2 c2' => push94 (own_below HO.out hb5) q i o n1 c1 o2 n2 c2' (Nat.le_trans HB.out.size hb5.size) hm9)
      have NEXT := hid (fun (W5 B : World) (X : Obj) (hb5 : Below wr.heap.size wr W5) (gr : (W5.alloc X).grownBy B (Value.slice (some ⟨lb, 0, none⟩) m lc).ownBlock) => show Below W.heap.size W B from by
        have hbx := below_box W5 X
        have hB5 : Below W.heap.size W (W5.alloc X) := (HB.out.trans (hb5.mono HB.out.size)).trans (hbx.mono (Nat.le_trans HB.out.size hb5.size))
        exact below_grown hB5 gr (fun q hq => (own_blk HO.out hq).1) hB5.size)
      by_cases h1 : kd = 1
      · subst h1
        have HCk1 := hid (show Bas.cnt s.rules (k2 + 1) = m + 1 from by rw [HCk.out, HM.out]; rfl)
        clear HKD1 HCk
        go_wp2_with fail
        have POST := hid (fun (w4 : World) (hb4 : Below (wr.alloc (.cells #[.int .u8 1, .int .i64 id, .int .i64 by_, .bool red, .slice a l1 c, .slice a2 l2 c2] 92)).heap.size (wr.alloc (.cells #[.int .u8 1, .int .i64 id, .int .i64 by_, .bool red, .slice a l1 c, .slice a2 l2 c2] 92)) w4) => show (w4.cell? ⟨wr.heap.size, 1, none⟩ = some (.int .i64 id) ∧ w4.cell? ⟨wr.heap.size, 4, none⟩ = some (.slice a l1 c) ∧ w4.cell? ⟨wr.heap.size, 5, none⟩ = some (.slice a2 l2 c2)) ∧ Below wr.heap.size wr w4 from by
          have hh := (hb4.block wr.heap.size (by simp)).trans (heap_alloc_new wr (.cells #[.int .u8 1, .int .i64 id, .int .i64 by_, .bool red, .slice a l1 c, .slice a2 l2 c2] 92))
          exact ⟨⟨row_cell hh 1, row_cell hh 4, row_cell hh 5⟩, (below_box wr _).trans (hb4.mono (by simp))⟩)
        have BB := hid (Below.refl (wr.alloc (.cells #[.int .u8 1, .int .i64 id, .int .i64 by_, .bool red, .slice a l1 c, .slice a2 l2 c2] 92)).heap.size (wr.alloc (.cells #[.int .u8 1, .int .i64 id, .int .i64 by_, .bool red, .slice a l1 c, .slice a2 l2 c2] 92)))
        have v1 := (POST.out _ BB.out).1.1
        have v4 := (POST.out _ BB.out).1.2.1
        have v5 := (POST.out _ BB.out).1.2.2
        go_region_held3 (fun X => X.cell? ⟨wr.heap.size, 1, none⟩ = some (.int .i64 id) ∧ X.cell? ⟨wr.heap.size, 4, none⟩ = some (.slice a l1 c) ∧ X.cell? ⟨wr.heap.size, 5, none⟩ = some (.slice a2 l2 c2))
          (first | exact (POST.out _ BB.out.drew).1 | exact (POST.out _ BB.out).1 | exact (POST.out _ hb4).1 | exact (POST.out _ hb5).1 | exact (POST.out _ (hb5.trans ((below_box w5 _).mono hb5.size))).1 | exact C9.out)
          (first
            | (go_at_call 35; refine (C31.out _ (POST.out _ BB.out.drew).2).mono ?_; rintro e w4 ⟨o4, c4, rfl, ho4, hb4'⟩
               have hb4 := BB.out.drew.trans (hb4'.mono (by simp))
               clear ho4 hb4')
            | (go_at_call 40; refine (C34.out _ (POST.out _ hb4).2).mono ?_; rintro e w5 ⟨o5, c5, rfl, ho5, hb5'⟩
               have hb5 := hb4.trans (hb5'.mono hb4.size)
               clear ho5 hb5'
               obtain ⟨g9, c9, B, r9, o9, gr9, w9⟩ := PUSH.out _ (POST.out _ hb5).2 1 id o4 l1 c4 o5 l2 c5
               have R9 := hid r9
               have O9 := hid o9
               have N9 := hid (NEXT.out _ B _ (POST.out _ hb5).2 gr9)
               have C9 := hid (show B.cell? ⟨wr.heap.size, 1, none⟩ = some (.int .i64 id) ∧ B.cell? ⟨wr.heap.size, 4, none⟩ = some (.slice a l1 c) ∧ B.cell? ⟨wr.heap.size, 5, none⟩ = some (.slice a2 l2 c2) from by
                 have hh := (gr9.block wr.heap.size (by have := hb5.size; simp at this ⊢; omega) (fun e => by obtain ⟨_, cur, hq⟩ := own_blk HO.out e.symm; exact Nat.lt_irrefl _ (lt_of_blk hq))).trans (((hb5.trans ((below_box w5 _).mono hb5.size)).block wr.heap.size (by simp)).trans (heap_alloc_new wr (.cells #[.int .u8 1, .int .i64 id, .int .i64 by_, .bool red, .slice a l1 c, .slice a2 l2 c2] 92)))
                 exact ⟨row_cell hh 1, row_cell hh 4, row_cell hh 5⟩)
               clear r9 o9 gr9 w9)
            | (refine step_append_run rfl (.tmp 33) (.tmp 43) 79 79 (by rfl) (by rfl) (by rfl) R9.out ?_))
        all_goals
          go_wp2_with fail
          go_roundw
          case rel => exact ⟨k2 + 1, m + 1, g9, c9, id, _, by omega, by go_num, rfl, rfl, HCk1, O9, N9⟩
          case measure => simp [intOf]; omega
      · by_cases h2 : kd = 2
        · subst h2
          have HCk1 := hid (show Bas.cnt s.rules (k2 + 1) = m from by rw [HCk.out, HM.out]; rfl)
          clear HKD1 HCk
          have HO1 := hid (fun o => own_below HO.out (below_box wr o))
          have HB1 := hid (fun o => HB.out.trans ((below_box wr o).mono HB.out.size))
          go_wp2_with fail
          go_roundw
          case rel => exact ⟨k2 + 1, m, lb, lc, la, xs, by omega, by go_num, rfl, rfl, HCk1, hid (HO1.out _), hid (HB1.out _)⟩
          case measure => simp [intOf]; omega
        · have HCk1 := hid (show Bas.cnt s.rules (k2 + 1) = m + 1 from by rw [HCk.out, HM.out, if_neg h2])
          have hbb : Below wr.heap.size wr ((wr.alloc (.cells #[.int .u8 kd, .int .i64 id, .int .i64 by_, .bool red, .slice a l1 c, .slice a2 l2 c2] 92)).alloc (.cells #[.int .i64 id] 2)) := (below_box wr _).trans ((below_box _ _).mono (by simp))
          obtain ⟨g9, c9, B, r9, o9, gr9, w9⟩ := PUSH.out _ hbb 2 la none 0 0 (some ⟨wr.heap.size + 1, 0, none⟩) 1 1
          simp only [alloc_size] at r9
          have R9 := hid r9
          have O9 := hid o9
          have N9 := hid (NEXT.out _ B _ hbb gr9)
          clear hbb r9 o9 gr9 w9 PUSH NEXT HCk C31 C34
          have hk3 : kd = 3 ∨ kd = 4 ∨ kd = 5 := by have := HKD1.out; omega
          clear HKD1 h1 h2
          rcases hk3 with rfl | rfl | rfl
          all_goals
            go_wp2_with (at_builtin; refine wpList_append_run rfl (.tmp 49) (.tmp 55) 79 79 rfl rfl rfl R9.out ?_)
            go_roundw
            case rel => exact ⟨k2 + 1, m + 1, g9, c9, la, _, by omega, by go_num, rfl, rfl, HCk1, O9, N9⟩
            case measure => simp [intOf]; omega
    · have hge : ¬ (k2 : Int) < n := by omega
      obtain rfl : k2 = n := by omega
      have HE := hid (show m = ns from by rw [← HM.out, HNS.out])
      obtain rfl := HE.out
      go_wp2_with fail
      go_ret
      exact ⟨_, _, rfl, HB.out⟩
end Go.Proofs.YthpebfojkpnojaaGreat

/-
  DERIVED: THE SHELF's CONTRACTS AT THIS DUMP, IN PLAIN WORDS (tools/lay-plain.mjs out of 'YthpebfojkpnojaaShelf.lean', which tools/lay-shelf.mjs wrote): THE SAME DECLARATIONS UNDER THE SAME NAMES: 'import', 'namespace', 'open', 'def', 'theorem' AND NOTHING ELSE: no command of the shelf's: FOR A HAND-IN. Each laying: the table of numbers ('.._ren') and one theorem, a field a fact of the dump's own or the kernel's comparison; each contract: ONE APPLICATION.
-/
namespace Go.Proofs
open Go.Shelf
def Tryz.keysA_ren : Go.Shelf.Ren := ⟨fun | 7 => 65 | 10 => 97 | n => n, fun | 23 => 71 | 26 => 2 | 3 => 83 | 28 => 114 | 0 => 0 | 27 => 113 | 33 => 143 | 4 => 4 | n => n, fun | n => n⟩
theorem Tryz.keysA : Go.Proofs.SlLaysZI.n7 Tryz.prog Tryz.keysA_ren := {
  mixed := by kernel_rfl
  f7 := ⟨Tryz.f65.name, by decide, Tryz.func65.trans (congrArg some (by kernel_rfl))⟩
  f10 := ⟨Tryz.f97.name, by decide, Tryz.func97.trans (congrArg some (by kernel_rfl))⟩
  t0 := Tryz.underlying0
  a0 := Tryz.isAgg0
  z0 := Tryz.sizeOf0
  v0 := Tryz.zeroValue0
  t4 := Tryz.underlying4
  a4 := Tryz.isAgg4
  z4 := Tryz.sizeOf4
  v4 := Tryz.zeroValue4
  t23 := Tryz.underlying71
  a23 := Tryz.isAgg71
  z23 := Tryz.sizeOf71
  v23 := Tryz.zeroValue71
  t26 := Tryz.underlying2
  a26 := Tryz.isAgg2
  z26 := Tryz.sizeOf2
  v26 := Tryz.zeroValue2
  t27 := Tryz.underlying113
  a27 := Tryz.isAgg113
  z27 := Tryz.sizeOf113
  v27 := Tryz.zeroValue113
  t28 := Tryz.underlying114
  a28 := Tryz.isAgg114
  z28 := Tryz.sizeOf114
  v28 := Tryz.zeroValue114
  t33 := Tryz.underlying143
  a33 := Tryz.isAgg143
  z33 := Tryz.sizeOf143
  v33 := Tryz.zeroValue143 }
def Tryz.sortedA_ren : Go.Shelf.Ren := ⟨fun | 6 => 64 | 8 => 95 | 9 => 96 | 11 => 113 | 13 => 115 | 12 => 114 | 23 => 132 | 24 => 133 | 14 => 123 | 15 => 124 | 16 => 125 | 17 => 126 | 18 => 127 | 19 => 128 | 20 => 129 | 21 => 130 | 22 => 131 | 25 => 147 | 26 => 148 | 27 => 149 | 28 => 150 | 29 => 151 | 30 => 152 | 31 => 161 | n => n, fun | 26 => 2 | 28 => 114 | 24 => 39 | 0 => 0 | 3 => 3 | 37 => 155 | 48 => 120 | 50 => 183 | 4 => 4 | 40 => 174 | 39 => 173 | 45 => 179 | 5 => 5 | 9 => 9 | 51 => 193 | 55 => 197 | 57 => 203 | 58 => 204 | 33 => 143 | n => n, fun | n => n⟩
theorem Tryz.sortedA : Go.Proofs.SlLaysZI.n6 Tryz.prog Tryz.sortedA_ren := {
  mixed := by kernel_rfl
  f6 := ⟨Tryz.f64.name, by decide, Tryz.func64.trans (congrArg some (by kernel_rfl))⟩
  f8 := ⟨Tryz.f95.name, by decide, Tryz.func95.trans (congrArg some (by kernel_rfl))⟩
  f11 := ⟨Tryz.f113.name, by decide, Tryz.func113.trans (congrArg some (by kernel_rfl))⟩
  t0 := Tryz.underlying0
  a0 := Tryz.isAgg0
  z0 := Tryz.sizeOf0
  v0 := Tryz.zeroValue0
  t24 := Tryz.underlying39
  a24 := Tryz.isAgg39
  z24 := Tryz.sizeOf39
  v24 := Tryz.zeroValue39
  t26 := Tryz.underlying2
  a26 := Tryz.isAgg2
  z26 := Tryz.sizeOf2
  v26 := Tryz.zeroValue2
  t28 := Tryz.underlying114
  a28 := Tryz.isAgg114
  z28 := Tryz.sizeOf114
  v28 := Tryz.zeroValue114
  i26 := by kernel_rfl }
def Tryz.sortA_ren : Go.Shelf.Ren := ⟨fun | 5 => 96 | 8 => 115 | 7 => 114 | 19 => 132 | 20 => 133 | 10 => 123 | 11 => 124 | 12 => 125 | 13 => 126 | 14 => 127 | 15 => 128 | 16 => 129 | 17 => 130 | 18 => 131 | 30 => 147 | 31 => 148 | 32 => 149 | 33 => 150 | 34 => 151 | 35 => 152 | 40 => 161 | n => n, fun | 23 => 39 | 25 => 2 | 3 => 3 | 32 => 155 | 22 => 39 | 0 => 0 | 44 => 120 | 46 => 183 | 4 => 4 | 36 => 174 | 35 => 173 | 41 => 179 | 5 => 5 | 9 => 9 | 53 => 193 | 57 => 197 | 63 => 203 | 64 => 204 | n => n, fun | n => n⟩
theorem Tryz.sortA : Go.Proofs.SlLaysM.n5 Tryz.prog Tryz.sortA_ren := {
  mixed := by kernel_rfl
  f5 := ⟨Tryz.f96.name, by decide, Tryz.func96.trans (congrArg some (by kernel_rfl))⟩
  f7 := ⟨Tryz.f114.name, by decide, Tryz.func114.trans (congrArg some (by kernel_rfl))⟩
  f8 := Tryz.func115.trans (congrArg some (by kernel_rfl))
  f10 := ⟨Tryz.f123.name, by decide, Tryz.func123.trans (congrArg some (by kernel_rfl))⟩
  f11 := ⟨Tryz.f124.name, by decide, Tryz.func124.trans (congrArg some (by kernel_rfl))⟩
  f12 := ⟨Tryz.f125.name, by decide, Tryz.func125.trans (congrArg some (by kernel_rfl))⟩
  f13 := ⟨Tryz.f126.name, by decide, Tryz.func126.trans (congrArg some (by kernel_rfl))⟩
  f14 := ⟨Tryz.f127.name, by decide, Tryz.func127.trans (congrArg some (by kernel_rfl))⟩
  f15 := ⟨Tryz.f128.name, by decide, Tryz.func128.trans (congrArg some (by kernel_rfl))⟩
  f16 := ⟨Tryz.f129.name, by decide, Tryz.func129.trans (congrArg some (by kernel_rfl))⟩
  f17 := ⟨Tryz.f130.name, by decide, Tryz.func130.trans (congrArg some (by kernel_rfl))⟩
  f18 := ⟨Tryz.f131.name, by decide, Tryz.func131.trans (congrArg some (by kernel_rfl))⟩
  f19 := Tryz.func132.trans (congrArg some (by kernel_rfl))
  f20 := Tryz.func133.trans (congrArg some (by kernel_rfl))
  f30 := ⟨Tryz.f147.name, by decide, Tryz.func147.trans (congrArg some (by kernel_rfl))⟩
  f31 := Tryz.func148.trans (congrArg some (by kernel_rfl))
  f32 := Tryz.func149.trans (congrArg some (by kernel_rfl))
  f33 := ⟨Tryz.f150.name, by decide, Tryz.func150.trans (congrArg some (by kernel_rfl))⟩
  f34 := ⟨Tryz.f151.name, by decide, Tryz.func151.trans (congrArg some (by kernel_rfl))⟩
  f35 := ⟨Tryz.f152.name, by decide, Tryz.func152.trans (congrArg some (by kernel_rfl))⟩
  f40 := ⟨Tryz.f161.name, by decide, Tryz.func161.trans (congrArg some (by kernel_rfl))⟩
  t0 := Tryz.underlying0
  a0 := Tryz.isAgg0
  z0 := Tryz.sizeOf0
  v0 := Tryz.zeroValue0
  t3 := Tryz.underlying3
  a3 := Tryz.isAgg3
  z3 := Tryz.sizeOf3
  v3 := Tryz.zeroValue3
  t4 := Tryz.underlying4
  a4 := Tryz.isAgg4
  z4 := Tryz.sizeOf4
  v4 := Tryz.zeroValue4
  t5 := Tryz.underlying5
  a5 := Tryz.isAgg5
  z5 := Tryz.sizeOf5
  v5 := Tryz.zeroValue5
  t9 := Tryz.underlying9
  a9 := Tryz.isAgg9
  z9 := Tryz.sizeOf9
  v9 := Tryz.zeroValue9
  t22 := Tryz.underlying39
  a22 := Tryz.isAgg39
  z22 := Tryz.sizeOf39
  v22 := Tryz.zeroValue39
  t23 := Tryz.underlying39
  a23 := Tryz.isAgg39
  z23 := Tryz.sizeOf39
  v23 := Tryz.zeroValue39
  t25 := Tryz.underlying2
  a25 := Tryz.isAgg2
  z25 := Tryz.sizeOf2
  v25 := Tryz.zeroValue2
  t32 := Tryz.underlying155
  a32 := Tryz.isAgg155
  z32 := Tryz.sizeOf155
  v32 := Tryz.zeroValue155
  t35 := Tryz.underlying173
  a35 := Tryz.isAgg173
  z35 := Tryz.sizeOf173
  v35 := Tryz.zeroValue173
  t36 := Tryz.underlying174
  a36 := Tryz.isAgg174
  z36 := Tryz.sizeOf174
  v36 := Tryz.zeroValue174
  t41 := Tryz.underlying179
  a41 := Tryz.isAgg179
  z41 := Tryz.sizeOf179
  v41 := Tryz.zeroValue179
  t44 := Tryz.underlying120
  a44 := Tryz.isAgg120
  z44 := Tryz.sizeOf120
  v44 := Tryz.zeroValue120
  t46 := Tryz.underlying183
  a46 := Tryz.isAgg183
  z46 := Tryz.sizeOf183
  v46 := Tryz.zeroValue183
  t53 := Tryz.underlying193
  a53 := Tryz.isAgg193
  z53 := Tryz.sizeOf193
  v53 := Tryz.zeroValue193
  t57 := Tryz.underlying197
  a57 := Tryz.isAgg197
  z57 := Tryz.sizeOf197
  v57 := Tryz.zeroValue197
  t63 := Tryz.underlying203
  a63 := Tryz.isAgg203
  z63 := Tryz.sizeOf203
  v63 := Tryz.zeroValue203
  t64 := Tryz.underlying204
  a64 := Tryz.isAgg204
  z64 := Tryz.sizeOf204
  v64 := Tryz.zeroValue204 }
end Go.Proofs

/- The keys of the base's map, in order. -/
namespace Go.Proofs.YthpebfojkpnojaaGreat
open Go.RowKit Go.Maps Go.Sort Go.Shelf
set_option linter.unusedVariables false
def srt (zs : List Int) : List Int := zs.mergeSort (fun x y => decide (x ≤ y))
theorem sortsA (m : Nat) : AnyZI.SortsIn Tryz.prog Tryz.sortedA_ren Fence.wide m :=
  ⟨fun blk off cap ss W hH hblk hsz => callsIn_wide.2 (AnyM.slices_Sort_int Tryz.sortA blk off cap ss W hH hblk hsz),
   fun p cap W => callsIn_wide.2 (AnyM.slices_Sort_int_none Tryz.sortA p cap W)⟩
theorem has_i64 {w : World} {b n : Nat} {D : DataW Value} (hown : w.ownsMap Tryz.prog 2 raw b n D) {x : Int} (h : Maps.has D (.int .i64 x) = true) : I64 x := by
  obtain ⟨es, rfl, hko⟩ := hown.keysOf
  rw [has_eq, List.any_eq_true] at h
  obtain ⟨p, hp, hs⟩ := h
  obtain ⟨v, hv⟩ := hko p hp
  obtain ⟨y, _, hy, hl⟩ := Maps.keyOf_i64 Tryz.underlying2 hv
  rw [hy] at hs
  obtain rfl : x = y := by simpa [Lit.sameKey, eq_comm] using hs
  simp [Lit.wf, IntKind.min, IntKind.max, IntKind.signed, IntKind.bits] at hl
  exact ⟨by omega, by omega⟩
theorem mem_look {s : Bas.S} (hg : Bas.Good s) {id : Int} : id ∈ s.live.map (·.id) ↔ (Bas.look s.live id).isSome = true := by
  constructor
  · intro h
    obtain ⟨e, he, rfl⟩ := List.mem_map.1 h
    rw [Bas.look_of_mem hg.sorted he]
    rfl
  · intro h
    cases hl : Bas.look s.live id with
    | none => rw [hl] at h; cases h
    | some e => obtain ⟨h1, h2⟩ := Bas.look_mem hl; exact List.mem_map.2 ⟨e, h1, h2⟩
theorem keys_perm {M : Nat → Prop} {bb K : Nat} {s : Bas.S} {W : World} (h : Bs M bb K s W) (hg : Bas.Good s) (hL : s.last ≤ 1000000000) :
    ∃ bm k D, W.cell? ⟨bb, 3, none⟩ = some (.map (some bm)) ∧ k ≤ K ∧ W.ownsMap Tryz.prog 2 raw bm k D ∧ Maps.size D = s.live.length ∧ ∀ ss : List Int, ss.Perm (intKeys D) → srt ss = s.live.map (·.id) := by
  obtain ⟨hv, bm, br, k, k2, f, g, rv, sv, tv, R, Z, rw', ids, iv, hb, m1, m2, m3, hne, ⟨⟨D, hown, hD⟩, a2, a3⟩, _⟩ := h
  have hnd : (s.live.map (·.id)).Pairwise (· < ·) := List.pairwise_map.2 hg.sorted
  have hfs : ∀ id, I64 id → (f id).isSome = (Bas.look s.live id).isSome := fun id hi => by
    have := a3 id hi
    cases he : Bas.look s.live id with
    | none => rw [he] at this; simp only [EntAt] at this; rw [this]; rfl
    | some e => rw [he] at this; obtain ⟨_, _, hf, _⟩ := this; rw [hf]; rfl
  have hc : CollectedI D (fun _ => false) (s.live.map (·.id)) := by
    refine ⟨hnd.imp (fun h e => by omega), fun x => ?_⟩
    rw [mem_look hg]
    constructor
    · intro h
      have hi : I64 x := by
        obtain ⟨p, hp, rfl⟩ := List.mem_map.1 ((mem_look hg).2 h)
        have := hg.ids p hp
        exact ⟨by omega, by omega⟩
      exact ⟨by rw [(hD x hi).1, hfs x hi]; exact h, rfl⟩
    · rintro ⟨h, _⟩
      have hi := has_i64 hown h
      rw [(hD x hi).1, hfs x hi] at h
      exact h
  have hp := hc.perm hown klawMp Tryz.underlying2 (fun _ => rfl)
  refine ⟨bm, k, D, row_cell hb 3, a2, hown, ?_, fun ss hs => ?_⟩
  · have := hp.length_eq
    rw [List.length_map] at this
    rw [this]
    obtain ⟨es, rfl, _⟩ := hown.keysOf
    rw [Maps.size_eq]
    simp [intKeys]
  have h1 : srt ss = srt (s.live.map (·.id)) := mergeSort_of_perm_i (hs.trans hp.symm)
  rw [h1]
  unfold srt
  refine List.Perm.eq_of_pairwise (le := fun a b => a ≤ b) (fun a b _ _ h1 h2 => by omega) ?_ (hnd.imp (fun h => by omega)) (List.mergeSort_perm _ _)
  have h2 := List.pairwise_mergeSort (le := fun x y : Int => decide (x ≤ y)) (fun a b c h1 h2 => by simp at *; omega) (fun a b => by simp; omega) (s.live.map (·.id))
  exact h2.imp (fun h => by simpa using h)
set_option maxHeartbeats 1000000 in
theorem keysC {bm k : Nat} {W : World} {D : DataW Value} (hown0 : W.ownsMap Tryz.prog 2 raw bm k D) (hk : k ≤ 100000000) (ids : List Int) (hD : ∀ ss : List Int, ss.Perm (intKeys D) → srt ss = ids) : KeysC W bm ids := by
  refine ⟨fun X => (callsIn_wide (n := 5)).1 (AnyZI.keys_in Tryz.keysA Fence.wide 5 trivial rfl (some bm) X), fun X hX => ?_⟩
  have hown : X.ownsMap Tryz.prog 2 raw bm k D := by
    obtain ⟨es, clock, hb, Ft, hs, hD⟩ := hown0
    exact ⟨es, clock, (hX.block bm (lt_of_blk hb)).trans hb, Ft, hs, hD⟩
  have hbl := hown.lt
  have hsz := hown.size_le
  have hseq : SeqGives Fence.wide 2 Tryz.prog 97 #[.pointer (some ⟨X.heap.size, 0, none⟩)] encZ (fun ss => ss.Perm (intKeys D)) (Maps.size D) (X.alloc (.cells #[.map (some bm)] 71)) :=
    AnyZI.keys_gives (ρ := Tryz.keysA_ren) { Tryz.keysA with } Fence.wide _ trivial rfl (by omega) X.heap.size bm k D _ (by simp) (by simp) (by
      obtain ⟨es, clock, hb, Ft, hs, hD⟩ := hown
      exact ⟨es, clock, (Below.heap_alloc _ _ bm hbl).trans hb, Ft, hs, hD⟩)
  have cS := AnyZI.sorted_in Tryz.sortedA Fence.wide 5 trivial trivial trivial trivial rfl (by omega) (sortsA _) (enters_of Tryz.func96 (by kernel_rfl) rfl) 97 #[.pointer (some ⟨X.heap.size, 0, none⟩)] trivial (enters_of Tryz.func97 (by kernel_rfl) rfl) _ _ (by unfold maxLen; omega) (by omega) _ hseq
  change CallsIn _ _ Tryz.prog 64 _ _ _ at cS
  refine ((callsIn_wide (n := 5)).1 cS).mono ?_
  rintro e w' ⟨v, ss, rfl, hS, hrow, hnil, hb⟩
  have e := hD ss hS
  have hl : ss.length = ids.length := by rw [← e]; exact (List.length_mergeSort _).symm
  rw [hl] at hrow
  obtain ⟨a, c, rfl⟩ := own_slc hrow
  refine ⟨a, c, rfl, ?_, ((Below.refl _ X).alloc (Nat.le_refl _) _).trans (hb.mono (by simp))⟩
  have h2 := own_base (base' := X.heap.size) hrow (by simp)
  rw [← e]
  rw [← e] at h2
  exact h2
end Go.Proofs.YthpebfojkpnojaaGreat

