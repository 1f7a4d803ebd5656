/- Steps: the walk. -/
import Derived.Test.YthpebfojkpnojaaJau
import Derived.Shelf.SlIterI.Nil
import Derived.Shelf.SortM.Plain
import Derived.Shelf.SortM.SortNone
import Derived.Ground.GgzProg
import Derived.Ground.SlgmProg
import Derived.Test.YthpebfojkpnojaaProg
/- Steps: the walk. -/
namespace Go.Proofs.Ythpebfojkpnojaa
open Go.RowKit Go.Maps
set_option linter.unusedVariables false
set_option linter.unusedSimpArgs false
set_option maxRecDepth 100000
set_option maxHeartbeats 8000000 in
theorem steps16 {M : Nat → Prop} {bb K : Nat} {s : Bas.S} {W : World} (h : Bs M bb K s W) (hns : Bas.nsteps s ≤ 4194304) (hn : s.rules.length ≤ 1000000000) (hk : ∀ r ∈ s.rules, (r.kind = 1 ∨ r.kind = 2 ∨ r.kind = 3 ∨ r.kind = 4 ∨ r.kind = 5) ∧ r.lits.length ≤ 16777216 ∧ r.hints.length ≤ 16777216) :
    Calls Try.prog 16 #[.pointer (some ⟨bb, 0, none⟩)] W fun en w' => EntOut (Bas.nsteps s) W en w' := by
  obtain ⟨ro, rc, x5, hru⟩ := h.rulesAt
  obtain ⟨x1, x6⟩ := h.formc
  have HKD := hid (fun k (hk2 : k < s.rules.length) => hk s.rules[k] (List.getElem_mem hk2))
  have HRU := hid hru
  have HNS := hid (show Bas.cnt s.rules s.rules.length = Bas.nsteps s from Bas.cnt_all _ _)
  have HCS := hid (Bas.cnt_succ s.rules)
  have HCL := hid (Bas.cnt_le s.rules)
  obtain ⟨i0, hi, hz⟩ := Option.map_eq_some_iff.1 info94
  simp only [Prod.mk.injEq] at hz
  have hmk := run_makeSlice (P := Try.prog) W 46 94 i0 (.agg #[.int .u8 0, .int .i64 0, .slice none 0 0, .slice none 0 0]) Try.underlying46 hi hz.1 .i64 .i64 (0 : Int) (Bas.nsteps s : Int) (by omega) (by omega) (by rw [hz.2.1]; omega) (by rw [hz.2.2]; omega) (by omega)
  simp only [hz.2.1, Int.toNat_natCast] at hmk
  have hB1 := below_box W (.cells (madeCells (Value.agg #[.int .u8 0, .int .i64 0, .slice none 0 0, .slice none 0 0]).cells (Bas.nsteps s * 4)) 94)
  have hg1 := heap_alloc_new W (.cells (madeCells (Value.agg #[.int .u8 0, .int .i64 0, .slice none 0 0, .slice none 0 0]).cells (Bas.nsteps s * 4)) 94)
  generalize hW1 : W.alloc (.cells (madeCells (Value.agg #[.int .u8 0, .int .i64 0, .slice none 0 0, .slice none 0 0]).cells (Bas.nsteps s * 4)) 94) = W1 at hB1 hg1 hmk
  have hmk' : (Instr.makeSlice 46 (.int .i64 0) (.int .i64 (Bas.nsteps s : Nat))).run Try.prog W = .ok (.slice (some ⟨W.heap.size, 0, none⟩) 0 (Bas.nsteps s)) W1 := hmk
  have y1 : W1.cell? ⟨bb, 1, none⟩ = some (.int .i64 s.form) := (hB1.cell (p := ⟨bb, 1, none⟩) (cell_lt x1)).trans x1
  have y5 : W1.cell? ⟨bb, 5, none⟩ = some (.slice ro s.rules.length rc) := (hB1.cell (p := ⟨bb, 5, none⟩) (cell_lt x5)).trans x5
  have HO0 := hid (show W1.ownsRow W.heap.size 94 4 (.slice (some ⟨W.heap.size, 0, none⟩) (Bas.cnt s.rules 0) (Bas.nsteps s)) (Bas.cnt s.rules 0) [] from by
    rw [Bas.cnt_zero]
    exact ⟨rfl, .inr ⟨W.heap.size, Bas.nsteps s, _, rfl, Nat.le_refl _, hg1, Nat.zero_le _, by unfold maxLen; omega, by rw [size_madeCells], by simp⟩⟩)
  have HC0 := hid (Bas.cnt_zero s.rules)
  have HB0 := hid hB1
  generalize hNS : Bas.nsteps s = ns at *
  have HN := hid hn
  clear h hru hk hi hz hmk hB1 hg1 hW1 hn hNS
  rw [HC0.out] at HO0
  generalize s.form = fo at *
  obtain ⟨n, hnn⟩ : ∃ n, s.rules.length = n := ⟨_, rfl⟩
  rw [hnn] at y5 x5 HNS
  have HNN := hid hnn
  have hn9 : n ≤ 1000000000 := by rw [← hnn]; exact HN.out
  clear hnn
  go_enter Try.func16, Try.ntmps16
  go_wp2_with fail
  go_loopw [3, 4, 23] (fun lv av iv wr => ∃ (k2 m : Nat) (lb : Nat) (lc : Nat) (la : Int) (xs : List Value), k2 ≤ n ∧ iv = .int .i64 k2 ∧ lv = .slice (some ⟨lb, 0, none⟩) m lc ∧ av = .int .i64 la ∧ Hid (Bas.cnt s.rules k2 = m) ∧ Hid (wr.ownsRow W.heap.size 94 4 (.slice (some ⟨lb, 0, none⟩) m lc) m xs) ∧ Hid (Below W.heap.size W wr)) (fun _ _ iv _ => n - (intOf iv).toNat)
  case atStart => exact ⟨0, 0, W.heap.size, ns, fo, [], Nat.zero_le _, rfl, rfl, rfl, HC0, HO0, HB0⟩
  case round =>
    clear HO0 HB0 y1 y5 x1 x5 x6 hmk'
    obtain ⟨k2, m, lb, lc, la, xs, hk2, rfl, rfl, rfl, HM, HO, HB⟩ := hrel
    by_cases hlt : k2 < n
    · have hlt' : (k2 : Int) < n := by omega
      have hkl : k2 < s.rules.length := by rw [HNN.out]; exact hlt
      obtain ⟨gr, a, c, a2, c2, rfl, r0, r1, r2, r3, r4, r5, hL, hH⟩ := HRU.out k2 hkl
      have hW : ∀ t v, W.cell? ⟨gr, t, none⟩ = some v → wr.cell? ⟨gr, t, none⟩ = some v := fun t v hv => (HB.out.cell (p := ⟨gr, t, none⟩) (cell_lt hv)).trans hv
      have q0 := hW _ _ r0
      have q1 := hW _ _ r1
      have q2 := hW _ _ r2
      have q3 := hW _ _ r3
      have q4 := hW _ _ r4
      have q5 := hW _ _ r5
      have HKk := hid (HKD.out k2 hkl)
      have HCk := hid (HCS.out k2 hkl)
      have hm9 : m ≤ 1000000000 := by have h1 := HCL.out k2; have h2 := HM.out; have h3 := HN.out; have h4 := HNN.out; omega
      have hL2 := hL.below HB.out
      have hH2 := hH.below HB.out
      clear hW r0 r1 r2 r3 r4 r5 hL hH
      generalize hrk : s.rules[k2] = r at *
      clear hrk
      obtain ⟨kd, id, by_, red, lits, hints⟩ := r
      simp only at q0 q1 q2 q3 q4 q5 HKk HCk hL2 hH2
      have C31 := hid (fun X (hX : Below wr.heap.size wr X) => clone31 a lits.length c lits X rfl HKk.out.2.1 (hL2.below hX))
      have C34 := hid (fun X (hX : Below wr.heap.size wr X) => clone34 a2 hints.length c2 hints X rfl HKk.out.2.2 (hH2.below hX))
      have HKD1 := hid HKk.out.1
      clear hL2 hH2 HKk
      generalize lits.length = l1 at *
      generalize hints.length = l2 at *
      have PUSH := hid (fun (W5 : World) (hb5 : Below wr.heap.size wr W5) (q i : Int) o n1 c1 o2 n2 c2' => push94 (own_below HO.out hb5) q i o n1 c1 o2 n2 c2' (Nat.le_trans HB.out.size hb5.size) hm9)
      have NEXT := hid (fun (W5 B : World) (X : Obj) (hb5 : Below wr.heap.size wr W5) (gr : (W5.alloc X).grownBy B (Value.slice (some ⟨lb, 0, none⟩) m lc).ownBlock) => show Below W.heap.size W B from by
        have hbx := below_box W5 X
        have hB5 : Below W.heap.size W (W5.alloc X) := (HB.out.trans (hb5.mono HB.out.size)).trans (hbx.mono (Nat.le_trans HB.out.size hb5.size))
        exact below_grown hB5 gr (fun q hq => (own_blk HO.out hq).1) hB5.size)
      by_cases h1 : kd = 1
      · subst h1
        have HCk1 := hid (show Bas.cnt s.rules (k2 + 1) = m + 1 from by rw [HCk.out, HM.out]; rfl)
        clear HKD1 HCk
        go_wp2_with fail
        have POST := hid (fun (w4 : World) (hb4 : Below (wr.alloc (.cells #[.int .u8 1, .int .i64 id, .int .i64 by_, .bool red, .slice a l1 c, .slice a2 l2 c2] 81)).heap.size (wr.alloc (.cells #[.int .u8 1, .int .i64 id, .int .i64 by_, .bool red, .slice a l1 c, .slice a2 l2 c2] 81)) w4) => show (w4.cell? ⟨wr.heap.size, 1, none⟩ = some (.int .i64 id) ∧ w4.cell? ⟨wr.heap.size, 4, none⟩ = some (.slice a l1 c) ∧ w4.cell? ⟨wr.heap.size, 5, none⟩ = some (.slice a2 l2 c2)) ∧ Below wr.heap.size wr w4 from by
          have hh := (hb4.block wr.heap.size (by simp)).trans (heap_alloc_new wr (.cells #[.int .u8 1, .int .i64 id, .int .i64 by_, .bool red, .slice a l1 c, .slice a2 l2 c2] 81))
          exact ⟨⟨row_cell hh 1, row_cell hh 4, row_cell hh 5⟩, (below_box wr _).trans (hb4.mono (by simp))⟩)
        have BB := hid (Below.refl (wr.alloc (.cells #[.int .u8 1, .int .i64 id, .int .i64 by_, .bool red, .slice a l1 c, .slice a2 l2 c2] 81)).heap.size (wr.alloc (.cells #[.int .u8 1, .int .i64 id, .int .i64 by_, .bool red, .slice a l1 c, .slice a2 l2 c2] 81)))
        have v1 := (POST.out _ BB.out).1.1
        have v4 := (POST.out _ BB.out).1.2.1
        have v5 := (POST.out _ BB.out).1.2.2
        go_region_held3 (fun X => X.cell? ⟨wr.heap.size, 1, none⟩ = some (.int .i64 id) ∧ X.cell? ⟨wr.heap.size, 4, none⟩ = some (.slice a l1 c) ∧ X.cell? ⟨wr.heap.size, 5, none⟩ = some (.slice a2 l2 c2))
          (first | exact (POST.out _ BB.out.drew).1 | exact (POST.out _ BB.out).1 | exact (POST.out _ hb4).1 | exact (POST.out _ hb5).1 | exact (POST.out _ (hb5.trans ((below_box w5 _).mono hb5.size))).1 | exact C9.out)
          (first
            | (go_at_call 31; refine (C31.out _ (POST.out _ BB.out.drew).2).mono ?_; rintro e w4 ⟨o4, c4, rfl, ho4, hb4'⟩
               have hb4 := BB.out.drew.trans (hb4'.mono (by simp))
               clear ho4 hb4')
            | (go_at_call 34; refine (C34.out _ (POST.out _ hb4).2).mono ?_; rintro e w5 ⟨o5, c5, rfl, ho5, hb5'⟩
               have hb5 := hb4.trans (hb5'.mono hb4.size)
               clear ho5 hb5'
               obtain ⟨g9, c9, B, r9, o9, gr9, w9⟩ := PUSH.out _ (POST.out _ hb5).2 1 id o4 l1 c4 o5 l2 c5
               have R9 := hid r9
               have O9 := hid o9
               have N9 := hid (NEXT.out _ B _ (POST.out _ hb5).2 gr9)
               have C9 := hid (show B.cell? ⟨wr.heap.size, 1, none⟩ = some (.int .i64 id) ∧ B.cell? ⟨wr.heap.size, 4, none⟩ = some (.slice a l1 c) ∧ B.cell? ⟨wr.heap.size, 5, none⟩ = some (.slice a2 l2 c2) from by
                 have hh := (gr9.block wr.heap.size (by have := hb5.size; simp at this ⊢; omega) (fun e => by obtain ⟨_, cur, hq⟩ := own_blk HO.out e.symm; exact Nat.lt_irrefl _ (lt_of_blk hq))).trans (((hb5.trans ((below_box w5 _).mono hb5.size)).block wr.heap.size (by simp)).trans (heap_alloc_new wr (.cells #[.int .u8 1, .int .i64 id, .int .i64 by_, .bool red, .slice a l1 c, .slice a2 l2 c2] 81)))
                 exact ⟨row_cell hh 1, row_cell hh 4, row_cell hh 5⟩)
               clear r9 o9 gr9 w9)
            | (refine step_append_run rfl (.tmp 33) (.tmp 43) 46 46 (by rfl) (by rfl) (by rfl) R9.out ?_))
        all_goals
          go_wp2_with fail
          go_roundw
          case rel => exact ⟨k2 + 1, m + 1, g9, c9, id, _, by omega, by go_num, rfl, rfl, HCk1, O9, N9⟩
          case measure => simp [intOf]; omega
      · by_cases h2 : kd = 2
        · subst h2
          have HCk1 := hid (show Bas.cnt s.rules (k2 + 1) = m from by rw [HCk.out, HM.out]; rfl)
          clear HKD1 HCk
          have HO1 := hid (fun o => own_below HO.out (below_box wr o))
          have HB1 := hid (fun o => HB.out.trans ((below_box wr o).mono HB.out.size))
          go_wp2_with fail
          go_roundw
          case rel => exact ⟨k2 + 1, m, lb, lc, la, xs, by omega, by go_num, rfl, rfl, HCk1, hid (HO1.out _), hid (HB1.out _)⟩
          case measure => simp [intOf]; omega
        · have HCk1 := hid (show Bas.cnt s.rules (k2 + 1) = m + 1 from by rw [HCk.out, HM.out, if_neg h2])
          have hbb : Below wr.heap.size wr ((wr.alloc (.cells #[.int .u8 kd, .int .i64 id, .int .i64 by_, .bool red, .slice a l1 c, .slice a2 l2 c2] 81)).alloc (.cells #[.int .i64 id] 2)) := (below_box wr _).trans ((below_box _ _).mono (by simp))
          obtain ⟨g9, c9, B, r9, o9, gr9, w9⟩ := PUSH.out _ hbb 2 la none 0 0 (some ⟨wr.heap.size + 1, 0, none⟩) 1 1
          simp only [alloc_size] at r9
          have R9 := hid r9
          have O9 := hid o9
          have N9 := hid (NEXT.out _ B _ hbb gr9)
          clear hbb r9 o9 gr9 w9 PUSH NEXT HCk C31 C34
          have hk3 : kd = 3 ∨ kd = 4 ∨ kd = 5 := by have := HKD1.out; omega
          clear HKD1 h1 h2
          rcases hk3 with rfl | rfl | rfl
          all_goals
            go_wp2_with (at_builtin; refine wpList_append_run rfl (.tmp 49) (.tmp 55) 46 46 rfl rfl rfl R9.out ?_)
            go_roundw
            case rel => exact ⟨k2 + 1, m + 1, g9, c9, la, _, by omega, by go_num, rfl, rfl, HCk1, O9, N9⟩
            case measure => simp [intOf]; omega
    · have hge : ¬ (k2 : Int) < n := by omega
      obtain rfl : k2 = n := by omega
      have HE := hid (show m = ns from by rw [← HM.out, HNS.out])
      obtain rfl := HE.out
      go_wp2_with fail
      go_ret
      exact ⟨_, _, rfl, HB.out⟩
end Go.Proofs.Ythpebfojkpnojaa

/-
  DERIVED: THE SHELF's CONTRACTS AT THIS DUMP, IN PLAIN WORDS (tools/lay-plain.mjs out of 'YthpebfojkpnojaaShelf.lean', which tools/lay-shelf.mjs wrote): THE SAME DECLARATIONS UNDER THE SAME NAMES: 'import', 'namespace', 'open', 'def', 'theorem' AND NOTHING ELSE: no command of the shelf's: FOR A HAND-IN. Each laying: the table of numbers ('.._ren') and one theorem, a field a fact of the dump's own or the kernel's comparison; each contract: ONE APPLICATION.
-/
namespace Go.Proofs
open Go.Shelf
def Try.keysA_ren : Go.Shelf.Ren := ⟨fun | 7 => 40 | 10 => 57 | n => n, fun | 23 => 75 | 26 => 2 | 3 => 32 | 28 => 87 | 0 => 0 | 27 => 86 | 33 => 113 | 4 => 4 | n => n, fun | n => n⟩
theorem Try.keysA : Go.Proofs.SlLaysZI.n7 Try.prog Try.keysA_ren := {
  mixed := by kernel_rfl
  f7 := ⟨Try.f40.name, by decide, Try.func40.trans (congrArg some (by kernel_rfl))⟩
  f10 := ⟨Try.f57.name, by decide, Try.func57.trans (congrArg some (by kernel_rfl))⟩
  t0 := Try.underlying0
  a0 := Try.isAgg0
  z0 := Try.sizeOf0
  v0 := Try.zeroValue0
  t4 := Try.underlying4
  a4 := Try.isAgg4
  z4 := Try.sizeOf4
  v4 := Try.zeroValue4
  t23 := Try.underlying75
  a23 := Try.isAgg75
  z23 := Try.sizeOf75
  v23 := Try.zeroValue75
  t26 := Try.underlying2
  a26 := Try.isAgg2
  z26 := Try.sizeOf2
  v26 := Try.zeroValue2
  t27 := Try.underlying86
  a27 := Try.isAgg86
  z27 := Try.sizeOf86
  v27 := Try.zeroValue86
  t28 := Try.underlying87
  a28 := Try.isAgg87
  z28 := Try.sizeOf87
  v28 := Try.zeroValue87
  t33 := Try.underlying113
  a33 := Try.isAgg113
  z33 := Try.sizeOf113
  v33 := Try.zeroValue113 }
def Try.sortedA_ren : Go.Shelf.Ren := ⟨fun | 6 => 39 | 8 => 55 | 9 => 56 | 11 => 63 | 13 => 65 | 12 => 64 | 23 => 80 | 24 => 81 | 14 => 71 | 15 => 72 | 16 => 73 | 17 => 74 | 18 => 75 | 19 => 76 | 20 => 77 | 21 => 78 | 22 => 79 | 25 => 87 | 26 => 88 | 27 => 89 | 28 => 90 | 29 => 91 | 30 => 92 | 31 => 103 | n => n, fun | 26 => 2 | 28 => 87 | 24 => 24 | 0 => 0 | 3 => 3 | 37 => 120 | 48 => 135 | 50 => 137 | 4 => 4 | 40 => 128 | 39 => 127 | 45 => 121 | 5 => 5 | 9 => 9 | 51 => 140 | 55 => 144 | 57 => 152 | 58 => 153 | 33 => 113 | n => n, fun | n => n⟩
theorem Try.sortedA : Go.Proofs.SlLaysZI.n6 Try.prog Try.sortedA_ren := {
  mixed := by kernel_rfl
  f6 := ⟨Try.f39.name, by decide, Try.func39.trans (congrArg some (by kernel_rfl))⟩
  f8 := ⟨Try.f55.name, by decide, Try.func55.trans (congrArg some (by kernel_rfl))⟩
  f11 := ⟨Try.f63.name, by decide, Try.func63.trans (congrArg some (by kernel_rfl))⟩
  t0 := Try.underlying0
  a0 := Try.isAgg0
  z0 := Try.sizeOf0
  v0 := Try.zeroValue0
  t24 := Try.underlying24
  a24 := Try.isAgg24
  z24 := Try.sizeOf24
  v24 := Try.zeroValue24
  t26 := Try.underlying2
  a26 := Try.isAgg2
  z26 := Try.sizeOf2
  v26 := Try.zeroValue2
  t28 := Try.underlying87
  a28 := Try.isAgg87
  z28 := Try.sizeOf87
  v28 := Try.zeroValue87
  i26 := by kernel_rfl }
def Try.sortA_ren : Go.Shelf.Ren := ⟨fun | 5 => 56 | 8 => 65 | 7 => 64 | 19 => 80 | 20 => 81 | 10 => 71 | 11 => 72 | 12 => 73 | 13 => 74 | 14 => 75 | 15 => 76 | 16 => 77 | 17 => 78 | 18 => 79 | 30 => 87 | 31 => 88 | 32 => 89 | 33 => 90 | 34 => 91 | 35 => 92 | 40 => 103 | n => n, fun | 23 => 24 | 25 => 2 | 3 => 3 | 32 => 120 | 22 => 24 | 0 => 0 | 44 => 135 | 46 => 137 | 4 => 4 | 36 => 128 | 35 => 127 | 41 => 121 | 5 => 5 | 9 => 9 | 53 => 140 | 57 => 144 | 63 => 152 | 64 => 153 | n => n, fun | n => n⟩
theorem Try.sortA : Go.Proofs.SlLaysM.n5 Try.prog Try.sortA_ren := {
  mixed := by kernel_rfl
  f5 := ⟨Try.f56.name, by decide, Try.func56.trans (congrArg some (by kernel_rfl))⟩
  f7 := ⟨Try.f64.name, by decide, Try.func64.trans (congrArg some (by kernel_rfl))⟩
  f8 := Try.func65.trans (congrArg some (by kernel_rfl))
  f10 := ⟨Try.f71.name, by decide, Try.func71.trans (congrArg some (by kernel_rfl))⟩
  f11 := ⟨Try.f72.name, by decide, Try.func72.trans (congrArg some (by kernel_rfl))⟩
  f12 := ⟨Try.f73.name, by decide, Try.func73.trans (congrArg some (by kernel_rfl))⟩
  f13 := ⟨Try.f74.name, by decide, Try.func74.trans (congrArg some (by kernel_rfl))⟩
  f14 := ⟨Try.f75.name, by decide, Try.func75.trans (congrArg some (by kernel_rfl))⟩
  f15 := ⟨Try.f76.name, by decide, Try.func76.trans (congrArg some (by kernel_rfl))⟩
  f16 := ⟨Try.f77.name, by decide, Try.func77.trans (congrArg some (by kernel_rfl))⟩
  f17 := ⟨Try.f78.name, by decide, Try.func78.trans (congrArg some (by kernel_rfl))⟩
  f18 := ⟨Try.f79.name, by decide, Try.func79.trans (congrArg some (by kernel_rfl))⟩
  f19 := Try.func80.trans (congrArg some (by kernel_rfl))
  f20 := Try.func81.trans (congrArg some (by kernel_rfl))
  f30 := ⟨Try.f87.name, by decide, Try.func87.trans (congrArg some (by kernel_rfl))⟩
  f31 := Try.func88.trans (congrArg some (by kernel_rfl))
  f32 := Try.func89.trans (congrArg some (by kernel_rfl))
  f33 := ⟨Try.f90.name, by decide, Try.func90.trans (congrArg some (by kernel_rfl))⟩
  f34 := ⟨Try.f91.name, by decide, Try.func91.trans (congrArg some (by kernel_rfl))⟩
  f35 := ⟨Try.f92.name, by decide, Try.func92.trans (congrArg some (by kernel_rfl))⟩
  f40 := ⟨Try.f103.name, by decide, Try.func103.trans (congrArg some (by kernel_rfl))⟩
  t0 := Try.underlying0
  a0 := Try.isAgg0
  z0 := Try.sizeOf0
  v0 := Try.zeroValue0
  t3 := Try.underlying3
  a3 := Try.isAgg3
  z3 := Try.sizeOf3
  v3 := Try.zeroValue3
  t4 := Try.underlying4
  a4 := Try.isAgg4
  z4 := Try.sizeOf4
  v4 := Try.zeroValue4
  t5 := Try.underlying5
  a5 := Try.isAgg5
  z5 := Try.sizeOf5
  v5 := Try.zeroValue5
  t9 := Try.underlying9
  a9 := Try.isAgg9
  z9 := Try.sizeOf9
  v9 := Try.zeroValue9
  t22 := Try.underlying24
  a22 := Try.isAgg24
  z22 := Try.sizeOf24
  v22 := Try.zeroValue24
  t23 := Try.underlying24
  a23 := Try.isAgg24
  z23 := Try.sizeOf24
  v23 := Try.zeroValue24
  t25 := Try.underlying2
  a25 := Try.isAgg2
  z25 := Try.sizeOf2
  v25 := Try.zeroValue2
  t32 := Try.underlying120
  a32 := Try.isAgg120
  z32 := Try.sizeOf120
  v32 := Try.zeroValue120
  t35 := Try.underlying127
  a35 := Try.isAgg127
  z35 := Try.sizeOf127
  v35 := Try.zeroValue127
  t36 := Try.underlying128
  a36 := Try.isAgg128
  z36 := Try.sizeOf128
  v36 := Try.zeroValue128
  t41 := Try.underlying121
  a41 := Try.isAgg121
  z41 := Try.sizeOf121
  v41 := Try.zeroValue121
  t44 := Try.underlying135
  a44 := Try.isAgg135
  z44 := Try.sizeOf135
  v44 := Try.zeroValue135
  t46 := Try.underlying137
  a46 := Try.isAgg137
  z46 := Try.sizeOf137
  v46 := Try.zeroValue137
  t53 := Try.underlying140
  a53 := Try.isAgg140
  z53 := Try.sizeOf140
  v53 := Try.zeroValue140
  t57 := Try.underlying144
  a57 := Try.isAgg144
  z57 := Try.sizeOf144
  v57 := Try.zeroValue144
  t63 := Try.underlying152
  a63 := Try.isAgg152
  z63 := Try.sizeOf152
  v63 := Try.zeroValue152
  t64 := Try.underlying153
  a64 := Try.isAgg153
  z64 := Try.sizeOf153
  v64 := Try.zeroValue153 }
end Go.Proofs

/- The keys of the base's map, in order. -/
namespace Go.Proofs.Ythpebfojkpnojaa
open Go.RowKit Go.Maps Go.Sort Go.Shelf
set_option linter.unusedVariables false
def srt (zs : List Int) : List Int := zs.mergeSort (fun x y => decide (x ≤ y))
theorem sortsA (m : Nat) : AnyZI.SortsIn Try.prog Try.sortedA_ren Fence.wide m :=
  ⟨fun blk off cap ss W hH hblk hsz => callsIn_wide.2 (AnyM.slices_Sort_int Try.sortA blk off cap ss W hH hblk hsz),
   fun p cap W => callsIn_wide.2 (AnyM.slices_Sort_int_none Try.sortA p cap W)⟩
theorem has_i64 {w : World} {b n : Nat} {D : DataW Value} (hown : w.ownsMap Try.prog 2 raw b n D) {x : Int} (h : Maps.has D (.int .i64 x) = true) : I64 x := by
  obtain ⟨es, rfl, hko⟩ := hown.keysOf
  rw [has_eq, List.any_eq_true] at h
  obtain ⟨p, hp, hs⟩ := h
  obtain ⟨v, hv⟩ := hko p hp
  obtain ⟨y, _, hy, hl⟩ := Maps.keyOf_i64 Try.underlying2 hv
  rw [hy] at hs
  obtain rfl : x = y := by simpa [Lit.sameKey, eq_comm] using hs
  simp [Lit.wf, IntKind.min, IntKind.max, IntKind.signed, IntKind.bits] at hl
  exact ⟨by omega, by omega⟩
theorem mem_look {s : Bas.S} (hg : Bas.Good s) {id : Int} : id ∈ s.live.map (·.id) ↔ (Bas.look s.live id).isSome = true := by
  constructor
  · intro h
    obtain ⟨e, he, rfl⟩ := List.mem_map.1 h
    rw [Bas.look_of_mem hg.sorted he]
    rfl
  · intro h
    cases hl : Bas.look s.live id with
    | none => rw [hl] at h; cases h
    | some e => obtain ⟨h1, h2⟩ := Bas.look_mem hl; exact List.mem_map.2 ⟨e, h1, h2⟩
theorem keys_perm {M : Nat → Prop} {bb K : Nat} {s : Bas.S} {W : World} (h : Bs M bb K s W) (hg : Bas.Good s) (hL : s.last ≤ 1000000000) :
    ∃ bm k D, W.cell? ⟨bb, 3, none⟩ = some (.map (some bm)) ∧ k ≤ K ∧ W.ownsMap Try.prog 2 raw bm k D ∧ Maps.size D = s.live.length ∧ ∀ ss : List Int, ss.Perm (intKeys D) → srt ss = s.live.map (·.id) := by
  obtain ⟨hv, bm, br, k, k2, f, g, rv, sv, tv, R, Z, rw', ids, iv, hb, m1, m2, m3, hne, ⟨⟨D, hown, hD⟩, a2, a3⟩, _⟩ := h
  have hnd : (s.live.map (·.id)).Pairwise (· < ·) := List.pairwise_map.2 hg.sorted
  have hfs : ∀ id, I64 id → (f id).isSome = (Bas.look s.live id).isSome := fun id hi => by
    have := a3 id hi
    cases he : Bas.look s.live id with
    | none => rw [he] at this; simp only [EntAt] at this; rw [this]; rfl
    | some e => rw [he] at this; obtain ⟨_, _, hf, _⟩ := this; rw [hf]; rfl
  have hc : CollectedI D (fun _ => false) (s.live.map (·.id)) := by
    refine ⟨hnd.imp (fun h e => by omega), fun x => ?_⟩
    rw [mem_look hg]
    constructor
    · intro h
      have hi : I64 x := by
        obtain ⟨p, hp, rfl⟩ := List.mem_map.1 ((mem_look hg).2 h)
        have := hg.ids p hp
        exact ⟨by omega, by omega⟩
      exact ⟨by rw [(hD x hi).1, hfs x hi]; exact h, rfl⟩
    · rintro ⟨h, _⟩
      have hi := has_i64 hown h
      rw [(hD x hi).1, hfs x hi] at h
      exact h
  have hp := hc.perm hown klawMp Try.underlying2 (fun _ => rfl)
  refine ⟨bm, k, D, row_cell hb 3, a2, hown, ?_, fun ss hs => ?_⟩
  · have := hp.length_eq
    rw [List.length_map] at this
    rw [this]
    obtain ⟨es, rfl, _⟩ := hown.keysOf
    rw [Maps.size_eq]
    simp [intKeys]
  have h1 : srt ss = srt (s.live.map (·.id)) := mergeSort_of_perm_i (hs.trans hp.symm)
  rw [h1]
  unfold srt
  refine List.Perm.eq_of_pairwise (le := fun a b => a ≤ b) (fun a b _ _ h1 h2 => by omega) ?_ (hnd.imp (fun h => by omega)) (List.mergeSort_perm _ _)
  have h2 := List.pairwise_mergeSort (le := fun x y : Int => decide (x ≤ y)) (fun a b c h1 h2 => by simp at *; omega) (fun a b => by simp; omega) (s.live.map (·.id))
  exact h2.imp (fun h => by simpa using h)
set_option maxHeartbeats 1000000 in
theorem keysC {bm k : Nat} {W : World} {D : DataW Value} (hown0 : W.ownsMap Try.prog 2 raw bm k D) (hk : k ≤ 100000000) (ids : List Int) (hD : ∀ ss : List Int, ss.Perm (intKeys D) → srt ss = ids) : KeysC W bm ids := by
  refine ⟨fun X => (callsIn_wide (n := 5)).1 (AnyZI.keys_in Try.keysA Fence.wide 5 trivial rfl (some bm) X), fun X hX => ?_⟩
  have hown : X.ownsMap Try.prog 2 raw bm k D := by
    obtain ⟨es, clock, hb, Ft, hs, hD⟩ := hown0
    exact ⟨es, clock, (hX.block bm (lt_of_blk hb)).trans hb, Ft, hs, hD⟩
  have hbl := hown.lt
  have hsz := hown.size_le
  have hseq : SeqGives Fence.wide 2 Try.prog 57 #[.pointer (some ⟨X.heap.size, 0, none⟩)] encZ (fun ss => ss.Perm (intKeys D)) (Maps.size D) (X.alloc (.cells #[.map (some bm)] 75)) :=
    AnyZI.keys_gives (ρ := Try.keysA_ren) { Try.keysA with } Fence.wide _ trivial rfl (by omega) X.heap.size bm k D _ (by simp) (by simp) (by
      obtain ⟨es, clock, hb, Ft, hs, hD⟩ := hown
      exact ⟨es, clock, (Below.heap_alloc _ _ bm hbl).trans hb, Ft, hs, hD⟩)
  have cS := AnyZI.sorted_in Try.sortedA Fence.wide 5 trivial trivial trivial trivial rfl (by omega) (sortsA _) (enters_of Try.func56 (by kernel_rfl) rfl) 57 #[.pointer (some ⟨X.heap.size, 0, none⟩)] trivial (enters_of Try.func57 (by kernel_rfl) rfl) _ _ (by unfold maxLen; omega) (by omega) _ hseq
  change CallsIn _ _ Try.prog 39 _ _ _ at cS
  refine ((callsIn_wide (n := 5)).1 cS).mono ?_
  rintro e w' ⟨v, ss, rfl, hS, hrow, hnil, hb⟩
  have e := hD ss hS
  have hl : ss.length = ids.length := by rw [← e]; exact (List.length_mergeSort _).symm
  rw [hl] at hrow
  obtain ⟨a, c, rfl⟩ := own_slc hrow
  refine ⟨a, c, rfl, ?_, ((Below.refl _ X).alloc (Nat.le_refl _) _).trans (hb.mono (by simp))⟩
  have h2 := own_base (base' := X.heap.size) hrow (by simp)
  rw [← e]
  rw [← e] at h2
  exact h2
end Go.Proofs.Ythpebfojkpnojaa

