/- Drop, by another clause. -/
import Derived.Test.YthpebfojkpnojaaSub
import Derived.Test.YthpebfojkpnojaaDel
import Derived.Test.YthpebfojkpnojaaKep
namespace Go.Proofs.Ythpebfojkpnojaa
open Go.RowKit Go.Maps
set_option linter.unusedVariables false
set_option linter.unusedSimpArgs false
set_option maxRecDepth 100000
theorem drop_ok {s : Bas.S} {id by_ : Int} (hb : by_ ≠ 0) (h : Bas.dropE s id by_ = 0) : ∃ e d, Bas.look s.live id = some e ∧ Bas.look s.live by_ = some d ∧ by_ ≠ id ∧ Bas.sub d.lits e.lits = true ∧ Bas.full s = false := by
  unfold Bas.dropE at h
  cases he : Bas.look s.live id with
  | none => rw [he] at h; cases h
  | some e =>
    rw [he] at h
    simp only [hb, if_false] at h
    cases hd : Bas.look s.live by_ with
    | none => rw [hd] at h; cases h
    | some d =>
      rw [hd] at h
      simp only at h
      by_cases h1 : by_ = id
      · rw [if_pos h1] at h; cases h
      · rw [if_neg h1] at h
        by_cases h2 : Bas.subs d.lits e.lits = true
        · rw [if_pos h2] at h
          by_cases h3 : Bas.full s = true
          · rw [if_pos h3] at h; cases h
          · exact ⟨e, d, rfl, rfl, h1, by rw [Bas.sub_subs]; exact h2, by simpa using h3⟩
        · rw [if_neg h2] at h; cases h
set_option maxHeartbeats 8000000 in
theorem drop10_ok {M : Nat → Prop} {bb K : Nat} {s : Bas.S} {W : World} (h : Bs M bb K s W) (hK : K < maxLen) (hL : s.last ≤ 100000000) (hlit : ∀ e ∈ s.live, e.lits.length ≤ 16) (hn : s.rules.length ≤ 1000000000) (id by_ : Int) (hi : I64 id) (hj : I64 by_) (hb0 : by_ ≠ 0) (h0 : Bas.dropE s id by_ = 0) :
    Calls Try.prog 10 #[.pointer (some ⟨bb, 0, none⟩), .int .i64 id, .int .i64 by_] W fun en w' => ErrOut M bb (K + 1) 0 (Bas.dropS s id by_) W en w' := by
  obtain ⟨e, d, he, hd, hne, hsub, hfl⟩ := drop_ok hb0 h0
  obtain ⟨M0, hM0⟩ : ∃ M0 : Nat → Prop, M0 = fun g => M g ∧ g < W.heap.size := ⟨_, rfl⟩
  have hc := h.cap
  rw [← hM0] at hc
  have hM0l : ∀ g, M0 g → M g ∧ g < W.heap.size := fun g hg => by rw [hM0] at hg; exact hg
  have hc' := hc
  obtain ⟨hv, bm, br, k, k2, f, g, rv, sv, tv, R, Z, rw', ids, iv, hb, m1, m2, m3, hne2, ⟨a1, a2, a3⟩, _⟩ := hc'
  have x3 : W.cell? ⟨bb, 3, none⟩ = some (.map (some bm)) := row_cell hb 3
  have hlk := a1.look hi
  have hE := a3 id hi
  have hE2 := a3 by_ hj
  rw [he] at hE
  rw [hd] at hE2
  obtain ⟨a9, c9, hf, hli, hcc⟩ := hE
  obtain ⟨b9, d9, hf2, hli2, hcc2⟩ := hE2
  have hB1 := below_box W (.cells #[.int .i64 id, .slice a9 e.lits.length c9, .bool e.red] 32)
  have hlk2 := (a1.same (hB1.block bm a1.lt)).look hj
  have x3b : (W.alloc (.cells #[.int .i64 id, .slice a9 e.lits.length c9, .bool e.red] 32)).cell? ⟨bb, 3, none⟩ = some (.map (some bm)) := (hB1.cell (p := ⟨bb, 3, none⟩) (cell_lt x3)).trans x3
  have hbb : (by_ != 0) = true := by simpa using hb0
  have hme := Bas.look_mem he
  have hmd := Bas.look_mem hd
  rw [hf] at hlk
  rw [hf2] at hlk2
  simp only [Option.getD_some, Option.isSome_some, entV, hme.2] at hlk
  simp only [Option.getD_some, Option.isSome_some, entV, hmd.2] at hlk2
  have hle := hlit e hme.1
  have hld := hlit d hmd.1
  have C28 := hid (fun X (hX : Below W.heap.size W X) => full28 (hc.below hX))
  rw [hfl] at C28
  have C37 := hid (fun X (hX : Below W.heap.size W X) => spare37_by id a9 e.lits.length c9 e.red e.lits by_ b9 d.lits.length d9 d.red d.lits X hb0 (.inl hle) rfl rfl (by omega) (by omega) (hli.1.below hX) (hli2.1.below hX))
  rw [hsub] at C37
  simp only [hne, ne_eq, not_false_eq_true, decide_true, Bool.and_self] at C37
  have hredOf : Bas.redOf s id = e.red := by simp [Bas.redOf, he]
  have hS2 : Bas.dropS s id by_ = { s with live := Bas.delL (if e.red = true then s.live else Bas.keepL s.live by_) id, rules := s.rules ++ [⟨4, id, by_, false, [], []⟩] } := by
    unfold Bas.dropS
    rw [if_pos h0, hredOf]
    simp [hb0]
  rw [hS2]
  generalize hL2 : (if e.red = true then s.live else Bas.keepL s.live by_) = L2
  have C35 := hid (fun X (hX : Below W.heap.size W X) => keep35 (hc.below hX) hK by_ hj d hd)
  have C36 := hid (fun X (hX : Bs M0 bb (K + 1) { s with live := L2 } X) (hlx : LI M0 X a9 e.lits) => leave36 hX hL id hi e.red a9 e.lits.length c9 e.lits rfl (by omega) hlx)
  have C33 := hid (fun (W1 : World) (M1 : Nat → Prop) (h1 : Bs M1 bb (K + 1) { s with live := Bas.delL L2 id } W1) => note33 h1 ⟨4, id, by_, false, [], []⟩ none 0 none 0 ⟨by show (0 : Int) ≤ 4; decide, by show (4 : Int) < 256; decide⟩ ⟨Row.nil _ _ _ _ _, fun _ _ e => by cases e⟩ ⟨Row.nil _ _ _ _ _, fun _ _ e => by cases e⟩ hn)
  have OUT := hid (fun (W1 w' : World) (M1 : Nat → Prop) (hF : Fm M0 W W1) (hM1 : Mn W M0 M1) (ho : NoteOut M1 bb (K + 1) { s with live := Bas.delL L2 id, rules := s.rules ++ [⟨4, id, by_, false, [], []⟩] } W1 (.returned (.tuple #[])) w') => show ErrOut M bb (K + 1) 0 { s with live := Bas.delL L2 id, rules := s.rules ++ [⟨4, id, by_, false, [], []⟩] } W (.returned (.int .i64 0)) w' from by
    obtain ⟨_, M', o1, o2, o3⟩ := ho
    have f := hF.trans o2 hM1
    have mn := hM1.trans o3 hF.size
    exact ⟨rfl, M', o1, ⟨f.os, f.tape, f.output, f.size, fun q hq hnm => f.block q hq (fun hm => hnm (hM0l q hm).1)⟩, fun q hq => by
      rcases mn q hq with h9 | h9
      · exact .inl (hM0l q h9).1
      · exact .inr h9⟩)
  have HXX := hid (fun (B : Obj) w3 (hb3 : Below ((W.alloc (.cells #[.int .i64 id, .slice a9 e.lits.length c9, .bool e.red] 32)).alloc B).heap.size ((W.alloc (.cells #[.int .i64 id, .slice a9 e.lits.length c9, .bool e.red] 32)).alloc B) w3) => show w3.heap[W.heap.size]? = some (.cells #[.int .i64 id, .slice a9 e.lits.length c9, .bool e.red] 32 (0, 0)) ∧ Below W.heap.size W w3 from
    ⟨(hb3.block W.heap.size (by simp; omega)).trans (((below_box (W.alloc (.cells #[.int .i64 id, .slice a9 e.lits.length c9, .bool e.red] 32)) B).block W.heap.size (by simp)).trans (heap_alloc_new W _)),
      ((below_box W _).trans ((below_box _ B).mono (below_box W _).size)).trans (hb3.mono (by simp; omega))⟩)
  have HMW := hid (fun g hg => (hM0l g hg).2)
  have HLE := hid hli
  have HC := hid hc
  have HY0 := hid (fun (X : World) (hX : Below W.heap.size W X) => show X.cell? ⟨bb, 3, none⟩ = some (.map (some bm)) ∧ True from ⟨(hX.cell (p := ⟨bb, 3, none⟩) (cell_lt x3)).trans x3, trivial⟩)
  cases her : e.red with
  | true =>
    rw [her] at hlk hlk2 x3b C37 C36 HXX hL2
    rw [if_pos rfl] at hL2
    subst hL2
    have C36e := hid (fun X (hX : Bs M0 bb (K + 1) s X) (hlx : LI M0 X a9 e.lits) => C36.out X hX hlx)
    clear C36
    have C36 := C36e
    clear C36e
    have HCM := hid (fun X (hX : Below W.heap.size W X) => show Bs M0 bb (K + 1) s X from (HC.out.more (Nat.le_succ K)).below hX)
    clear h hc hB1 a1 a3 hb he hd hf hf2 hme hmd hlit hli hli2 hn hM0 hM0l C35 hredOf hS2 hfl hsub her
    generalize e.lits.length = el at *
    generalize d.lits.length = dl at *
    generalize d.red = dr at *
    go_enter Try.func10, Try.ntmps10
    go_wp2_with (first
      | (go_at_call 37; go_loud (refine (C37.out _ ((below_box W _).trans ((below_box _ _).mono (below_box W _).size))).mono ?_; clear C37; rintro e w3 ⟨rfl, hb3⟩
                                 have HB3 := hid (HXX.out _ _ hb3)
                                 have z0 : w3.cell? ⟨W.heap.size, 0, none⟩ = some (.int .i64 id) := row_cell HB3.out.1 0
                                 have z1 : w3.cell? ⟨W.heap.size, 1, none⟩ = some (.slice a9 el c9) := row_cell HB3.out.1 1
                                 have z2 : w3.cell? ⟨W.heap.size, 2, none⟩ = some (.bool true) := row_cell HB3.out.1 2
                                 clear hb3))
      | (go_at_call 28; go_loud (refine (C28.out _ HB3.out.2).mono ?_; clear C28; rintro e w4 ⟨rfl, hw4⟩; rw [hw4]; clear hw4))
      | (go_at_call 36; go_loud (refine (C36.out _ (HCM.out _ HB3.out.2) (HLE.out.below HB3.out.2)).mono ?_; clear C36; rintro e w4 ⟨rfl, M4, hB4, hF4, hN4⟩; have HB4 := hid hB4; have HF4 := hid (show Fm M0 W w4 ∧ Mn W M0 M4 from ⟨(Fm.of_below HB3.out.2).trans hF4 (Mn.refl _ _), (Mn.refl _ _).trans hN4 HB3.out.2.size⟩); clear hB4 hF4 hN4))
      | (go_at_call 33; go_loud (refine (C33.out _ _ HB4.out).mono ?_; clear C33; rintro e w5 ho; have hen := ho.1; subst hen; have HO5 := hid (OUT.out _ _ _ HF4.out.1 HF4.out.2 ho); clear ho)))
    go_ret
    exact HO5.out
  | false =>
    rw [her] at hlk hlk2 x3b C37 C36 HXX hL2
    rw [if_neg (by decide)] at hL2
    subst hL2
    clear h hc hB1 a1 a3 hb he hd hf hf2 hme hmd hlit hli hli2 hn hM0 hM0l hredOf hS2 hfl hsub her
    generalize e.lits.length = el at *
    generalize d.lits.length = dl at *
    generalize d.red = dr at *
    go_enter Try.func10, Try.ntmps10
    go_wp2_with (first
      | (go_at_call 37; go_loud (refine (C37.out _ ((below_box W _).trans ((below_box _ _).mono (below_box W _).size))).mono ?_; clear C37; rintro e w3 ⟨rfl, hb3⟩
                                 have HB3 := hid (HXX.out _ _ hb3)
                                 have z0 : w3.cell? ⟨W.heap.size, 0, none⟩ = some (.int .i64 id) := row_cell HB3.out.1 0
                                 have z1 : w3.cell? ⟨W.heap.size, 1, none⟩ = some (.slice a9 el c9) := row_cell HB3.out.1 1
                                 have z2 : w3.cell? ⟨W.heap.size, 2, none⟩ = some (.bool false) := row_cell HB3.out.1 2
                                 clear hb3))
      | (go_at_call 28; go_loud (refine (C28.out _ HB3.out.2).mono ?_; clear C28; rintro e w4 ⟨rfl, hw4⟩; rw [hw4]; clear hw4))
      | (go_at_call 35; go_loud (refine (C35.out _ HB3.out.2).mono ?_; clear C35; rintro e w4 ⟨rfl, hB4, hF4⟩
                                 have HK4 := hid hB4
                                 have HG4 := hid ((Fm.of_below HB3.out.2).trans hF4 (Mn.refl _ _))
                                 have hh4 := (hF4.block W.heap.size (lt_of_blk HB3.out.1) (fun hm => Nat.lt_irrefl _ (HMW.out _ hm))).trans HB3.out.1
                                 have v0 : w4.cell? ⟨W.heap.size, 0, none⟩ = some (.int .i64 id) := row_cell hh4 0
                                 have v1 : w4.cell? ⟨W.heap.size, 1, none⟩ = some (.slice a9 el c9) := row_cell hh4 1
                                 have v2 : w4.cell? ⟨W.heap.size, 2, none⟩ = some (.bool false) := row_cell hh4 2
                                 clear hB4 hF4 hh4 z0 z1 z2))
      | (go_at_call 36; go_loud (refine (C36.out _ HK4.out (HLE.out.fm HG4.out (Mn.refl _ _))).mono ?_; clear C36; rintro e w5 ⟨rfl, M4, hB5, hF5, hN5⟩; have HB4 := hid hB5; have HF4 := hid (show Fm M0 W w5 ∧ Mn W M0 M4 from ⟨HG4.out.trans hF5 (Mn.refl _ _), (Mn.refl _ _).trans hN5 HG4.out.size⟩); clear hB5 hF5 hN5))
      | (go_at_call 33; go_loud (refine (C33.out _ _ HB4.out).mono ?_; clear C33; rintro e w6 ho; have hen := ho.1; subst hen; have HO5 := hid (OUT.out _ _ _ HF4.out.1 HF4.out.2 ho); clear ho)))
    go_ret
    exact HO5.out
end Go.Proofs.Ythpebfojkpnojaa
