/- Drop, whole. -/
import Derived.Test.YthpebfojkpnojaaGreatJbn
import Derived.Test.YthpebfojkpnojaaGreatJbj
/- Drop, whole. -/
namespace Go.Proofs.YthpebfojkpnojaaGreat
open Go.RowKit Go.Maps
set_option linter.unusedVariables false
set_option linter.unusedSimpArgs false
set_option maxRecDepth 100000
theorem ent_form {M : Nat → Prop} {W : World} {o : Option Bas.E} {v : Option Value} (h : EntAt M W o v) : ∃ i a n c r, v.getD (.agg #[.int .i64 0, .slice none 0 0, .bool false]) = .agg #[.int .i64 i, .slice a n c, .bool r] := by
  cases o with
  | none => simp only [EntAt] at h; rw [h]; exact ⟨_, _, _, _, _, rfl⟩
  | some e => obtain ⟨a, c, h1, _⟩ := h; rw [h1]; exact ⟨_, _, _, _, _, rfl⟩
set_option maxHeartbeats 16000000 in
theorem drop10 {M : Nat → Prop} {bb K : Nat} {s : Bas.S} {W : World} (h : Bs M bb K s W) (hg : Bas.Good s) (hK : K < maxLen) (hL : s.last ≤ 100000000) (hlit : ∀ e ∈ s.live, e.lits.length ≤ 100000000) (hn : s.rules.length ≤ 1000000000) (id by_ : Int) (hi : I64 id) (hj : I64 by_) :
    Calls Tryz.prog 24 #[.pointer (some ⟨bb, 0, none⟩), .int .i64 id, .int .i64 by_] W fun en w' => ErrOut M bb (K + 1) (Bas.dropE s id by_) (Bas.dropS s id by_) W en w' := by
  have BAD := hid (fun (r : Int) (hr : Bas.dropE s id by_ = r) (h0 : r ≠ 0) X (hX : Below W.heap.size W X) => show ErrOut M bb (K + 1) (Bas.dropE s id by_) (Bas.dropS s id by_) W (.returned (.int .i64 r)) X from by
    have e2 : Bas.dropS s id by_ = s := by unfold Bas.dropS; rw [hr, if_neg h0]
    rw [hr, e2]
    exact ⟨rfl, M, (h.more (Nat.le_succ K)).below hX, Fm.of_below hX, Mn.refl _ _⟩)
  obtain ⟨M0, hM0⟩ : ∃ M0 : Nat → Prop, M0 = fun g => M g ∧ g < W.heap.size := ⟨_, rfl⟩
  have hc := h.cap
  rw [← hM0] at hc
  have hM0l : ∀ g, M0 g → M g ∧ g < W.heap.size := fun g hg => by rw [hM0] at hg; exact hg
  have hc' := hc
  obtain ⟨hv, bm, br, k, k2, f, g, rv, sv, tv, R, Z, rw', ids, iv, hb, m1, m2, m3, hne2, ⟨a1, a2, a3⟩, _⟩ := hc'
  have x3 : W.cell? ⟨bb, 3, none⟩ = some (.map (some bm)) := row_cell hb 3
  have hlk := a1.look hi
  have hE := a3 id hi
  have hE2 := a3 by_ hj
  cases he : Bas.look s.live id with
  | none =>
    rw [he] at hE
    simp only [EntAt] at hE
    rw [hE] at hlk
    simp only [Option.getD_none, Option.isSome_none] at hlk
    obtain ⟨q0, qa, qn, qc, qr, hq⟩ := ent_form hE2
    have hB1 := below_box W (.cells #[.int .i64 0, .slice none 0 0, .bool false] 83)
    have hlk2 := (a1.same (hB1.block bm a1.lt)).look hj
    rw [hq] at hlk2
    generalize (f by_).isSome = st at hlk2
    have x3b : (W.alloc (.cells #[.int .i64 0, .slice none 0 0, .bool false] 83)).cell? ⟨bb, 3, none⟩ = some (.map (some bm)) := (hB1.cell (p := ⟨bb, 3, none⟩) (cell_lt x3)).trans x3
    have OUT := hid (BAD.out 5 (by simp [Bas.dropE, he]) (by decide))
    clear h hg hc a1 a3 hb hE hE2 he BAD hM0 hM0l hB1 hq hlit hn
    go_enter Tryz.func24, Tryz.ntmps24
    go_wp2_with fail
    go_ret
    exact OUT.out _ ((below_box W _).trans ((below_box _ _).mono (below_box W _).size))
  | some e =>
    rw [he] at hE
    obtain ⟨a9, c9, hf, hli, hcc⟩ := hE
    have hme := Bas.look_mem he
    have hz0 : ∀ x ∈ e.lits, x ≠ 0 := fun x hx => (hg.lits e hme.1 x hx).1
    have hle := hlit e hme.1
    rw [hf] at hlk
    simp only [Option.getD_some, Option.isSome_some, entV, hme.2] at hlk
    have hB1 := below_box W (.cells #[.int .i64 id, .slice a9 e.lits.length c9, .bool e.red] 83)
    have hlk2 := (a1.same (hB1.block bm a1.lt)).look hj
    have x3b : (W.alloc (.cells #[.int .i64 id, .slice a9 e.lits.length c9, .bool e.red] 83)).cell? ⟨bb, 3, none⟩ = some (.map (some bm)) := (hB1.cell (p := ⟨bb, 3, none⟩) (cell_lt x3)).trans x3
    have C28 := hid (fun X (hX : Below W.heap.size W X) => full28 (hc.below hX))
    have HXX := hid (fun (B : Obj) w3 (hb3 : Below ((W.alloc (.cells #[.int .i64 id, .slice a9 e.lits.length c9, .bool e.red] 83)).alloc B).heap.size ((W.alloc (.cells #[.int .i64 id, .slice a9 e.lits.length c9, .bool e.red] 83)).alloc B) w3) => show w3.heap[W.heap.size]? = some (.cells #[.int .i64 id, .slice a9 e.lits.length c9, .bool e.red] 83 (0, 0)) ∧ Below W.heap.size W w3 from
      ⟨(hb3.block W.heap.size (by simp; omega)).trans (((below_box (W.alloc (.cells #[.int .i64 id, .slice a9 e.lits.length c9, .bool e.red] 83)) B).block W.heap.size (by simp)).trans (heap_alloc_new W _)),
        ((below_box W _).trans ((below_box _ B).mono (below_box W _).size)).trans (hb3.mono (by simp; omega))⟩)
    have hredOf : Bas.redOf s id = e.red := by simp [Bas.redOf, he]
    have HMW := hid (fun g hg => (hM0l g hg).2)
    have HLE := hid hli
    have HC := hid hc
    have OUTK := hid (fun (L2 : List Bas.E) (W1 w' : World) (M1 : Nat → Prop) (hF : Fm M0 W W1) (hM1 : Mn W M0 M1) (ho : NoteOut M1 bb (K + 1) { s with live := Bas.delL L2 id, rules := s.rules ++ [⟨4, id, by_, false, [], []⟩] } W1 (.returned (.tuple #[])) w') => show ErrOut M bb (K + 1) 0 { s with live := Bas.delL L2 id, rules := s.rules ++ [⟨4, id, by_, false, [], []⟩] } W (.returned (.int .i64 0)) w' from by
      obtain ⟨_, M', o1, o2, o3⟩ := ho
      have f := hF.trans o2 hM1
      have mn := hM1.trans o3 hF.size
      exact ⟨rfl, M', o1, ⟨f.os, f.tape, f.output, f.size, fun q hq hnm => f.block q hq (fun hm => hnm (hM0l q hm).1)⟩, fun q hq => by
        rcases mn q hq with h9 | h9
        · exact .inl (hM0l q h9).1
        · exact .inr h9⟩)
    have C33 := hid (fun (L2 : List Bas.E) (W1 : World) (M1 : Nat → Prop) (h1 : Bs M1 bb (K + 1) { s with live := Bas.delL L2 id } W1) => note33 h1 ⟨4, id, by_, false, [], []⟩ none 0 none 0 ⟨by show (0 : Int) ≤ 4; decide, by show (4 : Int) < 256; decide⟩ ⟨Row.nil _ _ _ _ _, fun _ _ e => by cases e⟩ ⟨Row.nil _ _ _ _ _, fun _ _ e => by cases e⟩ hn)
    have C36 := hid (fun (L2 : List Bas.E) X (hX : Bs M0 bb (K + 1) { s with live := L2 } X) (hlx : LI M0 X a9 e.lits) => leave36 hX hL id hi e.red a9 e.lits.length c9 e.lits rfl hle hlx)
    by_cases hb0 : by_ = 0
    · subst hb0
      have hp : Bas.look s.live 0 = none := by
        cases hq : Bas.look s.live 0 with
        | none => rfl
        | some d => have h1 := Bas.look_mem hq; have h2 := (hg.ids d h1.1).1; omega
      rw [hp] at hE2
      simp only [EntAt] at hE2
      rw [hE2] at hlk2
      simp only [Option.getD_none, Option.isSome_none] at hlk2
      have C37 := hid (fun X (hX : Below W.heap.size W X) => spare37 id a9 e.lits.length c9 e.red e.lits 0 none 0 0 false [] X hz0 rfl rfl (by omega) (by omega) (hli.1.below hX) (Row.nil _ _ _ _ _))
      have hsp : spareB id e.lits 0 [] = Bas.both e.lits := by unfold spareB; rw [if_pos rfl]
      rw [hsp] at C37
      cases hbo : Bas.both e.lits with
      | false =>
        rw [hbo] at C37
        have OUT := hid (BAD.out 2 (by simp [Bas.dropE, he, hbo]) (by decide))
        clear h hg hc hB1 a1 a3 hb he BAD hM0 hM0l hf hme hz0 hlit hli hn C36 C33 OUTK HLE HC HMW hredOf
        generalize e.lits.length = el at *
        generalize e.red = er at *
        go_enter Tryz.func24, Tryz.ntmps24
        go_wp2_with (first
          | (go_at_call 79; go_loud (refine (C37.out _ ((below_box W _).trans ((below_box _ _).mono (below_box W _).size))).mono ?_; clear C37; rintro e w3 ⟨rfl, hb3⟩; have HB3 := hid (HXX.out _ _ hb3); have z0 : w3.cell? ⟨W.heap.size, 0, none⟩ = some (.int .i64 id) := row_cell HB3.out.1 0; have z1 : w3.cell? ⟨W.heap.size, 1, none⟩ = some (.slice a9 el c9) := row_cell HB3.out.1 1; have z2 : w3.cell? ⟨W.heap.size, 2, none⟩ = some (.bool er) := row_cell HB3.out.1 2; clear hb3)))
        go_ret
        exact OUT.out _ HB3.out.2
      | true =>
        rw [hbo] at C37
        cases hfl : Bas.full s with
        | true =>
          rw [hfl] at C28
          have OUT := hid (BAD.out 3 (by simp [Bas.dropE, he, hbo, hfl]) (by decide))
          clear h hg hc hB1 a1 a3 hb he BAD hM0 hM0l hf hme hz0 hlit hli hn C36 C33 OUTK HLE HC HMW hredOf
          generalize e.lits.length = el at *
          generalize e.red = er at *
          go_enter Tryz.func24, Tryz.ntmps24
          go_wp2_with (first
            | (go_at_call 79; go_loud (refine (C37.out _ ((below_box W _).trans ((below_box _ _).mono (below_box W _).size))).mono ?_; clear C37; rintro e w3 ⟨rfl, hb3⟩; have HB3 := hid (HXX.out _ _ hb3); have z0 : w3.cell? ⟨W.heap.size, 0, none⟩ = some (.int .i64 id) := row_cell HB3.out.1 0; have z1 : w3.cell? ⟨W.heap.size, 1, none⟩ = some (.slice a9 el c9) := row_cell HB3.out.1 1; have z2 : w3.cell? ⟨W.heap.size, 2, none⟩ = some (.bool er) := row_cell HB3.out.1 2; clear hb3))
            | (go_at_call 66; go_loud (refine (C28.out _ HB3.out.2).mono ?_; clear C28; rintro e w4 ⟨rfl, hw4⟩; rw [hw4]; clear hw4)))
          go_ret
          exact OUT.out _ HB3.out.2
        | false =>
          rw [hfl] at C28
          have hE0 : Bas.dropE s id 0 = 0 := by simp [Bas.dropE, he, hbo, hfl]
          have hS : Bas.dropS s id 0 = { s with live := Bas.delL s.live id, rules := s.rules ++ [⟨4, id, 0, false, [], []⟩] } := by
            unfold Bas.dropS
            rw [if_pos hE0, hredOf]
            simp []
          rw [hE0, hS]
          have OUT := hid (OUTK.out s.live)
          have C36e := hid (fun X (hX : Bs M0 bb (K + 1) s X) (hlx : LI M0 X a9 e.lits) => C36.out s.live X hX hlx)
          have HCM := hid (fun X (hX : Below W.heap.size W X) => show Bs M0 bb (K + 1) s X from (HC.out.more (Nat.le_succ K)).below hX)
          have C33e := hid (C33.out s.live)
          clear C36 C33
          have C36 := C36e
          have C33 := C33e
          clear C36e C33e
          clear h hg hc hB1 a1 a3 hb he BAD hM0 hM0l hf hme hz0 hlit hli hn OUTK hredOf hE0 hS
          generalize e.lits.length = el at *
          generalize e.red = er at *
          go_enter Tryz.func24, Tryz.ntmps24
          go_wp2_with (first
            | (go_at_call 79; go_loud (refine (C37.out _ ((below_box W _).trans ((below_box _ _).mono (below_box W _).size))).mono ?_; clear C37; rintro e w3 ⟨rfl, hb3⟩; have HB3 := hid (HXX.out _ _ hb3); have z0 : w3.cell? ⟨W.heap.size, 0, none⟩ = some (.int .i64 id) := row_cell HB3.out.1 0; have z1 : w3.cell? ⟨W.heap.size, 1, none⟩ = some (.slice a9 el c9) := row_cell HB3.out.1 1; have z2 : w3.cell? ⟨W.heap.size, 2, none⟩ = some (.bool er) := row_cell HB3.out.1 2; clear hb3))
            | (go_at_call 66; go_loud (refine (C28.out _ HB3.out.2).mono ?_; clear C28; rintro e w4 ⟨rfl, hw4⟩; rw [hw4]; clear hw4))
            | (go_at_call 78; go_loud (refine (C36.out _ (HCM.out _ HB3.out.2) (HLE.out.below HB3.out.2)).mono ?_; clear C36; rintro e w5 ⟨rfl, M4, hB5, hF5, hN5⟩; have HB4 := hid hB5; have HF4 := hid (show Fm M0 W w5 ∧ Mn W M0 M4 from ⟨(Fm.of_below HB3.out.2).trans hF5 (Mn.refl _ _), (Mn.refl _ _).trans hN5 HB3.out.2.size⟩); clear hB5 hF5 hN5))
            | (go_at_call 69; go_loud (refine (C33.out _ _ HB4.out).mono ?_; clear C33; rintro e w6 ho; have hen := ho.1; subst hen; have HO5 := hid (OUT.out _ _ _ HF4.out.1 HF4.out.2 ho); clear ho)))
          go_ret
          exact HO5.out
    · have hbb : (by_ != 0) = true := by simpa using hb0
      cases hd : Bas.look s.live by_ with
      | none =>
        rw [hd] at hE2
        simp only [EntAt] at hE2
        rw [hE2] at hlk2
        simp only [Option.getD_none, Option.isSome_none] at hlk2
        have OUT := hid (BAD.out 5 (by simp [Bas.dropE, he, hb0, hd]) (by decide))
        clear h hg hc hB1 a1 a3 hb he BAD hM0 hM0l hf hme hz0 hlit hli hn C28 C36 C33 OUTK HLE HC HMW hredOf
        generalize e.lits.length = el at *
        generalize e.red = er at *
        go_enter Tryz.func24, Tryz.ntmps24
        go_wp2_with fail
        go_ret
        exact OUT.out _ ((below_box W _).trans ((below_box _ _).mono (below_box W _).size))
      | some d =>
        rw [hd] at hE2
        obtain ⟨b9, d9, hf2, hli2, hcc2⟩ := hE2
        have hmd := Bas.look_mem hd
        rw [hf2] at hlk2
        simp only [Option.getD_some, Option.isSome_some, entV, hmd.2] at hlk2
        have hld := hlit d hmd.1
        have C37 := hid (fun X (hX : Below W.heap.size W X) => spare37 id a9 e.lits.length c9 e.red e.lits by_ b9 d.lits.length d9 d.red d.lits X hz0 rfl rfl (by omega) (by omega) (hli.1.below hX) (hli2.1.below hX))
        obtain ⟨sp, hsp⟩ : ∃ sp, spareB id e.lits by_ d.lits = sp := ⟨_, rfl⟩
        have hEe : Bas.dropE s id by_ = if sp = true then (if Bas.full s then 3 else 0) else 2 := by
          rw [← hsp]
          unfold spareB
          simp only [Bas.dropE, he, hb0, if_false, hd]
          by_cases h1 : by_ = id
          · simp [h1]
          · simp [h1]
        rw [hsp] at C37
        have C35 := hid (fun X (hX : Below W.heap.size W X) => keep35 (hc.below hX) hK by_ hj d hd)
        cases sp with
        | false =>
          have OUT := hid (BAD.out 2 (by rw [hEe]; rfl) (by decide))
          clear h hg hc hB1 a1 a3 hb he BAD hM0 hM0l hf hme hz0 hlit hli hn C36 C33 OUTK HLE HC HMW hredOf
          clear C35 hmd hli2
          generalize e.lits.length = el at *; generalize d.lits.length = dl at *; generalize d.red = dr at *
          generalize e.red = er at *
          go_enter Tryz.func24, Tryz.ntmps24
          go_wp2_with (first
            | (go_at_call 79; go_loud (refine (C37.out _ ((below_box W _).trans ((below_box _ _).mono (below_box W _).size))).mono ?_; clear C37; rintro e w3 ⟨rfl, hb3⟩; have HB3 := hid (HXX.out _ _ hb3); have z0 : w3.cell? ⟨W.heap.size, 0, none⟩ = some (.int .i64 id) := row_cell HB3.out.1 0; have z1 : w3.cell? ⟨W.heap.size, 1, none⟩ = some (.slice a9 el c9) := row_cell HB3.out.1 1; have z2 : w3.cell? ⟨W.heap.size, 2, none⟩ = some (.bool er) := row_cell HB3.out.1 2; clear hb3)))
          go_ret
          exact OUT.out _ HB3.out.2
        | true =>
          cases hfl : Bas.full s with
          | true =>
            rw [hfl] at C28
            have OUT := hid (BAD.out 3 (by rw [hEe, hfl]; rfl) (by decide))
            clear h hg hc hB1 a1 a3 hb he BAD hM0 hM0l hf hme hz0 hlit hli hn C36 C33 OUTK HLE HC HMW hredOf
            clear C35 hmd hli2
            generalize e.lits.length = el at *; generalize d.lits.length = dl at *; generalize d.red = dr at *
            generalize e.red = er at *
            go_enter Tryz.func24, Tryz.ntmps24
            go_wp2_with (first
              | (go_at_call 79; go_loud (refine (C37.out _ ((below_box W _).trans ((below_box _ _).mono (below_box W _).size))).mono ?_; clear C37; rintro e w3 ⟨rfl, hb3⟩; have HB3 := hid (HXX.out _ _ hb3); have z0 : w3.cell? ⟨W.heap.size, 0, none⟩ = some (.int .i64 id) := row_cell HB3.out.1 0; have z1 : w3.cell? ⟨W.heap.size, 1, none⟩ = some (.slice a9 el c9) := row_cell HB3.out.1 1; have z2 : w3.cell? ⟨W.heap.size, 2, none⟩ = some (.bool er) := row_cell HB3.out.1 2; clear hb3))
              | (go_at_call 66; go_loud (refine (C28.out _ HB3.out.2).mono ?_; clear C28; rintro e w4 ⟨rfl, hw4⟩; rw [hw4]; clear hw4)))
            go_ret
            exact OUT.out _ HB3.out.2
          | false =>
            rw [hfl] at C28
            cases her : e.red with
            | true =>
              rw [her] at hlk hlk2 x3b C37 C36 HXX
              have hE0 : Bas.dropE s id by_ = 0 := by rw [hEe, hfl]; rfl
              have hS : Bas.dropS s id by_ = { s with live := Bas.delL s.live id, rules := s.rules ++ [⟨4, id, by_, false, [], []⟩] } := by
                unfold Bas.dropS
                rw [if_pos hE0, hredOf]
                simp [hb0, her]
              rw [hE0, hS]
              have OUT := hid (OUTK.out s.live)
              have C36e := hid (fun X (hX : Bs M0 bb (K + 1) s X) (hlx : LI M0 X a9 e.lits) => C36.out s.live X hX hlx)
              have HCM := hid (fun X (hX : Below W.heap.size W X) => show Bs M0 bb (K + 1) s X from (HC.out.more (Nat.le_succ K)).below hX)
              have C33e := hid (C33.out s.live)
              clear C36 C33
              have C36 := C36e
              have C33 := C33e
              clear C36e C33e
              clear h hg hc hB1 a1 a3 hb he BAD hM0 hM0l hf hme hz0 hlit hli hn OUTK hredOf hE0 hS
              clear C35 hmd hli2
              generalize e.lits.length = el at *; generalize d.lits.length = dl at *; generalize d.red = dr at *
              go_enter Tryz.func24, Tryz.ntmps24
              go_wp2_with (first
                | (go_at_call 79; go_loud (refine (C37.out _ ((below_box W _).trans ((below_box _ _).mono (below_box W _).size))).mono ?_; clear C37; rintro e w3 ⟨rfl, hb3⟩; have HB3 := hid (HXX.out _ _ hb3); have z0 : w3.cell? ⟨W.heap.size, 0, none⟩ = some (.int .i64 id) := row_cell HB3.out.1 0; have z1 : w3.cell? ⟨W.heap.size, 1, none⟩ = some (.slice a9 el c9) := row_cell HB3.out.1 1; have z2 : w3.cell? ⟨W.heap.size, 2, none⟩ = some (.bool true) := row_cell HB3.out.1 2; clear hb3))
                | (go_at_call 66; go_loud (refine (C28.out _ HB3.out.2).mono ?_; clear C28; rintro e w4 ⟨rfl, hw4⟩; rw [hw4]; clear hw4))
                | (go_at_call 78; go_loud (refine (C36.out _ (HCM.out _ HB3.out.2) (HLE.out.below HB3.out.2)).mono ?_; clear C36; rintro e w5 ⟨rfl, M4, hB5, hF5, hN5⟩; have HB4 := hid hB5; have HF4 := hid (show Fm M0 W w5 ∧ Mn W M0 M4 from ⟨(Fm.of_below HB3.out.2).trans hF5 (Mn.refl _ _), (Mn.refl _ _).trans hN5 HB3.out.2.size⟩); clear hB5 hF5 hN5))
                | (go_at_call 69; go_loud (refine (C33.out _ _ HB4.out).mono ?_; clear C33; rintro e w6 ho; have hen := ho.1; subst hen; have HO5 := hid (OUT.out _ _ _ HF4.out.1 HF4.out.2 ho); clear ho)))
              go_ret
              exact HO5.out
            | false =>
              rw [her] at hlk hlk2 x3b C37 C36 HXX
              have hE0 : Bas.dropE s id by_ = 0 := by rw [hEe, hfl]; rfl
              have hS : Bas.dropS s id by_ = { s with live := Bas.delL (Bas.keepL s.live by_) id, rules := s.rules ++ [⟨4, id, by_, false, [], []⟩] } := by
                unfold Bas.dropS
                rw [if_pos hE0, hredOf]
                simp [hb0, her]
              rw [hE0, hS]
              have OUT := hid (OUTK.out (Bas.keepL s.live by_))
              have C36e := hid (C36.out (Bas.keepL s.live by_))
              have C33e := hid (C33.out (Bas.keepL s.live by_))
              clear C36 C33
              have C36 := C36e
              have C33 := C33e
              clear C36e C33e
              clear h hg hc hB1 a1 a3 hb he BAD hM0 hM0l hf hme hz0 hlit hli hn OUTK hredOf hE0 hS
              clear hmd hli2
              generalize e.lits.length = el at *; generalize d.lits.length = dl at *; generalize d.red = dr at *
              go_enter Tryz.func24, Tryz.ntmps24
              go_wp2_with (first
                | (go_at_call 79; go_loud (refine (C37.out _ ((below_box W _).trans ((below_box _ _).mono (below_box W _).size))).mono ?_; clear C37; rintro e w3 ⟨rfl, hb3⟩; have HB3 := hid (HXX.out _ _ hb3); have z0 : w3.cell? ⟨W.heap.size, 0, none⟩ = some (.int .i64 id) := row_cell HB3.out.1 0; have z1 : w3.cell? ⟨W.heap.size, 1, none⟩ = some (.slice a9 el c9) := row_cell HB3.out.1 1; have z2 : w3.cell? ⟨W.heap.size, 2, none⟩ = some (.bool false) := row_cell HB3.out.1 2; clear hb3))
                | (go_at_call 66; go_loud (refine (C28.out _ HB3.out.2).mono ?_; clear C28; rintro e w4 ⟨rfl, hw4⟩; rw [hw4]; clear hw4))
                | (go_at_call 77; go_loud (refine (C35.out _ HB3.out.2).mono ?_; clear C35; rintro e w4 ⟨rfl, hB4, hF4⟩; have HK4 := hid hB4; have HG4 := hid ((Fm.of_below HB3.out.2).trans hF4 (Mn.refl _ _)); have hh4 := (hF4.block W.heap.size (lt_of_blk HB3.out.1) (fun hm => Nat.lt_irrefl _ (HMW.out _ hm))).trans HB3.out.1; have v0 : w4.cell? ⟨W.heap.size, 0, none⟩ = some (.int .i64 id) := row_cell hh4 0; have v1 : w4.cell? ⟨W.heap.size, 1, none⟩ = some (.slice a9 el c9) := row_cell hh4 1; have v2 : w4.cell? ⟨W.heap.size, 2, none⟩ = some (.bool false) := row_cell hh4 2; clear hB4 hF4 hh4 z0 z1 z2))
                | (go_at_call 78; go_loud (refine (C36.out _ HK4.out (HLE.out.fm HG4.out (Mn.refl _ _))).mono ?_; clear C36; rintro e w5 ⟨rfl, M4, hB5, hF5, hN5⟩; have HB4 := hid hB5; have HF4 := hid (show Fm M0 W w5 ∧ Mn W M0 M4 from ⟨HG4.out.trans hF5 (Mn.refl _ _), (Mn.refl _ _).trans hN5 HG4.out.size⟩); clear hB5 hF5 hN5))
                | (go_at_call 69; go_loud (refine (C33.out _ _ HB4.out).mono ?_; clear C33; rintro e w6 ho; have hen := ho.1; subst hen; have HO5 := hid (OUT.out _ _ _ HF4.out.1 HF4.out.2 ho); clear ho)))
              go_ret
              exact HO5.out
end Go.Proofs.YthpebfojkpnojaaGreat

