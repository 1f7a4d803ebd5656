/- Delete. -/
import Derived.Test.YthpebfojkpnojaaEnw
namespace Go.Proofs.Ythpebfojkpnojaa
open Go.RowKit Go.Maps
set_option linter.unusedVariables false
set_option linter.unusedSimpArgs false
set_option maxRecDepth 100000
set_option maxHeartbeats 4000000 in
theorem delete9 {M : Nat → Prop} {bb K : Nat} {s : Bas.S} {W : World} (h : Bs M bb K s W) (hL : s.last ≤ 100000000) (hlit : ∀ e ∈ s.live, e.lits.length ≤ 100000000) (hn : s.rules.length ≤ 1000000000) (id : Int) (hi : I64 id) :
    Calls Try.prog 9 #[.pointer (some ⟨bb, 0, none⟩), .int .i64 id] W fun en w' => ErrOut M bb K (Bas.deleteE s id) (Bas.deleteS s id) W en w' := by
  have h' := h
  obtain ⟨hv, bm, br, k, k2, f, g, rv, sv, tv, R, Z, rw', ids, iv, hb, m1, m2, m3, hne, ⟨a1, a2, a3⟩, _⟩ := h'
  have x3 : W.cell? ⟨bb, 3, none⟩ = some (.map (some bm)) := row_cell hb 3
  have hlk := a1.look hi
  have hE := a3 id hi
  have BAD := hid (fun (r : Int) (hr : Bas.deleteE s id = r) (h0 : r ≠ 0) X (hX : Below W.heap.size W X) => show ErrOut M bb K (Bas.deleteE s id) (Bas.deleteS s id) W (.returned (.int .i64 r)) X from by
      have e2 : Bas.deleteS s id = s := by unfold Bas.deleteS; rw [hr, if_neg h0]
      rw [hr, e2]
      exact ⟨rfl, M, h.below hX, Fm.of_below hX, Mn.refl _ _⟩)
  cases he : Bas.look s.live id with
  | none =>
    rw [he] at hE
    simp only [EntAt] at hE
    rw [hE] at hlk
    simp only [Option.getD_none, Option.isSome_none] at hlk
    have OUT := hid (BAD.out 5 (by simp [Bas.deleteE, he]) (by decide))
    clear h a1 a3 hb hE he BAD
    go_enter Try.func9, Try.ntmps9
    go_wp2
    go_ret
    exact OUT.out _ (below_box _ _)
  | some e =>
    rw [he] at hE
    obtain ⟨a9, c9, hf, hli, hcc⟩ := hE
    have hme := Bas.look_mem he
    rw [hf] at hlk
    simp only [Option.getD_some, Option.isSome_some, entV, hme.2] at hlk
    cases her : e.red with
    | false =>
      have OUT := hid (BAD.out 7 (by simp [Bas.deleteE, he, her]) (by decide))
      rw [her] at hlk
      clear h a1 a3 hb he BAD hf hme hlit hli
      generalize e.lits.length = el at *
      go_enter Try.func9, Try.ntmps9
      go_wp2
      go_ret
      exact OUT.out _ (below_box _ _)
    | true =>
      rw [her] at hlk
      have C28 := hid (fun X (hX : Below W.heap.size W X) => full28 (h.below hX))
      cases hfl : Bas.full s with
      | true =>
        have OUT := hid (BAD.out 3 (by simp [Bas.deleteE, he, her, hfl]) (by decide))
        rw [hfl] at C28
        clear h a1 a3 hb he BAD hf hme hlit hli
        generalize e.lits.length = el at *
        go_enter Try.func9, Try.ntmps9
        go_wp2_with (go_at_call 28; refine (C28.out _ (below_box _ _)).mono ?_; clear C28; rintro e w4 ⟨rfl, hw4⟩; rw [hw4]; clear hw4)
        go_ret
        exact OUT.out _ (below_box _ _)
      | false =>
        rw [hfl] at C28
        have e1 : Bas.deleteE s id = 0 := by simp [Bas.deleteE, he, her, hfl]
        have C36 := hid (fun X (hX : Below W.heap.size W X) => leave36 (h.below hX) hL id hi true a9 e.lits.length c9 e.lits rfl (hlit e hme.1) (hli.below hX))
        have C33 := hid (fun (W1 : World) (M1 : Nat → Prop) (h1 : Bs M1 bb K { s with live := Bas.delL s.live id } W1) => note33 h1 ⟨3, id, 0, false, [], []⟩ none 0 none 0 ⟨by show (0 : Int) ≤ 3; decide, by show (3 : Int) < 256; decide⟩ ⟨Row.nil _ _ _ _ _, fun _ _ e => by cases e⟩ ⟨Row.nil _ _ _ _ _, fun _ _ e => by cases e⟩ hn)
        have OUT := hid (fun (W1 w' : World) (M1 : Nat → Prop) (hF : Fm M W W1) (hM1 : Mn W M M1) (ho : NoteOut M1 bb K { s with live := Bas.delL s.live id, rules := s.rules ++ [⟨3, id, 0, false, [], []⟩] } W1 (.returned (.tuple #[])) w') => show ErrOut M bb K (Bas.deleteE s id) (Bas.deleteS s id) W (.returned (.int .i64 0)) w' from by
          obtain ⟨_, M', o1, o2, o3⟩ := ho
          have e2 : Bas.deleteS s id = { s with live := Bas.delL s.live id, rules := s.rules ++ [⟨3, id, 0, false, [], []⟩] } := by simp [Bas.deleteS, e1]
          rw [e1, e2]
          exact ⟨rfl, M', o1, hF.trans o2 hM1, hM1.trans o3 hF.size⟩)
        clear h a1 a3 hb he BAD hf hme hlit hli e1 hn
        generalize e.lits.length = el at *
        go_enter Try.func9, Try.ntmps9
        go_wp2_with (first
          | (go_at_call 28; go_loud (refine (C28.out _ (below_box _ _)).mono ?_; clear C28; rintro e w4 ⟨rfl, hw4⟩; rw [hw4]; clear hw4))
          | (go_at_call 36; go_loud (refine (C36.out _ (below_box _ _)).mono ?_; clear C36; rintro e w4 ⟨rfl, M4, hB4, hF4, hN4⟩; have HB4 := hid hB4; have HF4 := hid (show Fm M W w4 ∧ Mn W M M4 from ⟨(Fm.of_below (below_box _ _)).trans hF4 (Mn.refl _ _), (Mn.refl _ _).trans hN4 (below_box _ _).size⟩); clear hB4 hF4 hN4))
          | (go_at_call 33; go_loud (refine (C33.out _ _ HB4.out).mono ?_; clear C33; rintro e w5 ho; have hen := ho.1; subst hen; have HO5 := hid (OUT.out _ _ _ HF4.out.1 HF4.out.2 ho); clear ho)))
        go_ret
        exact HO5.out
end Go.Proofs.Ythpebfojkpnojaa
