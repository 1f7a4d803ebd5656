/- Keep, Get. -/
import Derived.Test.YthpebfojkpnojaaOcc
namespace Go.Proofs.Ythpebfojkpnojaa
open Go.RowKit Go.Maps
set_option linter.unusedVariables false
set_option linter.unusedSimpArgs false
set_option maxRecDepth 100000
theorem Bs.more {M : Nat → Prop} {bb K K' : Nat} {s : Bas.S} {W : World} (h : Bs M bb K s W) (hk : K ≤ K') : Bs M bb K' s W := by
  obtain ⟨hv, bm, br, k, k2, f, g, rv, sv, tv, R, Z, rw', ids, iv, hb, m1, m2, m3, hne, ⟨a1, a2, a3⟩, ⟨b1, b2, b3⟩, c⟩ := h
  exact ⟨hv, bm, br, k, k2, f, g, rv, sv, tv, R, Z, rw', ids, iv, hb, m1, m2, m3, hne, ⟨a1, Nat.le_trans a2 hk, a3⟩, ⟨b1, Nat.le_trans b2 hk, b3⟩, c⟩
theorem Bs.below {M : Nat → Prop} {bb K : Nat} {s : Bas.S} {W W' : World} (h : Bs M bb K s W) (hl : Below W.heap.size W W') : Bs M bb K s W' := by
  obtain ⟨hv, bm, br, k, k2, f, g, rv, sv, tv, R, Z, rw', ids, iv, hb, m1, m2, m3, hne, ⟨a1, a2, a3⟩, ⟨b1, b2, b3, b4⟩, ⟨c1, c2, c3⟩, ⟨d1, d2, d3⟩, e1⟩ := h
  have ho : ∀ {e : TypeId} {size : Nat} {v : Value} {n : Nat} {xs : List Value}, OwnM M W e size v n xs → OwnM M W' e size v n xs := fun h => ⟨own_below h.1 hl, h.2⟩
  refine ⟨hv, bm, br, k, k2, f, g, rv, sv, tv, R, Z, rw', ids, iv, (hl.block bb (lt_of_blk hb)).trans hb, m1, m2, m3, hne, ⟨a1.same (hl.block bm a1.lt), a2, fun id hi => (a3 id hi).keep hl.size (fun g hg _ => hl.block g hg)⟩, ⟨b1.same (hl.block br b1.lt), b2, fun l v hlv => ?_, b4⟩, ⟨ho c1, c2, fun q hq => ⟨(c3 q hq).1.below hl, (c3 q hq).2.below hl⟩⟩, ⟨ho d1, d2, fun q hq => ⟨(d3 q hq).1.below hl, (d3 q hq).2.below hl⟩⟩, ho e1⟩
  obtain ⟨q1, q2, ⟨go, la, q3, q4⟩, q5, q6, q7⟩ := b3 l v hlv
  exact ⟨q1, q2, ⟨go, la, (hl.block _ (lt_of_blk q3)).trans q3, q4⟩, ho q5, q6, q7⟩
/-- What a call leaves that turns the base and answers an error. -/
def ErrOut (M : Nat → Prop) (bb K : Nat) (r : Int) (s : Bas.S) (W : World) (en : Ending) (w' : World) : Prop := en = .returned (.int .i64 r) ∧ ∃ M', Bs M' bb K s w' ∧ Fm M W w' ∧ Mn W M M'
set_option maxHeartbeats 4000000 in
theorem keep8 {M : Nat → Prop} {bb K : Nat} {s : Bas.S} {W : World} (h : Bs M bb K s W) (hK : K < maxLen) (hn : s.rules.length ≤ 1000000000) (id : Int) (hi : I64 id) :
    Calls Try.prog 8 #[.pointer (some ⟨bb, 0, none⟩), .int .i64 id] W fun en w' => ErrOut M bb (K + 1) (Bas.keepE s id) (Bas.keepS s id) W en w' := by
  have h' := h
  obtain ⟨hv, bm, br, k, k2, f, g, rv, sv, tv, R, Z, rw', ids, iv, hb, m1, m2, m3, hne, ⟨a1, a2, a3⟩, _⟩ := h'
  have x3 : W.cell? ⟨bb, 3, none⟩ = some (.map (some bm)) := row_cell hb 3
  have hlk := a1.look hi
  have hE := a3 id hi
  cases he : Bas.look s.live id with
  | none =>
    rw [he] at hE
    simp only [EntAt] at hE
    rw [hE] at hlk
    simp only [Option.getD_none, Option.isSome_none] at hlk
    have OUT := hid (fun X (hX : Below W.heap.size W X) => show ErrOut M bb (K + 1) (Bas.keepE s id) (Bas.keepS s id) W (.returned (.int .i64 5)) X from by
      have e1 : Bas.keepE s id = 5 := by simp [Bas.keepE, he]
      have e2 : Bas.keepS s id = s := by simp [Bas.keepS, e1]
      rw [e1, e2]
      exact ⟨rfl, M, (h.more (Nat.le_succ _)).below hX, Fm.of_below hX, Mn.refl _ _⟩)
    clear h a1 a3 hb hE he
    go_enter Try.func8, Try.ntmps8
    go_wp2
    go_ret
    exact OUT.out _ (below_box _ _)
  | some e =>
    rw [he] at hE
    obtain ⟨a9, c9, hf, _⟩ := hE
    rw [hf] at hlk
    simp only [Option.getD_some, Option.isSome_some, entV] at hlk
    have C35 := hid (fun X (hX : Below W.heap.size W X) => keep35 (h.below hX) hK id hi e he)
    have e1 : Bas.keepE s id = 0 := by simp [Bas.keepE, he]
    have C33 := hid (fun (W1 : World) (h1 : Bs M bb (K + 1) { s with live := Bas.keepL s.live id } W1) => note33 h1 ⟨2, id, 0, false, [], []⟩ none 0 none 0 ⟨by show (0 : Int) ≤ 2; decide, by show (2 : Int) < 256; decide⟩ ⟨Row.nil _ _ _ _ _, fun _ _ e => by cases e⟩ ⟨Row.nil _ _ _ _ _, fun _ _ e => by cases e⟩ hn)
    have OUT := hid (fun (W1 w' : World) (hF : Fm M W W1) (ho : NoteOut M bb (K + 1) { s with live := Bas.keepL s.live id, rules := s.rules ++ [⟨2, id, 0, false, [], []⟩] } W1 (.returned (.tuple #[])) w') => show ErrOut M bb (K + 1) (Bas.keepE s id) (Bas.keepS s id) W (.returned (.int .i64 0)) w' from by
      obtain ⟨_, M', o1, o2, o3⟩ := ho
      have e2 : Bas.keepS s id = { s with live := Bas.keepL s.live id, rules := s.rules ++ [⟨2, id, 0, false, [], []⟩] } := by simp [Bas.keepS, e1]
      rw [e1, e2]
      refine ⟨rfl, M', o1, ?_, ?_⟩
      · exact ⟨o2.os.trans hF.os, o2.tape.trans hF.tape, o2.output.trans hF.output, Nat.le_trans hF.size o2.size, fun q hq hnm => (o2.block q (Nat.lt_of_lt_of_le hq hF.size) hnm).trans (hF.block q hq hnm)⟩
      · intro q hq
        rcases o3 q hq with h9 | h9
        · exact .inl h9
        · exact .inr (Nat.le_trans hF.size h9))
    clear h a1 a3 hb he e1 hf hn hK
    generalize e.lits.length = el at *
    generalize e.red = er at *
    generalize e.id = ei at *
    go_enter Try.func8, Try.ntmps8
    go_wp2_with (first | (go_at_call 35; go_loud (refine (C35.out _ (below_box _ _)).mono ?_; clear C35; rintro e w4 ⟨rfl, hB4, hF4⟩; have HB4 := hid hB4; have HF4 := hid (show Fm M W w4 from (Fm.of_below (below_box _ _)).trans hF4 (Mn.refl _ _)); clear hB4 hF4)) | (go_at_call 33; go_loud ( refine (C33.out _ HB4.out).mono ?_; clear C33; rintro e w5 ho; have hen := ho.1; subst hen; have HO5 := hid (OUT.out _ _ HF4.out ho); clear ho)))
    go_ret
    exact HO5.out
end Go.Proofs.Ythpebfojkpnojaa
