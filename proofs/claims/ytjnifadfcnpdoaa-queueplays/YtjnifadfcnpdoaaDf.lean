/- The document's queue: new ones, copies. -/
import Derived.Test.YtjnifadfcnpdoaaDe
namespace Go.Proofs.Ytjnifadfcnpdoaa
open Go.RowKit Go.Maps
set_option linter.unusedVariables false
set_option linter.unusedSimpArgs false
set_option maxRecDepth 100000
theorem own_new {W : World} {base n e size c : Nat} {o : Option Addr} {xs : List Value} (h : W.ownsRow base e size (.slice o n c) n xs) : ∀ a, o = some a → base ≤ a.block := by
  intro a e
  subst e
  rcases h.2 with ⟨h, _⟩ | ⟨g, cap, cur, h, h2, _⟩
  · cases h
  · cases h; exact h2
theorem infoB : (Try.prog.info? 4).map (fun i => (i.zero, i.size, i.bytes)) = some (some (.bool false), 1, 1) := by kernel_rfl
/-- append, of a row that is owned and a row that is only read. -/
theorem appX {t el by_ : Nat} {z : Value} (hu : Try.prog.underlying t = some (.slice el)) (hi : (Try.prog.info? el).map (fun i => (i.zero, i.size, i.bytes)) = some (some z, 1, by_)) (hzs : z.cells.size = 1) (h8 : by_ ≤ 8) {W : World} {base n : Nat} {v : Value} {xs ys : List Value} (h : W.ownsRow base el 1 v n xs) (hb : base ≤ W.heap.size)
    {a off m c : Nat} (hl : ys.length = m) (hc : ∀ j, j < m → W.cell? ⟨a, off + j, none⟩ = ys[j]?) (h1 : ∀ u ∈ ys, u.oneCell' = true) (hk : n + m ≤ 33554432) :
    ∃ o' c' B, (Builtin.append_ #[t, t] t #[v, .slice (some ⟨a, off, none⟩) m c]).run Try.prog W = .ok (.slice o' (n + m) c') B ∧ B.ownsRow base el 1 (.slice o' (n + m) c') (n + m) (xs ++ ys) ∧ Fq (fun q => v.ownBlock ≠ some q) W B ∧ Below base W B ∧ ∀ g, (Value.slice o' (n + m) c').ownBlock = some g → v.ownBlock = some g ∨ g = W.heap.size := by
  obtain ⟨i0, hi0, hz⟩ := Option.map_eq_some_iff.1 hi
  simp only [Prod.mk.injEq] at hz
  obtain ⟨v', X, hr, h2, h3, _, h5⟩ := run_append_own_at (P := Try.prog) W base t t el i0 _ 1 by_ hu hi0 hz.1 hz.2.1 hz.2.2 hzs (by decide) v n _ h ⟨a, off, none⟩ m c ys (by omega) (fun j u hu => by
    have hj : j < m := by
      rcases Nat.lt_or_ge j m with h' | h'
      · exact h'
      · rw [List.getElem?_eq_none (by omega)] at hu; cases hu
    rw [show (⟨a, off, none⟩ : Addr).add j = ⟨a, off + j, none⟩ from Go.WideShapes.add_plain _ _ _, hc j hj]
    exact hu) h1 (by unfold maxLen; omega) (by have : (n + m) * by_ ≤ (n + m) * 8 := Nat.mul_le_mul_left _ h8; omega) hb
  obtain ⟨o', c', rfl⟩ := own_slc h2
  refine ⟨o', c', X, hr, h2, Fq.grown h3 (fun q e hq => hq e), ⟨h3.os, h3.tape, h3.output, h3.size, fun q hq => h3.block q (by omega) (fun e => ?_)⟩, fun g hg => ?_⟩
  · have := (own_blk h e.symm).1
    omega
  · rcases h5 with h5 | h5
    · exact .inl (h5.symm.trans hg)
    · right
      rw [h5] at hg
      injection hg with hg
      exact hg.symm
theorem inn_one' (L : List Nat) : ∀ u ∈ inn L, u.oneCell' = true := by
  intro u hu
  obtain ⟨v, _, rfl⟩ := List.mem_map.1 hu
  rfl
theorem iss_one' (L : List Int) : ∀ u ∈ iss L, u.oneCell' = true := by
  intro u hu
  obtain ⟨v, _, rfl⟩ := List.mem_map.1 hu
  rfl
theorem inn_length (L : List Nat) : (inn L).length = L.length := by simp [inn]
theorem iss_length (L : List Int) : (iss L).length = L.length := by simp [iss]
/-- A copy of a row of numbers: append(nil, r...). -/
theorem appC3 {W : World} {o : Option Addr} {n c : Nat} {L : List Nat} (h : W.ownsRow 0 3 1 (.slice o n c) n (inn L)) (hn : n ≤ 1048577) :
    ∃ o' c' B, (Builtin.append_ #[32, 32] 32 #[.slice none 0 0, .slice o n c]).run Try.prog W = .ok (.slice o' n c') B ∧ B.ownsRow W.heap.size 3 1 (.slice o' n c') n (inn L) ∧ Below W.heap.size W B := by
  rcases Nat.eq_zero_or_pos n with h0 | h0
  · subst h0
    have hL : L = [] := List.eq_nil_of_length_eq_zero (inn_len h)
    subst hL
    refine ⟨none, 0, W, ?_, World.ownsRow_nil _ _ _ _, Below.refl _ _⟩
    cases o <;> kernel_rfl
  · obtain ⟨g, c2, cur, e, _⟩ := own_some h h0
    cases e
    obtain ⟨o', c', B, h1, h2, h3, h4, _⟩ := appX (t := 32) Try.underlying32 info3 rfl (by decide) (World.ownsRow_nil W W.heap.size 3 1) (Nat.le_refl _) (a := g) (off := 0) (m := n) (c := c) (ys := inn L) (by rw [inn_length]; exact inn_len h) (fun j hj => by rw [Nat.zero_add]; exact (own_cell h hj).1) (inn_one' L) (by omega)
    rw [Nat.zero_add] at h1 h2
    rw [List.nil_append] at h2
    exact ⟨o', c', B, h1, h2, h4⟩
theorem appC2 {W : World} {g n c : Nat} {L : List Int} (h : W.ownsRow 0 2 1 (.slice (some ⟨g, 0, none⟩) n c) n (iss L)) (hn : n ≤ 1048577) (h0 : 0 < n) :
    ∃ g' c' B, (Builtin.append_ #[51, 51] 51 #[.slice none 0 0, .slice (some ⟨g, 0, none⟩) n c]).run Try.prog W = .ok (.slice (some ⟨g', 0, none⟩) n c') B ∧ B.ownsRow W.heap.size 2 1 (.slice (some ⟨g', 0, none⟩) n c') n (iss L) ∧ Below W.heap.size W B := by
  obtain ⟨o', c', B, h1, h2, h3, h4, _⟩ := appX (t := 51) Try.underlying51 info2 rfl (by decide) (World.ownsRow_nil W W.heap.size 2 1) (Nat.le_refl _) (a := g) (off := 0) (m := n) (c := c) (ys := iss L) (by rw [iss_length]; exact iss_len h) (fun j hj => by rw [Nat.zero_add]; exact (own_cell h hj).1) (iss_one' L) (by omega)
  rw [Nat.zero_add] at h1 h2
  rw [List.nil_append] at h2
  obtain ⟨g', c2, cur, e, _⟩ := own_some h2 h0
  cases e
  exact ⟨g', c', B, h1, h2, h4⟩
section
variable {D : Da} {n : Nat} {L : List Nat} {st : List Int} {mv : Nat} {W : World}
def CpD (n : Nat) (L : List Nat) (st : List Int) (mv : Nat) (W : World) (e : Ending) (w' : World) : Prop :=
  ∃ D' : Da, e = .returned (.pointer (some ⟨D'.qb, 0, none⟩)) ∧ Dq D' n L st mv w' ∧ W.heap.size ≤ D'.qb ∧ W.heap.size ≤ D'.gs ∧ (∀ x, D'.aR = some x → W.heap.size ≤ x.block) ∧ Below W.heap.size W w'
set_option maxHeartbeats 4000000 in
theorem copy13 (H : Dq D n L st mv W) :
    Calls Try.prog 13 #[.pointer (some ⟨D.qb, 0, none⟩)] W fun e w' => CpD n L st mv W e w' := by
  have c0 : W.cell? ⟨D.qb, 0, none⟩ = some (.slice D.aR n D.cR) := row_cell H.blk 0
  have hmx := H.mx
  obtain ⟨o1, k1, X, r1, w1, b1⟩ := appC3 H.rs (by omega)
  have HR1 := hid r1
  have H1 := H.below b1
  have d1 : X.cell? ⟨D.qb, 1, none⟩ = some (.slice (some ⟨D.gs, 0, none⟩) (n + 1) D.cs) := row_cell H1.blk 1
  obtain ⟨g2, k2, Y, r2, w2, b2⟩ := appC2 H1.ss (by omega) (by omega)
  have HR2 := hid r2
  have H2 := H1.below b2
  have e2 : Y.cell? ⟨D.qb, 2, none⟩ = some (.int .i64 (mv : Int)) := row_cell H2.blk 2
  have bX := b1
  have sX := b1.size
  have sY := b2.size
  have HO := hid (fun (Z : World) (hZ : Z = Y.alloc (.cells #[.slice o1 n k1, .slice (some ⟨g2, 0, none⟩) (n + 1) k2, .int .i64 (mv : Int)] 56)) => show CpD n L st mv W (.returned (.pointer (some ⟨Y.heap.size, 0, none⟩))) Z from by
    have bz := below_box Y (.cells #[.slice o1 n k1, .slice (some ⟨g2, 0, none⟩) (n + 1) k2, .int .i64 (mv : Int)] 56)
    rw [hZ]
    refine ⟨⟨Y.heap.size, o1, k1, g2, k2⟩, rfl, ⟨heap_alloc_new Y _, own_base (own_below (own_below w1 b2) bz) (Nat.zero_le _), own_base (own_below w2 bz) (Nat.zero_le _), hmx⟩, by show W.heap.size ≤ Y.heap.size; omega, ?_, fun x hx => own_new w1 x hx, b1.trans ((b2.mono sX).trans (bz.mono (by omega)))⟩
    have := own_new w2 _ rfl
    show W.heap.size ≤ g2
    simp only at this
    omega)
  obtain ⟨m, hm⟩ : ∃ m, n + 1 = m := ⟨_, rfl⟩
  rw [hm] at d1 HR2 HO
  clear H H1 H2 r1 w1 b1 r2 w2 b2 hmx bX sX sY hm
  go_enter Try.func13, Try.ntmps13
  go_wp2_with (first
    | (at_builtin; refine wpList_append_run rfl (.tmp 5) (.tmp 9) 32 32 rfl rfl rfl HR1.out ?_)
    | (at_builtin; refine wpList_append_run rfl (.tmp 11) (.tmp 15) 51 51 rfl rfl rfl HR2.out ?_))
  go_ret
  exact HO.out _ rfl
end
end Go.Proofs.Ytjnifadfcnpdoaa
