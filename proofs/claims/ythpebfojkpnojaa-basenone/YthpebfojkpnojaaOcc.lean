/- Occurs, Keep: the calls that stand on alive, keep and note. -/
import Derived.Test.YthpebfojkpnojaaCln
namespace Go.Proofs.Ythpebfojkpnojaa
open Go.RowKit Go.Maps
set_option linter.unusedVariables false
set_option linter.unusedSimpArgs false
set_option maxRecDepth 100000
theorem sorted_len : ∀ (ids : List Int) (lo hi : Int), ids.Pairwise (· < ·) → (∀ i ∈ ids, lo < i ∧ i ≤ hi) → lo ≤ hi → (ids.length : Int) ≤ hi - lo := by
  intro ids
  induction ids with
  | nil => intro lo hi _ _ h; simp; omega
  | cons x t ih =>
    intro lo hi hp hb _
    rw [List.pairwise_cons] at hp
    have h1 := hb x (List.mem_cons_self ..)
    have := ih x hi hp.2 (fun i hi' => ⟨hp.1 i hi', (hb i (List.mem_cons_of_mem _ hi')).2⟩) h1.2
    simp only [List.length_cons]
    omega
theorem own_row {W : World} {base n c e : Nat} {o : Option Addr} {k : IntKind} {lo hi : Int} {xs : List Int} (h : W.ownsRow base e 1 (.slice o n c) n (xs.map (Value.int k))) (hb : ∀ x ∈ xs, lo ≤ x ∧ x ≤ hi) : Row k lo hi W o xs := by
  refine ⟨hb, ?_⟩
  have hl : xs.length = n := by have := h.1; simpa using this
  rcases h.2 with ⟨_, h0⟩ | ⟨g, c', cur, e1, _, h2, _, _, h5, h6⟩
  · left; exact List.eq_nil_of_length_eq_zero (by omega)
  · right
    injection e1 with e1 _ _
    refine ⟨g, 0, e1, lt_of_blk h2, fun j hj => ?_⟩
    rw [Nat.zero_add, row_cell h2]
    have h7 : (cur.toList.take (n * 1))[j]? = (xs.map (Value.int k))[j]? := by rw [h6]
    rw [List.getElem?_take, if_pos (by omega), List.getElem?_map, List.getElem?_eq_getElem hj] at h7
    rw [← Array.getElem?_toList, h7]
    simp [List.getD, hj]
set_option maxHeartbeats 4000000 in
theorem occurs15 {M : Nat → Prop} {bb K : Nat} {s : Bas.S} {W : World} (h : Bs M bb K s W) (hL : s.last ≤ 100000000) (l : Int) (hl : I32 l) :
    Calls Try.prog 15 #[.pointer (some ⟨bb, 0, none⟩), .int .i32 l] W fun e w' => IntsOut W.heap.size (Bas.occ s.live l) e w' ∧ Below W.heap.size W w' := by
  obtain ⟨hv, bm, br, k, k2, f, g, rv, sv, tv, R, Z, rw', ids, iv, hb, m1, m2, m3, hne, ⟨a1, a2, a3⟩, ⟨b1, b2, b3, b4, b5⟩, _⟩ := h
  have x3 : W.cell? ⟨bb, 3, none⟩ = some (.map (some bm)) := row_cell hb 3
  have x4 : W.cell? ⟨bb, 4, none⟩ = some (.map (some br)) := row_cell hb 4
  have hlk := b1.look hl
  cases hg : g l with
  | none =>
    have HO := hid (b4 l hg)
    rw [hg] at hlk
    simp only [Option.getD_none, Option.isSome_none] at hlk
    clear b3 b4 b5 a3 hg a1 b1 x3 hb
    go_enter Try.func15, Try.ntmps15
    go_wp2
    go_ret
    exact ⟨⟨_, rfl, by rw [HO.out]; exact World.ownsRow_nil _ _ _ _⟩, Below.refl _ _⟩
  | some v =>
    obtain ⟨rfl, _, ⟨go, la, q3, _⟩, q5, q6, q7, q8⟩ := b3 l v hg
    rw [hg] at hlk
    simp only [Option.getD_some, Option.isSome_some] at hlk
    have hlen : (ids l).length ≤ 100000000 := by
      have := sorted_len (ids l) 0 100000000 q7 (fun i hi => ⟨(q8 i hi).1, by have := (q8 i hi).2; omega⟩) (by omega)
      omega
    obtain ⟨o, c, hiv⟩ := own_slc q5.1
    have hq5 := q5.1
    rw [hiv] at hq5 q3
    have hrow : Hnts W o (ids l) := own_row hq5 (fun i hi => by have := q8 i hi; omega)
    have r0 : W.cell? ⟨rw' l, 0, none⟩ = some (.slice o (ids l).length c) := row_cell q3 0
    have hf : (ids l).filter (fun i => (f i).isSome) = Bas.occ s.live l := by
      rw [← q6]
      apply List.filter_congr
      intro i hi
      have hi2 := q8 i hi
      have := a3 i ⟨by omega, by omega⟩
      cases hq : Bas.look s.live i with
      | none => rw [hq] at this; simp only [EntAt] at this; rw [this]; rfl
      | some d => rw [hq] at this; obtain ⟨_, _, e1, _⟩ := this; rw [e1]; rfl
    have C := hid (alive41 x3 a1 (fun i v hi hfv => by
      have := a3 i hi
      rw [hfv] at this
      cases hq : Bas.look s.live i with
      | none => rw [hq] at this; cases this
      | some d => rw [hq] at this; obtain ⟨a9, c9, e1, _⟩ := this; injection e1 with e1; exact ⟨_, _, _, _, _, e1⟩) o (ids l).length c (ids l) rfl hlen hrow)
    rw [hf] at C
    clear b3 b4 b5 a3 hg a1 b1 x3 hb hf q3 q5 q6 q7 q8 hrow hq5 hiv hlen
    generalize (ids l).length = n at *
    generalize rw' l = rb at *
    go_enter Try.func15, Try.ntmps15
    go_wp2_with (go_at_call 41; refine C.out.mono ?_; rintro e w4 ⟨⟨v4, rfl, ho⟩, hw4⟩; have HO4 := hid ho; have HB4 := hid hw4; clear ho hw4)
    go_ret
    exact ⟨⟨_, rfl, HO4.out⟩, HB4.out⟩
end Go.Proofs.Ythpebfojkpnojaa
