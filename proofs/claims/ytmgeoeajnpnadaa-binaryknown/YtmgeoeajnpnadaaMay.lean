/- May a step be, by the program and by the document. -/
import Derived.Test.YtmgeoeajnpnadaaAll
namespace Go.Proofs.Ytmgeoeajnpnadaa
open Go.RowKit
set_option linter.unusedVariables false

/-- What a step's value leads to. -/
structure StpV (W : World) (a1 a2 : Option Addr) (s : Lra.Stp) : Prop where
  l : Lits W a1 s.lits
  h : Hnts W a2 s.hints
  k : 0 ≤ s.kind ∧ s.kind < 256
  i : -9223372036854775808 ≤ s.id ∧ s.id ≤ 9223372036854775807
  n : s.lits.length ≤ 35184372088832 ∧ s.hints.length ≤ 35184372088832
theorem StpV.below {W W' : World} {a1 a2 : Option Addr} {s : Lra.Stp} (h : StpV W a1 a2 s) (hb : Below W.heap.size W W') : StpV W' a1 a2 s := ⟨h.l.below hb, h.h.below hb, h.k, h.i, h.n⟩
/-- A step's value. -/
def sval (s : Lra.Stp) (a1 : Option Addr) (c1 : Nat) (a2 : Option Addr) (c2 : Nat) : Value := .agg #[.int .u8 s.kind, .int .i64 s.id, .slice a1 s.lits.length c1, .slice a2 s.hints.length c2]

set_option maxRecDepth 100000 in
set_option maxHeartbeats 4000000 in
theorem mayBe18 (s : Lra.Stp) (a1 : Option Addr) (c1 : Nat) (a2 : Option Addr) (c2 : Nat) (w : World) (hs : StpV w a1 a2 s) :
    Calls Try.prog 18 #[sval s a1 c1 a2 c2] w fun e w' => e = .returned (.bool (Lra.may s)) ∧ Below w.heap.size w w' := by
  obtain ⟨kind, id, lits, hints⟩ := s
  obtain ⟨h1, h2, h3, h4, h5⟩ := hs
  simp only at h1 h2 h3 h4 h5
  unfold sval Lra.may
  simp only
  have hB := below_box w (.cells #[.int .u8 kind, .int .i64 id, .slice a1 lits.length c1, .slice a2 hints.length c2] 43)
  have H1 := hid (h1.below hB)
  have H2 := hid (h2.below hB)
  have HB := hid hB
  have H5 := hid h5
  by_cases k1 : kind = 1
  · rw [if_pos k1]
    subst k1
    generalize hW : w.alloc (.cells #[.int .u8 1, .int .i64 id, .slice a1 lits.length c1, .slice a2 hints.length c2] 43) = W1 at H1 H2 HB
    have C31 := hid (added28 id W1)
    have C32 := hid (all29_30 a1 lits.length c1 lits W1 rfl H5.out.1 H1.out)
    have C34 := hid (all31_32 a2 hints.length c2 hints W1 rfl H5.out.2 H2.out)
    have hx := heap_alloc_new w (.cells #[.int .u8 1, .int .i64 id, .slice a1 lits.length c1, .slice a2 hints.length c2] 43)
    rw [hW] at hx
    have x0 := row_cell hx 0
    have x1 := row_cell hx 1
    have x2 := row_cell hx 2
    have x3 := row_cell hx 3
    simp only [List.getElem?_toArray, List.getElem?_cons_zero, List.getElem?_cons_succ] at x0 x1 x2 x3
    generalize lits.length = n1 at hW C32 x2
    generalize hints.length = n2 at hW C34 x3
    generalize lits.all Lra.literal = b2 at C32
    generalize hints.all Lra.hint = b3 at C34
    generalize Lra.added id = b1 at C31
    clear hx h1 h2 h3 h4 h5 H1 H2 H5 hB
    cases b1
    · go_enter Try.func18, Try.ntmps18
      go_wp2_with (first
        | (go_at_call 28; refine C31.out.mono ?_; clear C31; rintro e W ⟨rfl, rfl⟩))
      go_ret
      exact ⟨rfl, HB.out⟩
    · cases b2
      all_goals
        go_enter Try.func18, Try.ntmps18
        go_wp2_with (first
          | (go_at_call 28; refine C31.out.mono ?_; clear C31; rintro e W ⟨rfl, rfl⟩)
          | (go_at_call 29; refine C32.out.mono ?_; clear C32; rintro e W ⟨rfl, rfl⟩)
          | (go_at_call 31; refine C34.out.mono ?_; clear C34; rintro e W ⟨rfl, rfl⟩))
        go_ret
        exact ⟨rfl, HB.out⟩
  by_cases k2 : kind = 2
  · rw [if_neg k1, if_pos k2]
    subst k2
    generalize hW : w.alloc (.cells #[.int .u8 2, .int .i64 id, .slice a1 lits.length c1, .slice a2 hints.length c2] 43) = W1 at H1 H2 HB
    have C36 := hid (known33 id W1)
    have C34 := hid (all31_28 a2 hints.length c2 hints W1 rfl H5.out.2 H2.out)
    have hx := heap_alloc_new w (.cells #[.int .u8 2, .int .i64 id, .slice a1 lits.length c1, .slice a2 hints.length c2] 43)
    rw [hW] at hx
    have x0 := row_cell hx 0
    have x1 := row_cell hx 1
    have x2 := row_cell hx 2
    have x3 := row_cell hx 3
    simp only [List.getElem?_toArray, List.getElem?_cons_zero, List.getElem?_cons_succ] at x0 x1 x2 x3
    have he : lits.isEmpty = ((lits.length : Int) == 0) := by cases lits <;> simp <;> omega
    rw [he]
    clear he
    generalize lits.length = n1 at hW x2 ⊢
    generalize hints.length = n2 at hW C34 x3
    generalize hints.all Lra.added = b3 at C34
    generalize Lra.known id = b1 at C36
    clear hx h1 h2 h3 h4 h5 H1 H2 H5 hB k1
    cases b1
    · go_enter Try.func18, Try.ntmps18
      go_wp2_with (first
        | (go_at_call 33; refine C36.out.mono ?_; clear C36; rintro e W ⟨rfl, rfl⟩))
      go_ret
      exact ⟨rfl, HB.out⟩
    · cases hz : ((n1 : Int) == 0)
      all_goals
        go_enter Try.func18, Try.ntmps18
        go_wp2_with (first
          | (go_at_call 33; refine C36.out.mono ?_; clear C36; rintro e W ⟨rfl, rfl⟩)
          | (go_at_call 31; refine C34.out.mono ?_; clear C34; rintro e W ⟨rfl, rfl⟩))
        go_ret
        exact ⟨rfl, HB.out⟩
  · rw [if_neg k1, if_neg k2]
    have e1 : (kind == 1) = false := by simpa using k1
    have e2 : (kind == 2) = false := by simpa using k2
    clear h1 h2 h3 h4 h5 H1 H2 H5 hB k1 k2
    generalize lits.length = n1 at HB ⊢
    generalize hints.length = n2 at HB ⊢
    go_enter Try.func18, Try.ntmps18
    go_wp2
    go_ret
    exact ⟨rfl, HB.out⟩
end Go.Proofs.Ytmgeoeajnpnadaa
