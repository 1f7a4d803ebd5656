/- Steps are written as the document says, as a call. -/
import Derived.Test.YtmgeoeajnpnadaaDoorWorks
import Derived.Test.YtmgeoeajnpnadaaDoorSize
namespace Bin
/-- The bytes that Write tells, and its error. -/
def out (ss : List Lra.Stp) : List Int := if ss.all Lra.may then text ss else []
def err (ss : List Lra.Stp) : Int := if ss.all Lra.may then 0 else 50
theorem out_byt (ss : List Lra.Stp) : Byt (out ss) := by
  unfold out
  split
  · exact text_byt ss
  · intro x hx; cases hx
end Bin
namespace Go.Proofs.YtmgeoeajnpnadaaDoor
open Go.RowKit
set_option linter.unusedVariables false
set_option linter.unusedSimpArgs false

theorem WOut.bts {w w' : World} {ss : List Lra.Stp} {e : Ending} {q : Nat} {er : Int} (h : WOut w ss e w') (hq : (Bin.out ss).length = q) (he : Bin.err ss = er) : ∃ o c, e = .returned (.tuple #[.slice o q c, .int .i64 er]) ∧ Bts w' o (Bin.out ss) ∧ q ≤ c ∧ c ≤ 9223372036854775807 ∧ Below w.heap.size w w' := by
  subst hq he
  rcases h with ⟨h1, h2, h3⟩ | ⟨h1, o, c, h2, h3, h4⟩
  · have e1 : Bin.out ss = [] := by unfold Bin.out; rw [h1]; rfl
    have e2 : Bin.err ss = 50 := by unfold Bin.err; rw [h1]; rfl
    rw [e1, e2]
    exact ⟨none, 0, h2, Row.nil _ _ _ _ _, Nat.le_refl _, by decide, h3⟩
  · have e1 : Bin.out ss = Bin.text ss := by unfold Bin.out; rw [h1]; rfl
    have e2 : Bin.err ss = 0 := by unfold Bin.err; rw [h1]; rfl
    rw [e1, e2]
    refine ⟨o, c, h2, own_row h3 (fun x hx => by have := Bin.text_byt ss x hx; omega), ?_, ?_, h4⟩
    · rcases h3.2 with ⟨g1, g2⟩ | ⟨g, cap, cur, g1, g2, g3, g4, g5, g6⟩
      · rw [g2]; exact Nat.zero_le _
      · cases g1; exact g4
    · rcases h3.2 with ⟨g1, g2⟩ | ⟨g, cap, cur, g1, g2, g3, g4, g5, g6⟩
      · simp only [Value.slice.injEq] at g1; rw [g1.2.2]; decide
      · cases g1
        unfold maxLen at g5
        omega
theorem fits_of {W : World} {a : Option Addr} {ss : List Lra.Stp} (hS : Steps W a ss) : ∀ s ∈ ss, Fits s := by
  intro s hm
  obtain ⟨j, hj, rfl⟩ := List.getElem_of_mem hm
  rcases hS with h0 | ⟨b, off, _, hst⟩
  · rw [h0] at hj; cases hj
  · obtain ⟨a1, c1, a2, c2, h⟩ := hst j hj
    exact ⟨h.v.k, h.v.i, h.v.l.1, h.v.h.1, h.v.n⟩
theorem worksB (w : World) (W : World) (hW : Below w.heap.size w W) : Calls Tryd.prog 5 #[] W fun e w' => e = .returned (.bool true) ∧ Below w.heap.size w w' :=
  (works9 W).mono fun e w' q => ⟨q.1, hW.trans (q.2.mono hW.size)⟩

end Go.Proofs.YtmgeoeajnpnadaaDoor
