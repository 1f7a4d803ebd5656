/- Steps written as bytes, by the document. -/
import Derived.Test.YtmgeoeajnpnadaaDoorRStp
namespace Lra
theorem may_fits {s : Stp} (h : may s = true) : (s.kind = 1 ∨ s.kind = 2) ∧ (0 ≤ s.id ∧ s.id ≤ 4611686018427387903) ∧ (∀ x ∈ s.lits, -1048576 ≤ x ∧ x ≤ 1048576) ∧ (∀ x ∈ s.hints, -4611686018427387903 ≤ x ∧ x ≤ 4611686018427387903) := by
  unfold may at h
  split at h
  · next hk =>
    simp only [Bool.and_eq_true, List.all_eq_true] at h
    obtain ⟨h1, h2, h3⟩ := h
    refine ⟨.inl hk, ?_, fun x hx => ?_, fun x hx => ?_⟩
    · unfold added at h1; simp at h1; omega
    · have := h2 x hx; unfold literal at this; simp at this; omega
    · have := h3 x hx; unfold hint at this; simp at this; omega
  · split at h
    · next hk =>
      simp only [Bool.and_eq_true, List.all_eq_true] at h
      obtain ⟨h1, h2, h3⟩ := h
      refine ⟨.inr hk, ?_, fun x hx => ?_, fun x hx => ?_⟩
      · unfold known at h1; simp at h1; omega
      · rw [List.isEmpty_iff.1 h2] at hx; cases hx
      · have := h3 x hx; unfold added at this; simp at this; omega
    · cases h
end Lra
namespace Bin
def text (ss : List Lra.Stp) : List Int := ss.flatMap stp
theorem text_take (ss : List Lra.Stp) (k : Nat) (h : k < ss.length) : text (ss.take (k + 1)) = text (ss.take k) ++ stp ss[k] := by
  rw [List.take_succ_eq_append_getElem h]
  unfold text
  rw [List.flatMap_append]
  simp
theorem stp_len {s : Lra.Stp} (h : Lra.may s = true) : (stp s).length ≤ 9 * (s.lits.length + s.hints.length + 4) := by
  obtain ⟨h1, h2, h3, h4⟩ := Lra.may_fits h
  have e1 := num_len (n := s.id) (by omega) (by omega)
  have e2 := row_len (l := s.lits) (fun x hx => by have := h3 x hx; omega)
  have e3 := row_len (l := s.hints) h4
  unfold stp
  split <;> simp only [List.length_cons, List.length_append, List.length_nil] <;> omega
theorem text_len {ss : List Lra.Stp} (h : ss.all Lra.may = true) : (text ss).length ≤ 9 * (Lra.items ss + 4 * ss.length) := by
  induction ss with
  | nil => simp [text]
  | cons s ss ih =>
    simp only [List.all_cons, Bool.and_eq_true] at h
    have e : text (s :: ss) = stp s ++ text ss := by simp [text]
    have h1 := stp_len h.1
    have h2 := ih h.2
    rw [e, List.length_append, Lra.items_cons, List.length_cons]
    omega
end Bin
namespace Go.Proofs.YtmgeoeajnpnadaaDoor
open Go.RowKit
set_option linter.unusedVariables false
set_option linter.unusedSimpArgs false

/-- What Write tells. -/
def WOut (w : World) (ss : List Lra.Stp) (e : Ending) (w' : World) : Prop :=
  (ss.all Lra.may = false ∧ e = .returned (.tuple #[.slice none 0 0, .int .i64 50]) ∧ Below w.heap.size w w') ∨
  (ss.all Lra.may = true ∧ ∃ o c, e = .returned (.tuple #[.slice o (Bin.text ss).length c, .int .i64 0]) ∧ w'.ownsRow w.heap.size 5 1 (.slice o (Bin.text ss).length c) (Bin.text ss).length ((Bin.text ss).map (Value.int .u8)) ∧ Below w.heap.size w w')

end Go.Proofs.YtmgeoeajnpnadaaDoor
