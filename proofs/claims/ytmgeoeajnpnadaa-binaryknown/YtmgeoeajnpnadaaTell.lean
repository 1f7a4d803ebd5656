/- What Parse tells of bytes, as the statements ask for it. -/
import Derived.Test.YtmgeoeajnpnadaaWrt3
import Derived.ChangeArms
import Derived.WideShapes
namespace Bin
theorem says_ex : ∀ (n : Nat) (bs : List Int), bs.length ≤ n → Byt bs → ∃ ss rest, Says bs ss rest := by
  intro n
  induction n with
  | zero =>
    intro bs h hb
    have : bs = [] := List.length_eq_zero_iff.1 (by omega)
    subst this
    exact ⟨[], [], says_text (ss := []) rfl⟩
  | succ n ih =>
    intro bs h hb
    cases hs : stepR bs with
    | none => exact ⟨[], bs, ⟨by simp [text_nil], rfl, hs⟩⟩
    | some p =>
      obtain ⟨s, r⟩ := p
      obtain ⟨e, hm⟩ := stepR_back hb hs
      have hp := stp_pos s
      have hl := congrArg List.length e
      rw [List.length_append] at hl
      obtain ⟨ss, rest, h1⟩ := ih r (by omega) (by rw [e] at hb; exact hb.right)
      exact ⟨s :: ss, rest, ⟨by rw [text_cons, List.append_assoc, ← h1.eq]; exact e, by rw [List.all_cons, hm, h1.may]; rfl, h1.no⟩⟩
theorem Says.small {bs : List Int} {ss : List Lra.Stp} {rest : List Int} (h : Says bs ss rest) : ss.length + Lra.items ss + rest.length ≤ bs.length ∧ (text ss).length + rest.length = bs.length := by
  have h1 := text_ge ss
  have h2 := congrArg List.length h.eq
  rw [List.length_append] at h2
  omega
end Bin
namespace Lra
theorem fits_of {s : Stp} (h : may s = true) (hl : s.lits.length ≤ 1000000) (hh : s.hints.length ≤ 1000000) : Go.Proofs.Ytmgeoeajnpnadaa.Fits s := by
  obtain ⟨h1, h2, h3, h4⟩ := may_fits h
  refine ⟨?_, ?_, fun x hx => ?_, fun x hx => ?_, by omega⟩
  · rcases h1 with h1 | h1 <;> rw [h1] <;> decide
  · omega
  · have := h3 x hx; omega
  · have := h4 x hx; omega
theorem item_le {ss : List Stp} {s : Stp} (h : s ∈ ss) : s.lits.length + s.hints.length ≤ items ss := by
  induction ss with
  | nil => cases h
  | cons t ss ih =>
    rw [items_cons]
    rcases List.mem_cons.1 h with rfl | h
    · omega
    · have := ih h; omega
end Lra
namespace Go.Proofs.Ytmgeoeajnpnadaa
open Go.RowKit
set_option linter.unusedVariables false
set_option linter.unusedSimpArgs false

theorem own_room {W : World} {n e size m : Nat} {a : Option Addr} {l c : Nat} {xs : List Value} (h : W.ownsRow n e size (.slice a l c) m xs) : m ≤ c := by
  rcases h.2 with ⟨e1, h0⟩ | ⟨g, cap, cur, e1, _, _, hc, _⟩
  · omega
  · cases e1; exact hc
theorem Steps.front {W : World} {a : Option Addr} {l m : List Lra.Stp} (h : Steps W a (l ++ m)) : Steps W a l := by
  rcases h with h | ⟨b, off, e, h⟩
  · exact .inl (List.append_eq_nil_iff.1 h).1
  · refine .inr ⟨b, off, e, fun j hj => ?_⟩
    have := h j (by rw [List.length_append]; omega)
    rwa [List.getElem_append_left hj] at this
theorem Steps.back {W : World} {b off : Nat} {l m : List Lra.Stp} (h : Steps W (some ⟨b, off, none⟩) (l ++ m)) : Steps W (some ⟨b, off + l.length * 4, none⟩) m := by
  rcases h with h | ⟨b', off', e, h⟩
  · exact .inl (List.append_eq_nil_iff.1 h).2
  · cases e
    refine .inr ⟨b, _, rfl, fun j hj => ?_⟩
    have := h (l.length + j) (by rw [List.length_append]; omega)
    rw [List.getElem_append_right (by omega)] at this
    simp only [Nat.add_sub_cancel_left] at this
    rw [show off + l.length * 4 + j * 4 = off + (l.length + j) * 4 by omega]
    exact this
theorem Steps.mapped {W : World} {a : Option Addr} {l m : List Lra.Stp} {ln : Nat} (h : Steps W a (l ++ m)) (hl : l.length = ln) : Steps W (Option.map (fun x => x.add (ln * 4)) a) m := by
  subst hl
  cases a with
  | none =>
    rcases h with h | ⟨b, off, e, _⟩
    · exact .inl (List.append_eq_nil_iff.1 h).2
    · cases e
  | some x =>
    have hx : ∃ b off, x = ⟨b, off, none⟩ ∨ (l ++ m) = [] := by
      rcases h with h | ⟨b, off, e, _⟩
      · exact ⟨0, 0, .inr h⟩
      · exact ⟨b, off, .inl (Option.some.inj e)⟩
    obtain ⟨b, off, rfl | h0⟩ := hx
    · rw [Option.map_some, Go.WideShapes.add_plain]
      exact h.back
    · exact .inl (List.append_eq_nil_iff.1 h0).2
/-- Bytes that are a proof, read. -/
theorem good14 (a : Option Addr) (n c : Nat) (bs : List Int) (ss : List Lra.Stp) (sn : Nat) (hn : bs.length = n) (hl : n ≤ c) (hc : c ≤ 9223372036854775807) (hz : n ≤ 1000000) (hs : Bin.Says bs ss []) (hsn : ss.length = sn) (w W : World) (hW : Below w.heap.size w W) (h : Bts W a bs) :
    Calls Try.prog 14 #[.slice a n c] W fun e w' => ∃ a' c', e = .returned (.tuple #[.slice a' sn c', .int .i64 0, .int .i64 0]) ∧ Steps w' a' ss ∧ sn ≤ c' ∧ Below W.heap.size W w' ∧ Below w.heap.size w w' := by
  refine (parse14 a n c bs W hn h hl hc hz).mono fun e w' q => ?_
  obtain ⟨qs, v, hq, he, hm, hb⟩ := q.good hs
  have h1 := hs.small.1
  obtain ⟨a', c', rfl, hS⟩ := hm.steps (fun q hq' => by
    have hq2 : q.1 ∈ ss := by rw [← hq]; exact List.mem_map_of_mem hq'
    have := Lra.item_le hq2
    exact Lra.fits_of (List.all_eq_true.1 hs.may _ hq2) (by omega) (by omega))
  have hlq : qs.length = sn := by rw [← hsn, ← hq]; simp
  rw [hq] at hS
  rw [hlq] at he
  refine ⟨a', c', he, hS, ?_, hb, hW.trans (hb.mono hW.size)⟩
  have := own_room hm.row
  omega
/-- Bytes that are none, read. -/
theorem bad14 (a : Option Addr) (n c : Nat) (bs : List Int) (ss : List Lra.Stp) (rest : List Int) (tn : Nat) (hn : bs.length = n) (hl : n ≤ c) (hc : c ≤ 9223372036854775807) (hz : n ≤ 1000000) (hs : Bin.Says bs ss rest) (hr : rest ≠ []) (htn : (Bin.text ss).length = tn) (w W : World) (hW : Below w.heap.size w W) (h : Bts W a bs) :
    Calls Try.prog 14 #[.slice a n c] W fun e w' => e = .returned (.tuple #[.slice none 0 0, .int .i64 50, .int .i64 (tn : Int)]) ∧ Below W.heap.size W w' ∧ Below w.heap.size w w' := by
  refine (parse14 a n c bs W hn h hl hc hz).mono fun e w' q => ?_
  obtain ⟨he, hb⟩ := q.bad hs hr
  rw [htn] at he
  exact ⟨he, hb, hW.trans (hb.mono hW.size)⟩
/-- Any bytes, read. -/
theorem any14 (a : Option Addr) (n c : Nat) (bs : List Int) (hn : bs.length = n) (hl : n ≤ c) (hc : c ≤ 9223372036854775807) (hz : n ≤ 1000000) (w W : World) (hW : Below w.heap.size w W) (h : Bts W a bs) :
    Calls Try.prog 14 #[.slice a n c] W fun e w' => ∃ x y z, e = .returned (.tuple #[x, .int .i64 y, .int .i64 z]) ∧ Below W.heap.size W w' ∧ Below w.heap.size w w' := by
  refine (parse14 a n c bs W hn h hl hc hz).mono fun e w' q => ?_
  rcases q with ⟨ss, rest, _, _, he, hb⟩ | ⟨qs, v, _, he, _, hb⟩
  · exact ⟨_, _, _, he, hb, hW.trans (hb.mono hW.size)⟩
  · exact ⟨_, _, _, he, hb, hW.trans (hb.mono hW.size)⟩
theorem str_app (xs ys : List Int) : strOfNums xs ++ strOfNums ys = strOfNums (xs ++ ys) := by
  apply ByteArray.ext
  rw [ByteArray.data_append]
  simp [strOfNums]
end Go.Proofs.Ytmgeoeajnpnadaa
