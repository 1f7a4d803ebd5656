/- Steps and texts, there and back: the stage's theorem as a call. -/
import Derived.Test.YtdodfmgbjfhnpaaDoorWorks
import Derived.Test.YtdodfmgbjfhnpaaDoorText
import Derived.Test.YtdodfmgbjfhnpaaDoorSize
import Derived.Test.YtdodfmgbjfhnpaaDoorSameL
namespace Lra
theorem parseGo_err {ls : List (List Int)} {acc : List Stp} {k : Nat} (h : parseGo acc ls = .error k) : acc.length < k := by
  induction ls generalizing acc with
  | nil => cases h
  | cons l ls ih =>
    rw [parseGo] at h
    cases hs : stepLine l with
    | none => rw [hs] at h; cases h; omega
    | some x =>
      rw [hs] at h
      have := ih h
      simp at this
      omega
theorem lines_few (s : List Int) : (linesL s).length ≤ s.length := by
  induction s with
  | nil => exact Nat.le_refl _
  | cons x xs ih =>
    unfold linesL
    split
    · simp; exact ih
    · split
      · simp
      · next h => rw [h] at ih; simp at ih ⊢; omega
theorem parse_small {s : List Int} {ss : List Stp} (h : parse s = .ok ss) : ss.length ≤ s.length ∧ items ss ≤ s.length := by
  unfold parse at h
  obtain ⟨h1, h2, _⟩ := parseGo_ok h
  have h3 := lines_few s
  rw [flat_sum, linesL_flat] at h2
  simp [items_nil] at h1 h2
  omega
theorem fits_of {s : Stp} (h : may s = true) (hl : s.lits.length ≤ 1000000) (hh : s.hints.length ≤ 1000000) : Go.Proofs.YtdodfmgbjfhnpaaDoor.Fits s := by
  obtain ⟨h1, h2, h3, h4⟩ := may_fits h
  refine ⟨?_, ?_, fun x hx => ?_, fun x hx => ?_, by omega⟩
  · rcases h1 with h1 | h1 <;> rw [h1] <;> decide
  · omega
  · have := h3 x hx; omega
  · have := h4 x hx; omega
theorem item_le {ss : List Stp} {s : Stp} (h : s ∈ ss) : s.lits.length + s.hints.length ≤ items ss := by
  induction ss with
  | nil => cases h
  | cons t ss ih =>
    rw [items_cons]
    rcases List.mem_cons.1 h with rfl | h
    · omega
    · have := ih h; omega
theorem text_len (ss : List Stp) (h : ss.all may = true) : (textB ss).length ≤ 21 * (items ss + 4 * ss.length) := by
  induction ss with
  | nil => simp [textB]
  | cons s ss ih =>
    simp only [List.all_cons, Bool.and_eq_true] at h
    have e : textB (s :: ss) = lineB s ++ textB ss := by simp [textB]
    obtain ⟨h1, h2, h3, h4⟩ := may_fits h.1
    have hl := (Go.Proofs.YtdodfmgbjfhnpaaDoor.lineB_len s (by omega) (fun x hx => by have := h3 x hx; omega) (fun x hx => by have := h4 x hx; omega)).2
    have := ih h.2
    rw [e, List.length_append, items_cons, List.length_cons]
    omega
end Lra
namespace Go.Proofs.YtdodfmgbjfhnpaaDoor
open Go.RowKit
set_option linter.unusedVariables false
set_option linter.unusedSimpArgs false

/-- What Parse tells, where the text is a proof's: steps that can be looked at. -/
theorem POut.steps {w w' : World} {ss : List Lra.Stp} {e : Ending} (h : POut w (.ok ss) e w') (hm : ss.all Lra.may = true) (hi : Lra.items ss ≤ 1000000) :
    ∃ a c, e = .returned (.tuple #[.slice a ss.length c, .int .i64 0, .int .i64 0]) ∧ Steps w' a ss ∧ Below w.heap.size w w' := by
  rcases h with ⟨_, h, _⟩ | ⟨qs, v, h, he, hmem, hb⟩
  · cases h
  · injection h with h
    have hl : qs.length = ss.length := by rw [h]; simp
    obtain ⟨a, c, rfl, hs⟩ := hmem.steps (fun q hq => by
      have hq' : q.1 ∈ ss := by rw [h]; exact List.mem_map_of_mem hq
      have := Lra.item_le hq'
      exact Lra.fits_of (List.all_eq_true.1 hm _ hq') (by omega) (by omega))
    rw [hl] at he
    rw [← h] at hs
    exact ⟨a, c, he, hs, hb⟩
theorem POut.err {w w' : World} {k : Nat} {e : Ending} (h : POut w (.error k) e w') : e = .returned (.tuple #[.slice none 0 0, .int .i64 40, .int .i64 (k : Int)]) ∧ Below w.heap.size w w' := by
  rcases h with ⟨k', h, he, hb⟩ | ⟨qs, v, h, _⟩
  · injection h with h
    subst h
    exact ⟨he, hb⟩
  · cases h

set_option maxRecDepth 100000 in
set_option maxHeartbeats 8000000 in
theorem law5 (a : Option Addr) (n c : Nat) (ss : List Lra.Stp) (S : ByteArray) (w : World) (hn : ss.length = n) (hb : n ≤ 2199023255552) (hs : Steps w a ss) (hT : Tab w.heap.size w) :
    Calls Tryd.prog 5 #[.slice a n c, .string S] w fun e w' => e = .returned (.bool true) ∧ Below w.heap.size w w' := by
  have C9 := hid (size9 a n c ss w hn (by omega) hs)
  have CW := hid (fun (W : World) (hW : Below w.heap.size w W) => (works10 W (hT.on hW hW.size)).mono (R' := fun e w' => e = .returned (.bool true) ∧ Below w.heap.size w w') fun e w' q => ⟨q.1, hW.trans (q.2.mono hW.size)⟩)
  by_cases hS : S.size ≤ 6000
  case neg =>
    have hS' : (6000 : Int) < S.size := by omega
    clear hs hT hn hb hS
    go_enter Tryd.func5, Tryd.ntmps5
    go_wp2_with (first
      | (go_at_call 9; refine C9.out.mono ?_; clear C9; rintro e W1 ⟨⟨z, rfl, hz⟩, hb1⟩; have HB1 := hid hb1; clear hz hb1; rcases Nat.lt_or_ge 6000 z with h6 | h6 <;> first | have h6' : (6000 : Int) < z := by omega | have h6' : ¬ (6000 : Int) < z := by omega)
      | (go_at_call 10; refine (CW.out _ HB1.out).mono ?_; rintro e W2 ⟨rfl, hb2⟩; have HB2 := hid hb2; clear hb2))
    all_goals
      go_ret
      exact ⟨rfl, HB2.out⟩
  case pos =>
    have hS' : ¬ (6000 : Int) < S.size := by omega
    have C12 := hid (fun (W : World) (hW : Below w.heap.size w W) (h6 : ss.length + Lra.items ss ≤ 6000) => (write12 a n c ss W hn (by omega) (by omega) (hs.below hW) (hT.on hW hW.size)).mono (R' := fun e w' => WOut ss e ∧ Below w.heap.size w w') fun e w' q => ⟨q.1, hW.trans (q.2.mono hW.size)⟩)
    have C15 := hid (fun (T : ByteArray) (hT : T.size ≤ 1000000) (W : World) (hW : Below w.heap.size w W) => (parse15 T W hT).mono (R' := fun e w' => POut W (Lra.parse (Lra.ints T)) e w' ∧ Below w.heap.size w w') fun e w' q => ⟨q, by
      rcases q with ⟨_, _, _, hb⟩ | ⟨_, _, _, _, _, hb⟩
      · exact hW.trans (hb.mono hW.size)
      · exact hW.trans (hb.mono hW.size)⟩)
    have HS := hid hs
    have HT := hid hT
    have HN := hid hn
    have hbb : n ≤ 35184372088832 := by omega
    have HBB := hid hbb
    -- the second half: what is read of the text S, and written again
    have TWO : Hid (∀ (W : World), Below w.heap.size w W → (∃ k, Lra.parse (Lra.ints S) = .error k ∧ 0 < k ∧ Calls Tryd.prog 15 #[.string S] W fun e w' => e = .returned (.tuple #[.slice none 0 0, .int .i64 40, .int .i64 (k : Int)]) ∧ Below w.heap.size w w') ∨
        (∃ ts : List Lra.Stp, Lra.parse (Lra.ints S) = .ok ts ∧ (Calls Tryd.prog 15 #[.string S] W fun e w' => ∃ a' c', e = .returned (.tuple #[.slice a' ts.length c', .int .i64 0, .int .i64 0]) ∧ Steps w' a' ts ∧ Below w.heap.size w w') ∧ ∀ (W2 : World) (a' : Option Addr) (c' : Nat), Below w.heap.size w W2 → Steps W2 a' ts → Calls Tryd.prog 12 #[.slice a' ts.length c'] W2 fun e w' => e = .returned (.tuple #[.string S, .int .i64 0]) ∧ Below w.heap.size w w')) := hid (fun W hW => by
      cases hp : Lra.parse (Lra.ints S) with
      | error k =>
        left
        refine ⟨k, rfl, by have := Lra.parseGo_err hp; simpa using this, (C15.out S (by omega) W hW).mono ?_⟩
        rintro e w' ⟨q, hb'⟩
        rw [hp] at q
        exact ⟨q.err.1, hb'⟩
      | ok ts =>
        right
        obtain ⟨h1, h2⟩ := Lra.parse_small hp
        rw [Lra.ints_len] at h1 h2
        obtain ⟨h3, h4⟩ := Lra.text_parse hp
        refine ⟨ts, rfl, (C15.out S (by omega) W hW).mono ?_, fun W2 a' c' hW2 hs2 => (write12 a' ts.length c' ts W2 rfl (by omega) (by omega) hs2 (HT.out.on hW2 hW2.size)).mono ?_⟩
        · rintro e w' ⟨q, hb'⟩
          rw [hp] at q
          obtain ⟨a', c', he, hs', _⟩ := q.steps h4 (by omega)
          exact ⟨a', c', he, hs', hb'⟩
        · rintro e w' ⟨q, hb'⟩
          refine ⟨?_, hW2.trans (hb'.mono hW2.size)⟩
          unfold WOut at q
          rw [h4, if_pos rfl, if_pos rfl] at q
          rw [q]
          congr 3
          have h5 : Lra.I S.data.toList = Lra.I (Lra.textB ts) := h3
          have h6 := Lra.I_inj h5
          rw [← h6])
    clear hs hT hn hb hS hbb
    by_cases hm : ss.all Lra.may = true
    · have hpt : Lra.parse (Lra.ints ⟨(Lra.textB ss).toArray⟩) = .ok ss := Lra.parse_text ss hm
      have hlt := Lra.text_len ss hm
      have hsz : (⟨(Lra.textB ss).toArray⟩ : ByteArray).size = (Lra.textB ss).length := by simp [ByteArray.size]
      have K12 := hid (fun (W : World) (hW : Below w.heap.size w W) (h6 : ss.length + Lra.items ss ≤ 6000) => (C12.out W hW h6).mono (R' := fun e w' => e = .returned (.tuple #[.string ⟨(Lra.textB ss).toArray⟩, .int .i64 0]) ∧ Below w.heap.size w w') fun e w' q => ⟨by
        have := q.1
        unfold WOut at this
        rw [hm, if_pos rfl, if_pos rfl] at this
        exact this, q.2⟩)
      have K15 := hid (fun (W : World) (hW : Below w.heap.size w W) (h6 : ss.length + Lra.items ss ≤ 6000) => (C15.out ⟨(Lra.textB ss).toArray⟩ (by rw [hsz]; omega) W hW).mono (R' := fun e w' => ∃ a' c', e = .returned (.tuple #[.slice a' n c', .int .i64 0, .int .i64 0]) ∧ Steps w' a' ss ∧ Below w.heap.size w w') fun e w' q => by
        have q1 := q.1
        rw [hpt] at q1
        obtain ⟨a', c', he, hs', _⟩ := q1.steps hm (by omega)
        rw [HN.out] at he
        exact ⟨a', c', he, hs', q.2⟩)
      have K14 := hid (fun (W : World) (hW : Below w.heap.size w W) (a' : Option Addr) (c' : Nat) (hs' : Steps W a' ss) => (same14 a a' n c n c' ss ss W HN.out HN.out HBB.out HBB.out (HS.out.below hW) hs').mono (R' := fun e w' => e = .returned (.bool true) ∧ Below w.heap.size w w') fun e w' q => ⟨by rw [q.1]; simp, hW.trans (q.2.mono hW.size)⟩)
      generalize (⟨(Lra.textB ss).toArray⟩ : ByteArray) = TB at *
      clear hpt hlt hsz C12 C15 hm
      go_enter Tryd.func5, Tryd.ntmps5
      go_wp2_with (first
      | (go_at_call 9; refine C9.out.mono ?_; clear C9; rintro e W1 ⟨⟨z, rfl, hz⟩, hb1⟩; have HB1 := hid hb1; have HZ := hid hz; clear hz hb1; rcases Nat.lt_or_ge 6000 z with h6 | h6 <;> first | have h6' : (6000 : Int) < z := by omega | have h6' : ¬ (6000 : Int) < z := by omega)
      | (go_at_call 12; refine (K12.out _ HB1.out (HZ.out (by omega))).mono ?_; rintro e W2 ⟨rfl, hb2⟩; have HB2 := hid hb2; clear hb2 K12)
      | (go_at_call 15; refine (K15.out _ HB2.out (HZ.out (by omega))).mono ?_; rintro e W3 ⟨a3, c3, rfl, hs3, hb3⟩; have HB3 := hid hb3; have HS3 := hid hs3; clear hb3 hs3 K15)
      | (go_at_call 14; refine (K14.out _ HB3.out _ _ HS3.out).mono ?_; rintro e W4 ⟨rfl, hb4⟩; have HB4 := hid hb4; clear hb4 K14)
      | (go_at_call 15; rcases TWO.out _ (by first | exact HB4.out | exact HB2.out) with ⟨k, hp, hk, C⟩ | ⟨ts, hp, C, D⟩ <;> refine C.mono ?_ <;> clear C hp <;> first
         | (rintro e W6 ⟨a', c', rfl, hs6, hb6⟩
            have HB6 := hid hb6
            have HS6 := hid hs6
            have HD := hid D
            generalize ts.length = tn at *
            clear hb6 hs6 D TWO)
         | (rintro e W6 ⟨rfl, hb6⟩
            have HB6 := hid hb6
            have hk' : (0 : Int) < k := by omega
            clear hb6 TWO))
      | (go_at_call 12; refine (HD.out _ _ _ HB6.out HS6.out).mono ?_; rintro e W7 ⟨rfl, hb7⟩; have HB7 := hid hb7; clear hb7 HD)
      | (go_at_call 10; refine (CW.out _ (by first | exact HB7.out | exact HB6.out | exact HB1.out)).mono ?_; rintro e W9 ⟨rfl, hb9⟩; have HB9 := hid hb9; clear hb9))
      all_goals
        go_ret
        exact ⟨rfl, HB9.out⟩
    · have K12 := hid (fun (W : World) (hW : Below w.heap.size w W) (h6 : ss.length + Lra.items ss ≤ 6000) => (C12.out W hW h6).mono (R' := fun e w' => e = .returned (.tuple #[.string ⟨#[]⟩, .int .i64 40]) ∧ Below w.heap.size w w') fun e w' q => ⟨by
        have := q.1
        unfold WOut at this
        rw [if_neg hm, if_neg hm] at this
        exact this, q.2⟩)
      clear C12 C15 hm
      go_enter Tryd.func5, Tryd.ntmps5
      go_wp2_with (first
      | (go_at_call 9; refine C9.out.mono ?_; clear C9; rintro e W1 ⟨⟨z, rfl, hz⟩, hb1⟩; have HB1 := hid hb1; have HZ := hid hz; clear hz hb1; rcases Nat.lt_or_ge 6000 z with h6 | h6 <;> first | have h6' : (6000 : Int) < z := by omega | have h6' : ¬ (6000 : Int) < z := by omega)
      | (go_at_call 12; refine (K12.out _ HB1.out (HZ.out (by omega))).mono ?_; rintro e W2 ⟨rfl, hb2⟩; have HB2 := hid hb2; clear hb2 K12)
      | (go_at_call 15; rcases TWO.out _ (by first | exact HB4.out | exact HB2.out) with ⟨k, hp, hk, C⟩ | ⟨ts, hp, C, D⟩ <;> refine C.mono ?_ <;> clear C hp <;> first
         | (rintro e W6 ⟨a', c', rfl, hs6, hb6⟩
            have HB6 := hid hb6
            have HS6 := hid hs6
            have HD := hid D
            generalize ts.length = tn at *
            clear hb6 hs6 D TWO)
         | (rintro e W6 ⟨rfl, hb6⟩
            have HB6 := hid hb6
            have hk' : (0 : Int) < k := by omega
            clear hb6 TWO))
      | (go_at_call 12; refine (HD.out _ _ _ HB6.out HS6.out).mono ?_; rintro e W7 ⟨rfl, hb7⟩; have HB7 := hid hb7; clear hb7 HD)
      | (go_at_call 10; refine (CW.out _ (by first | exact HB7.out | exact HB6.out | exact HB1.out)).mono ?_; rintro e W9 ⟨rfl, hb9⟩; have HB9 := hid hb9; clear hb9))
      all_goals
        go_ret
        exact ⟨rfl, HB9.out⟩
end Go.Proofs.YtdodfmgbjfhnpaaDoor
