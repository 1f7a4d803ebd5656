/- Steps are written as the document says, as a call. -/
import Derived.Test.YtmgeoeajnpnadaaWorks
import Derived.Test.YtmgeoeajnpnadaaLent
import Derived.Test.YtmgeoeajnpnadaaSize
namespace Bin
/-- The bytes that Write tells, and its error. -/
def out (ss : List Lra.Stp) : List Int := if ss.all Lra.may then text ss else []
def err (ss : List Lra.Stp) : Int := if ss.all Lra.may then 0 else 50
theorem out_byt (ss : List Lra.Stp) : Byt (out ss) := by
  unfold out
  split
  · exact text_byt ss
  · intro x hx; cases hx
end Bin
namespace Go.Proofs.Ytmgeoeajnpnadaa
open Go.RowKit
set_option linter.unusedVariables false
set_option linter.unusedSimpArgs false

theorem WOut.bts {w w' : World} {ss : List Lra.Stp} {e : Ending} {q : Nat} {er : Int} (h : WOut w ss e w') (hq : (Bin.out ss).length = q) (he : Bin.err ss = er) : ∃ o c, e = .returned (.tuple #[.slice o q c, .int .i64 er]) ∧ Bts w' o (Bin.out ss) ∧ q ≤ c ∧ c ≤ 9223372036854775807 ∧ Below w.heap.size w w' := by
  subst hq he
  rcases h with ⟨h1, h2, h3⟩ | ⟨h1, o, c, h2, h3, h4⟩
  · have e1 : Bin.out ss = [] := by unfold Bin.out; rw [h1]; rfl
    have e2 : Bin.err ss = 50 := by unfold Bin.err; rw [h1]; rfl
    rw [e1, e2]
    exact ⟨none, 0, h2, Row.nil _ _ _ _ _, Nat.le_refl _, by decide, h3⟩
  · have e1 : Bin.out ss = Bin.text ss := by unfold Bin.out; rw [h1]; rfl
    have e2 : Bin.err ss = 0 := by unfold Bin.err; rw [h1]; rfl
    rw [e1, e2]
    refine ⟨o, c, h2, own_row h3 (fun x hx => by have := Bin.text_byt ss x hx; omega), ?_, ?_, h4⟩
    · rcases h3.2 with ⟨g1, g2⟩ | ⟨g, cap, cur, g1, g2, g3, g4, g5, g6⟩
      · rw [g2]; exact Nat.zero_le _
      · cases g1; exact g4
    · rcases h3.2 with ⟨g1, g2⟩ | ⟨g, cap, cur, g1, g2, g3, g4, g5, g6⟩
      · simp only [Value.slice.injEq] at g1; rw [g1.2.2]; decide
      · cases g1
        unfold maxLen at g5
        omega
theorem fits_of {W : World} {a : Option Addr} {ss : List Lra.Stp} (hS : Steps W a ss) : ∀ s ∈ ss, Fits s := by
  intro s hm
  obtain ⟨j, hj, rfl⟩ := List.getElem_of_mem hm
  rcases hS with h0 | ⟨b, off, _, hst⟩
  · rw [h0] at hj; cases hj
  · obtain ⟨a1, c1, a2, c2, h⟩ := hst j hj
    exact ⟨h.v.k, h.v.i, h.v.l.1, h.v.h.1, h.v.n⟩
theorem worksB (w : World) (W : World) (hW : Below w.heap.size w W) : Calls Try.prog 9 #[] W fun e w' => e = .returned (.bool true) ∧ Below w.heap.size w w' :=
  (works9 W).mono fun e w' q => ⟨q.1, hW.trans (q.2.mono hW.size)⟩

set_option maxRecDepth 100000 in
set_option maxHeartbeats 8000000 in
theorem law3 (a : Option Addr) (n c : Nat) (ss : List Lra.Stp) (w : World) (hn : ss.length = n) (hb : n ≤ 2199023255552) (hs : Steps w a ss) :
    Calls Try.prog 3 #[.slice a n c] w fun e w' => e = .returned (.bool true) ∧ Below w.heap.size w w' := by
  have C8 := hid (size8 a n c ss w hn (by omega) hs)
  have CW := hid (worksB w)
  have C10 := hid (fun (W : World) (hW : Below w.heap.size w W) (h6 : ss.length + Lra.items ss ≤ 6000) => (lent10 a n c ss W hn (by omega) (by omega) (hs.below hW)).mono (R' := fun e w' => ∃ a' c', e = .returned (.slice a' n c') ∧ Steps w' a' ss ∧ Below w.heap.size w w') fun e w' q => by
    obtain ⟨qs, v, he, hq, hm, hb'⟩ := q
    obtain ⟨a', c', rfl, hS⟩ := hm.steps (fun q hq' => fits_of hs q.1 (by rw [← hq]; exact List.mem_map_of_mem hq'))
    have hl : qs.length = n := by rw [← hn, ← hq]; simp
    rw [hl] at he
    rw [hq] at hS
    exact ⟨a', c', he, hS, hW.trans (hb'.mono hW.size)⟩)
  obtain ⟨q, hq⟩ : ∃ q, (Bin.out ss).length = q := ⟨_, rfl⟩
  obtain ⟨er, her⟩ : ∃ er, Bin.err ss = er := ⟨_, rfl⟩
  obtain ⟨TS, hTS⟩ : ∃ TS, strOfNums (Bin.out ss) = TS := ⟨_, rfl⟩
  have C11 := hid (fun (W : World) (hW : Below w.heap.size w W) (a' : Option Addr) (c' : Nat) (hS : Steps W a' ss) (h6 : ss.length + Lra.items ss ≤ 6000) => (write11 a' n c' ss W hn (by omega) (by omega) hS).mono (R' := fun e w' => ∃ o c, e = .returned (.tuple #[.slice o q c, .int .i64 er]) ∧ Bts w' o (Bin.out ss) ∧ Below W.heap.size W w' ∧ Below w.heap.size w w') fun e w' r => by
    obtain ⟨o, c, he, hbt, _, _, hb'⟩ := r.bts hq her
    exact ⟨o, c, he, hbt, hb', hW.trans (hb'.mono hW.size)⟩)
  have C12 := hid (fun (W : World) (hW : Below w.heap.size w W) (h6 : ss.length + Lra.items ss ≤ 6000) => (write12 a n c ss W hn (by omega) (by omega) (hs.below hW)).mono (R' := fun e w' => ∃ o c, e = .returned (.tuple #[.slice o q c, .int .i64 er]) ∧ Bts w' o (Bin.out ss) ∧ Below W.heap.size W w' ∧ Below w.heap.size w w') fun e w' r => by
    obtain ⟨o, c, he, hbt, _, _, hb'⟩ := r.bts hq her
    exact ⟨o, c, he, hbt, hb', hW.trans (hb'.mono hW.size)⟩)
  have C13 := hid (fun (W : World) (hW : Below w.heap.size w W) (a' : Option Addr) (c' : Nat) (hS : Steps W a' ss) => (same13 a' a n c' n c ss ss W hn hn (by omega) (by omega) hS (hs.below hW)).mono (R' := fun e w' => e = .returned (.bool true) ∧ Below w.heap.size w w') fun e w' q => ⟨by rw [q.1]; simp, hW.trans (q.2.mono hW.size)⟩)
  have CV := hid (fun (W : World) (o : Option Addr) (c : Nat) (h : Bts W o (Bin.out ss)) => (show (convert 26 9 (.slice o q c)).run Try.prog W = .ok (.string TS) W by rw [← hTS]; exact to_str W o q c _ h hq))
  have heq : (TS.toList == TS.toList) = true := by simp
  clear hs hn hb hTS her hq
  go_enter Try.func3, Try.ntmps3
  go_wp2_with (first
    | (go_at_call 8; refine C8.out.mono ?_; clear C8; rintro e W1 ⟨⟨z, rfl, hz⟩, hb1⟩; have HB1 := hid hb1; have HZ := hid hz; clear hz hb1; rcases Nat.lt_or_ge 6000 z with h6 | h6 <;> first | have h6' : (6000 : Int) < z := by omega | have h6' : ¬ (6000 : Int) < z := by omega)
    | (go_at_call 10; refine (C10.out _ HB1.out (HZ.out (by omega))).mono ?_; clear C10; rintro e W2 ⟨a2, c2, rfl, hs2, hb2⟩; have HB2 := hid hb2; have HS2 := hid hs2; clear hb2 hs2)
    | (go_at_call 11; refine (C11.out _ HB2.out _ _ HS2.out (HZ.out (by omega))).mono ?_; clear C11; rintro e W3 ⟨o3, c3, rfl, hbt, hx3, hb3⟩; have HB3 := hid hb3; have HS3 := hid (HS2.out.below hx3); have HT3 := hid hbt; clear hb3 hx3 hbt)
    | (go_at_call 12; refine (C12.out _ HB3.out (HZ.out (by omega))).mono ?_; clear C12; rintro e W4 ⟨o4, c4, rfl, hbt, hx4, hb4⟩; have HB4 := hid hb4; have HS4 := hid (HS3.out.below hx4)
       have cv1 := CV.out W4 o3 c3 (HT3.out.below hx4)
       have cv2 := CV.out W4 o4 c4 hbt
       clear hb4 hx4 hbt CV)
    | (go_at_call 13; refine (C13.out _ HB4.out _ _ HS4.out).mono ?_; clear C13; rintro e W5 ⟨rfl, hb5⟩; have HB5 := hid hb5; clear hb5)
    | (go_at_call 9; refine (CW.out _ (by first | exact HB5.out | exact HB1.out)).mono ?_; rintro e W9 ⟨rfl, hb9⟩; have HB9 := hid hb9; clear hb9))
  all_goals
    go_ret
    exact ⟨rfl, HB9.out⟩
end Go.Proofs.Ytmgeoeajnpnadaa
