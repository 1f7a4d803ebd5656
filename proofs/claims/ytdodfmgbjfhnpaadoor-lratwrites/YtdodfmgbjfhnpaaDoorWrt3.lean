/- Steps are written as the document says, as a call. -/
import Derived.Test.YtdodfmgbjfhnpaaDoorBack
import Derived.Test.YtdodfmgbjfhnpaaDoorLent
import Derived.Test.YtdodfmgbjfhnpaaDoorRefW
namespace Go.Proofs.YtdodfmgbjfhnpaaDoor
open Go.RowKit
set_option linter.unusedVariables false
set_option linter.unusedSimpArgs false

set_option maxRecDepth 100000 in
set_option maxHeartbeats 8000000 in
theorem law3 (a : Option Addr) (n c : Nat) (ss : List Lra.Stp) (w : World) (hn : ss.length = n) (hb : n ≤ 2199023255552) (hs : Steps w a ss) (hT : Tab w.heap.size w) :
    Calls Tryd.prog 3 #[.slice a n c] w fun e w' => e = .returned (.bool true) ∧ Below w.heap.size w w' := by
  have C9 := hid (size9 a n c ss w hn (by omega) hs)
  have CW := hid (fun (W : World) (hW : Below w.heap.size w W) => (works10 W (hT.on hW hW.size)).mono (R' := fun e w' => e = .returned (.bool true) ∧ Below w.heap.size w w') fun e w' q => ⟨q.1, hW.trans (q.2.mono hW.size)⟩)
  have hfit : ∀ {W : World}, Steps W a ss → ∀ s ∈ ss, Fits s := by
    intro W hS s hm
    obtain ⟨j, hj, rfl⟩ := List.getElem_of_mem hm
    rcases hS with h0 | ⟨b, off, _, hst⟩
    · rw [h0] at hj; cases hj
    · obtain ⟨a1, c1, a2, c2, h⟩ := hst j hj
      exact ⟨h.v.k, h.v.i, h.v.l.1, h.v.h.1, h.v.n⟩
  have C11 := hid (fun (W : World) (hW : Below w.heap.size w W) (h6 : ss.length + Lra.items ss ≤ 6000) => (lent11 a n c ss W hn (by omega) (by omega) (hs.below hW)).mono (R' := fun e w' => ∃ a' c', e = .returned (.slice a' n c') ∧ Steps w' a' ss ∧ Below w.heap.size w w') fun e w' q => by
    obtain ⟨qs, v, he, hq, hm, hb'⟩ := q
    obtain ⟨a', c', rfl, hS⟩ := hm.steps (fun q hq' => hfit hs q.1 (by rw [← hq]; exact List.mem_map_of_mem hq'))
    have hl : qs.length = n := by rw [← hn, ← hq]; simp
    rw [hl] at he
    rw [hq] at hS
    exact ⟨a', c', he, hS, hW.trans (hb'.mono hW.size)⟩)
  obtain ⟨TS, hTS⟩ : ∃ TS : ByteArray, (⟨(if ss.all Lra.may then Lra.textB ss else []).toArray⟩ : ByteArray) = TS := ⟨_, rfl⟩
  obtain ⟨er, her⟩ : ∃ er : Int, (if ss.all Lra.may then (0 : Int) else 40) = er := ⟨_, rfl⟩
  have hout : ∀ e, WOut ss e → e = .returned (.tuple #[.string TS, .int .i64 er]) := by
    intro e h
    unfold WOut at h
    rw [h, hTS, her]
  have C12 := hid (fun (W : World) (hW : Below w.heap.size w W) (a' : Option Addr) (c' : Nat) (hS : Steps W a' ss) (h6 : ss.length + Lra.items ss ≤ 6000) => (write12 a' n c' ss W hn (by omega) (by omega) hS (hT.on hW hW.size)).mono (R' := fun e w' => e = .returned (.tuple #[.string TS, .int .i64 er]) ∧ Below W.heap.size W w' ∧ Below w.heap.size w w') fun e w' q => ⟨hout e q.1, q.2, hW.trans (q.2.mono hW.size)⟩)
  have C13 := hid (fun (W : World) (hW : Below w.heap.size w W) (h6 : ss.length + Lra.items ss ≤ 6000) => (write13 a n c ss W hn (by omega) (by omega) (hs.below hW)).mono (R' := fun e w' => e = .returned (.tuple #[.string TS, .int .i64 er]) ∧ Below W.heap.size W w' ∧ Below w.heap.size w w') fun e w' q => ⟨hout e q.1, q.2, hW.trans (q.2.mono hW.size)⟩)
  have C14 := hid (fun (W : World) (hW : Below w.heap.size w W) (a' : Option Addr) (c' : Nat) (hS : Steps W a' ss) => (same14 a' a n c' n c ss ss W hn hn (by omega) (by omega) hS (hs.below hW)).mono (R' := fun e w' => e = .returned (.bool true) ∧ Below w.heap.size w w') fun e w' q => ⟨by rw [q.1]; simp, hW.trans (q.2.mono hW.size)⟩)
  have heq : (TS.toList == TS.toList) = true := by simp
  clear hs hT hn hb hfit hout hTS her
  go_enter Tryd.func3, Tryd.ntmps3
  go_wp2_with (first
    | (go_at_call 9; refine C9.out.mono ?_; clear C9; rintro e W1 ⟨⟨z, rfl, hz⟩, hb1⟩; have HB1 := hid hb1; have HZ := hid hz; clear hz hb1; rcases Nat.lt_or_ge 6000 z with h6 | h6 <;> first | have h6' : (6000 : Int) < z := by omega | have h6' : ¬ (6000 : Int) < z := by omega)
    | (go_at_call 11; refine (C11.out _ HB1.out (HZ.out (by omega))).mono ?_; clear C11; rintro e W2 ⟨a2, c2, rfl, hs2, hb2⟩; have HB2 := hid hb2; have HS2 := hid hs2; clear hb2 hs2)
    | (go_at_call 12; refine (C12.out _ HB2.out _ _ HS2.out (HZ.out (by omega))).mono ?_; clear C12; rintro e W3 ⟨rfl, hx3, hb3⟩; have HB3 := hid hb3; have HS3 := hid (HS2.out.below hx3); clear hb3 hx3)
    | (go_at_call 13; refine (C13.out _ HB3.out (HZ.out (by omega))).mono ?_; clear C13; rintro e W4 ⟨rfl, hx4, hb4⟩; have HB4 := hid hb4; have HS4 := hid (HS3.out.below hx4); clear hb4 hx4)
    | (go_at_call 14; refine (C14.out _ HB4.out _ _ HS4.out).mono ?_; clear C14; rintro e W5 ⟨rfl, hb5⟩; have HB5 := hid hb5; clear hb5)
    | (go_at_call 10; refine (CW.out _ (by first | exact HB5.out | exact HB1.out)).mono ?_; rintro e W9 ⟨rfl, hb9⟩; have HB9 := hid hb9; clear hb9))
  all_goals
    go_ret
    exact ⟨rfl, HB9.out⟩
end Go.Proofs.YtdodfmgbjfhnpaaDoor
