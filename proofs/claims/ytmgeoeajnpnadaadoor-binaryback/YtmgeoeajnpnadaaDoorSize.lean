/- How many steps, literals and hints: the statements' and the document's own counting. -/
import Derived.Test.YtmgeoeajnpnadaaDoorSteps
namespace Go.Proofs.YtmgeoeajnpnadaaDoor
open Go.RowKit
set_option linter.unusedVariables false

theorem below_drewN (B : Nat) (w : World) (q : Nat) : Below B w (w.drewN q) := ⟨rfl, rfl, rfl, Nat.le_refl _, fun _ _ => rfl⟩
def SizeOut (top : Nat) (ss : List Lra.Stp) (e : Ending) : Prop := ∃ z : Nat, e = .returned (.int .i64 z) ∧ (z ≤ top → ss.length + Lra.items ss ≤ top)

set_option maxRecDepth 100000 in
set_option maxHeartbeats 4000000 in
theorem size8 (a : Option Addr) (n c : Nat) (ss : List Lra.Stp) (w : World) (hn : ss.length = n) (hb : n ≤ 35184372088832) (hs : Steps w a ss) :
    Calls Tryd.prog 4 #[.slice a n c, .int .i64 6000] w fun e w' => SizeOut 6000 ss e ∧ Below w.heap.size w w' := by
  have HS := hid hs
  have HN := hid hn
  have sh := hs.shape
  rw [hn] at sh
  clear hs hn
  rcases sh with Z | ⟨b, off, rfl⟩
  all_goals
    go_enter Tryd.func4, Tryd.ntmps4
    go_wp2
    go_loopw [5, 6] (fun mv iv wr => ∃ k m : Nat, mv = .int .i64 m ∧ iv = .int .i64 k ∧ k ≤ n ∧ m ≤ 18001 ∧ Hid (m ≤ 6000 → m = k + Lra.items (ss.take k)) ∧ Hid (Below w.heap.size w wr)) (fun _ iv _ => n - (intOf iv).toNat)
    case atStart => exact ⟨0, 0, rfl, rfl, by omega, by omega, hid (fun _ => by simp [Lra.items]), hid (Below.refl _ _)⟩
    case round =>
      obtain ⟨k, m, rfl, rfl, hk, hm, HM, HB⟩ := hrel
      by_cases hlt : k < n
      · have hlt' : (k : Int) < n := by omega
        by_cases hm6 : m ≤ 6000
        · have hm6' : (m : Int) ≤ 6000 := by omega
          first
          | (exfalso; have := Z.out; omega)
          | (have hks : k < ss.length := by rw [HN.out]; exact hlt
             obtain ⟨a1, c1, a2, c2, hst⟩ := (HS.out.below HB.out).at (j := k) hks
             have HT := hid (Lra.items_take ss k hks)
             obtain ⟨x0, x1, x2, x3, hv⟩ := hst
             obtain ⟨_, _, _, _, hn12⟩ := hv
             generalize ss[k] = s at x0 x1 x2 x3 HT hn12
             generalize s.lits.length = n1 at x2 HT hn12
             generalize s.hints.length = n2 at x3 HT hn12
             obtain ⟨hn1, hn2⟩ := hn12
             have hM := hid (HM.out hm6)
             go_wp2
             go_quiet (fail)
             go_wp2
             go_roundw
             case rel => exact ⟨k + 1, m + 1 + min n1 6000 + min n2 6000, by go_num, by go_num, by omega, by omega, hid (fun h => by rw [HT.out]; have := hM.out; omega), hid (HB.out.trans (below_drewN _ _ _))⟩
             case measure => simp [intOf]; omega)
        · have hm6' : ¬ (m : Int) ≤ 6000 := by omega
          go_wp2
          go_ret
          exact ⟨⟨m, rfl, fun h => absurd h hm6⟩, HB.out⟩
      · have hlt' : ¬ (k : Int) < n := by omega
        have HF := hid (show m ≤ 6000 → ss.length + Lra.items ss ≤ 6000 from fun h => by
          have := HM.out h
          rw [List.take_of_length_le (by rw [HN.out]; omega)] at this
          have := HN.out
          omega)
        go_wp2
        go_ret
        exact ⟨⟨m, rfl, HF.out⟩, HB.out⟩

end Go.Proofs.YtmgeoeajnpnadaaDoor
