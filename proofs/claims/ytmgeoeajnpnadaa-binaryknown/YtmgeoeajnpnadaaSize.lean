/- How many steps, literals and hints: the statements' and the document's own counting. -/
import Derived.Test.YtmgeoeajnpnadaaSteps
namespace Go.Proofs.Ytmgeoeajnpnadaa
open Go.RowKit
set_option linter.unusedVariables false

theorem below_drewN (B : Nat) (w : World) (q : Nat) : Below B w (w.drewN q) := ⟨rfl, rfl, rfl, Nat.le_refl _, fun _ _ => rfl⟩
def SizeOut (top : Nat) (ss : List Lra.Stp) (e : Ending) : Prop := ∃ z : Nat, e = .returned (.int .i64 z) ∧ (z ≤ top → ss.length + Lra.items ss ≤ top)

set_option maxRecDepth 100000 in
set_option maxHeartbeats 4000000 in
theorem size8 (a : Option Addr) (n c : Nat) (ss : List Lra.Stp) (w : World) (hn : ss.length = n) (hb : n ≤ 35184372088832) (hs : Steps w a ss) :
    Calls Try.prog 8 #[.slice a n c, .int .i64 6000] w fun e w' => SizeOut 6000 ss e ∧ Below w.heap.size w w' := by
  have HS := hid hs
  have HN := hid hn
  have sh := hs.shape
  rw [hn] at sh
  clear hs hn
  rcases sh with Z | ⟨b, off, rfl⟩
  all_goals
    go_enter Try.func8, Try.ntmps8
    go_wp2
    go_loopw [5, 6] (fun mv iv wr => ∃ k m : Nat, mv = .int .i64 m ∧ iv = .int .i64 k ∧ k ≤ n ∧ m ≤ 18001 ∧ Hid (m ≤ 6000 → m = k + Lra.items (ss.take k)) ∧ Hid (Below w.heap.size w wr)) (fun _ iv _ => n - (intOf iv).toNat)
    case atStart => exact ⟨0, 0, rfl, rfl, by omega, by omega, hid (fun _ => by simp [Lra.items]), hid (Below.refl _ _)⟩
    case round =>
      obtain ⟨k, m, rfl, rfl, hk, hm, HM, HB⟩ := hrel
      by_cases hlt : k < n
      · have hlt' : (k : Int) < n := by omega
        by_cases hm6 : m ≤ 6000
        · have hm6' : (m : Int) ≤ 6000 := by omega
          first
          | (exfalso; have := Z.out; omega)
          | (have hks : k < ss.length := by rw [HN.out]; exact hlt
             obtain ⟨a1, c1, a2, c2, hst⟩ := (HS.out.below HB.out).at (j := k) hks
             have HT := hid (Lra.items_take ss k hks)
             obtain ⟨x0, x1, x2, x3, hv⟩ := hst
             obtain ⟨_, _, _, _, hn12⟩ := hv
             generalize ss[k] = s at x0 x1 x2 x3 HT hn12
             generalize s.lits.length = n1 at x2 HT hn12
             generalize s.hints.length = n2 at x3 HT hn12
             obtain ⟨hn1, hn2⟩ := hn12
             have hM := hid (HM.out hm6)
             go_wp2
             go_quiet (fail)
             go_wp2
             go_roundw
             case rel => exact ⟨k + 1, m + 1 + min n1 6000 + min n2 6000, by go_num, by go_num, by omega, by omega, hid (fun h => by rw [HT.out]; have := hM.out; omega), hid (HB.out.trans (below_drewN _ _ _))⟩
             case measure => simp [intOf]; omega)
        · have hm6' : ¬ (m : Int) ≤ 6000 := by omega
          go_wp2
          go_ret
          exact ⟨⟨m, rfl, fun h => absurd h hm6⟩, HB.out⟩
      · have hlt' : ¬ (k : Int) < n := by omega
        have HF := hid (show m ≤ 6000 → ss.length + Lra.items ss ≤ 6000 from fun h => by
          have := HM.out h
          rw [List.take_of_length_le (by rw [HN.out]; omega)] at this
          have := HN.out
          omega)
        go_wp2
        go_ret
        exact ⟨⟨m, rfl, HF.out⟩, HB.out⟩

set_option maxRecDepth 100000 in
set_option maxHeartbeats 4000000 in
theorem large20 (a : Option Addr) (n c : Nat) (ss : List Lra.Stp) (w : World) (hn : ss.length = n) (hb : n ≤ 35184372088832) (hs : Steps w a ss) :
    Calls Try.prog 20 #[.slice a n c] w fun e w' => e = .returned (.bool (decide (4194304 < n ∨ 16777216 < Lra.items ss))) ∧ Below w.heap.size w w' := by
  have HS := hid hs
  have HN := hid hn
  have sh := hs.shape
  rw [hn] at sh
  obtain ⟨r, hr⟩ : ∃ r, decide (4194304 < n ∨ 16777216 < Lra.items ss) = r := ⟨_, rfl⟩
  have HR := hid hr
  rw [hr]
  clear hs hn hr
  rcases sh with Z | ⟨b, off, rfl⟩
  all_goals
    go_enter Try.func20, Try.ntmps20
    go_wp2
    go_loopw [3, 4] (fun mv iv wr => ∃ k m : Nat, mv = .int .i64 m ∧ iv = .int .i64 k ∧ k ≤ n ∧ (m : Int) ≤ 50331650 ∧ Hid ((m ≤ 16777216 → m = Lra.items (ss.take k)) ∧ (16777216 < m → 16777216 < Lra.items ss)) ∧ Hid (Below w.heap.size w wr)) (fun _ iv _ => n - (intOf iv).toNat)
    case atStart => exact ⟨0, 0, rfl, rfl, by omega, by omega, hid ⟨(fun _ => by simp [Lra.items]), (fun h => by omega)⟩, hid (Below.refl _ _)⟩
    case round =>
      obtain ⟨k, m, rfl, rfl, hk, hm, HM, HB⟩ := hrel
      by_cases hlt : k < n
      · have hlt' : (k : Int) < n := by omega
        by_cases hm6 : (m : Int) ≤ 16777216
        · first
          | (exfalso; have := Z.out; omega)
          | (have hks : k < ss.length := by rw [HN.out]; exact hlt
             obtain ⟨a1, c1, a2, c2, hst⟩ := (HS.out.below HB.out).at (j := k) hks
             have HT := hid (Lra.items_take ss k hks)
             have HE := hid (Lra.items_le ss (k + 1))
             obtain ⟨x0, x1, x2, x3, hv⟩ := hst
             obtain ⟨_, _, _, _, hn12⟩ := hv
             generalize ss[k] = s at x0 x1 x2 x3 HT hn12
             generalize s.lits.length = n1 at x2 HT hn12
             generalize s.hints.length = n2 at x3 HT hn12
             obtain ⟨hn1, hn2⟩ := hn12
             have hM := hid (HM.out.1 (by omega))
             go_wp2
             go_quiet (fail)
             go_wp2
             go_roundw
             case rel => exact ⟨k + 1, m + min n1 16777217 + min n2 16777217, by go_num, by go_num, by omega, by omega, hid ⟨(fun h => by rw [HT.out]; have := hM.out; omega), (fun h => by have h1 := HE.out; rw [HT.out] at h1; have := hM.out; omega)⟩, hid (HB.out.trans (below_drewN _ _ _))⟩
             case measure => simp [intOf]; omega)
        · have HX := hid (HM.out.2 (by omega))
          have HF := hid (show r = true by rw [← HR.out]; exact decide_eq_true (.inr HX.out))
          by_cases hbig : (4194304 : Int) < n
          all_goals
            go_wp2
            go_ret
            exact ⟨by rw [HF.out]; rfl, HB.out⟩
      · have hlt' : ¬ (k : Int) < n := by omega
        have HE := hid (show m ≤ 16777216 → m = Lra.items ss from fun h => by
          have := HM.out.1 h
          rwa [List.take_of_length_le (by rw [HN.out]; omega)] at this)
        have hr : r = (decide ((4194304 : Int) < n) || decide ((16777216 : Int) < m)) := by
          rw [← HR.out]
          by_cases h1 : 4194304 < n
          · rw [decide_eq_true (.inl h1), decide_eq_true (by omega)]; rfl
          · rw [decide_eq_false (show ¬ (4194304 : Int) < n by omega), Bool.false_or, decide_eq_decide]
            constructor
            · rintro (h | h)
              · exact absurd h h1
              · rcases Nat.lt_or_ge 16777216 m with h2 | h2
                · omega
                · have := HE.out h2; omega
            · intro h
              exact .inr (HM.out.2 (by omega))
        have HR2 := hid hr
        clear hr
        by_cases hbig : (4194304 : Int) < n
        · go_wp2
          go_ret
          exact ⟨by rw [HR2.out, decide_eq_true hbig]; rfl, HB.out⟩
        · go_wp2
          go_ret
          exact ⟨by rw [HR2.out, decide_eq_false (show ¬ (4194304 : Int) < n by omega)]; rfl, HB.out⟩
end Go.Proofs.Ytmgeoeajnpnadaa
