/- Two clauses held against each other, literal by literal. -/
import Derived.Test.YtlhpnkgdnmnclaaDoorCnf
namespace Go.Proofs.YtlhpnkgdnmnclaaDoor
open Go.RowKit
set_option linter.unusedVariables false

def Drawn (w w' : World) : Prop := ∃ q, w' = w.drewN q
theorem Drawn.refl (w : World) : Drawn w w := ⟨0, rfl⟩
theorem Drawn.drewN {w w' : World} (h : Drawn w w') (n : Nat) : Drawn w (w'.drewN n) := by obtain ⟨q, rfl⟩ := h; exact ⟨q + n, by rw [World.drewN_drewN]⟩
theorem Drawn.trans {w w' w'' : World} (h : Drawn w w') (k : Drawn w' w'') : Drawn w w'' := by obtain ⟨q, rfl⟩ := k; exact h.drewN q
theorem Drawn.cell {w w' : World} (h : Drawn w w') (a : Addr) : w'.cell? a = w.cell? a := by obtain ⟨q, rfl⟩ := h; rfl
theorem Drawn.below {B : Nat} {a w w' : World} (h : Drawn w w') (hb : Below B a w) : Below B a w' := by obtain ⟨q, rfl⟩ := h; exact ⟨hb.os, hb.tape, hb.output, hb.size, hb.block⟩
theorem Drawn.owns {w w' : World} (h : Drawn w w') {base : Nat} {e : TypeId} {size : Nat} {v : Value} {n : Nat} {xs : List Value} (ho : w.ownsRow base e size v n xs) : w'.ownsRow base e size v n xs := by obtain ⟨q, rfl⟩ := h; exact ho

theorem Drawn.lits {w w' : World} (h : Drawn w w') {a : Option Addr} {xs : List Int} (hx : Lits w a xs) : Lits w' a xs := hx.below (h.below (Below.refl _ _))
theorem Drawn.below' {w w' : World} (h : Drawn w w') : Below w.heap.size w w' := h.below (Below.refl _ _)

theorem take_eq_succ {xs ys : List Int} {k : Nat} (h1 : k < xs.length) (h2 : k < ys.length) (e : xs.take k = ys.take k) (e2 : xs.getD k 0 = ys.getD k 0) : xs.take (k + 1) = ys.take (k + 1) := by
  rw [Cnf.take_snoc xs k h1, Cnf.take_snoc ys k h2, e, e2]

set_option maxHeartbeats 1000000 in
theorem same30 (a b : Option Addr) (n ca m cb : Nat) (xs ys : List Int) (w : World) (hn : xs.length = n) (hm : ys.length = m) (hN : n ≤ 1099511627776) (hM : m ≤ 1099511627776) (hx : Lits w a xs) (hy : Lits w b ys) :
    Calls Tryd.prog 30 #[.slice a n ca, .slice b m cb] w fun e w' => e = .returned (.bool (decide (xs = ys))) ∧ Drawn w w' := by
  by_cases hnm : n = m
  · subst hnm
    have HX := hid hx
    have HY := hid hy
    have HN := hid hn
    have HM := hid hm
    clear hx hy hn hm hM
    go_enter Tryd.func30, Tryd.ntmps30
    go_wp2
    go_loopw [5] (fun i wr => ∃ k : Nat, k ≤ n ∧ i = .int .i64 k ∧ xs.take k = ys.take k ∧ Drawn w wr) (fun i _ => n - (intOf i).toNat)
    case atStart => exact ⟨0, Nat.zero_le _, rfl, rfl, Drawn.refl _⟩
    case round =>
      obtain ⟨k, hk, rfl, he, HD⟩ := hrel
      have HE := hid he
      clear he
      by_cases hlt : k < n
      · obtain ⟨b1, o1, rfl, hc1, hx1, hx2⟩ := HX.out.at (k := k) (by rw [HN.out]; exact hlt)
        obtain ⟨b2, o2, rfl, hc2, hy1, hy2⟩ := HY.out.at (k := k) (by rw [HM.out]; exact hlt)
        rw [← HD.cell] at hc1 hc2
        have hi1 : (k : Int) < (n : Int) := by omega
        by_cases h : xs.getD k 0 = ys.getD k 0
        · have HT := hid (take_eq_succ (by rw [HN.out]; exact hlt) (by rw [HM.out]; exact hlt) HE.out h)
          generalize xs.getD k 0 = x at hc1 hx1 hx2 h
          generalize ys.getD k 0 = y at hc2 hy1 hy2 h
          have hh : (x != y) = false := by simp [h]
          clear h HE
          go_wp2
          go_quiet (fail)
          go_wp2
          go_roundw
          case rel => exact ⟨k + 1, by omega, by go_num, HT.out, HD.drewN _⟩
          case measure => simp [intOf]; omega
        · have HF : Hid (decide (xs = ys) = false) := by
            show _ = _
            rw [decide_eq_false_iff_not]
            intro e
            exact h (by rw [e])
          generalize xs.getD k 0 = x at hc1 hx1 hx2 h
          generalize ys.getD k 0 = y at hc2 hy1 hy2 h
          have hh : (x != y) = true := by simp [h]
          clear h HE
          go_wp2
          go_quiet (fail)
          go_wp2
          go_ret
          exact ⟨ret_bool HF.out.symm, HD.drewN _⟩
      · go_wp2
        go_ret
        have e : xs = ys := by
          have h := HE.out
          rwa [List.take_of_length_le (by rw [HN.out]; omega), List.take_of_length_le (by rw [HM.out]; omega)] at h
        exact ⟨ret_bool (by simp [e]), HD⟩
  · have hne : decide (xs = ys) = false := by
      rw [decide_eq_false_iff_not]
      intro e
      subst e
      omega
    rw [hne]
    have hh : ((n : Int) != (m : Int)) = true := by simp; omega
    clear hx hy hn hm hne
    go_enter Tryd.func30, Tryd.ntmps30
    go_wp2
    go_ret
    exact ⟨rfl, Drawn.refl _⟩

end Go.Proofs.YtlhpnkgdnmnclaaDoor
