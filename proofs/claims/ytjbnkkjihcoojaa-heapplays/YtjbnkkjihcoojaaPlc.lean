/- place: a number's place in a row. -/
import Derived.Test.YtjbnkkjihcoojaaSam
namespace Hpp
/-- Where a number stands first; the length, where it does not. -/
def plc : List Nat → Int → Nat
  | [], _ => 0
  | a :: L, v => if (a : Int) + 1 = v then 0 else plc L v + 1
theorem plc_at {L : List Nat} {v : Int} : ∀ {k : Nat}, k < L.length → ((L.getD k 0 : Nat) : Int) + 1 = v → (∀ j, j < k → ((L.getD j 0 : Nat) : Int) + 1 ≠ v) → plc L v = k := by
  induction L with
  | nil => intro k hk; simp at hk
  | cons a L ih =>
    intro k hk e hn
    cases k with
    | zero => simp at e; simp [plc, e]
    | succ k =>
      have h0 := hn 0 (by omega)
      simp at h0
      have := ih (k := k) (by simpa using hk) (by simpa using e) (fun j hj => by simpa using hn (j + 1) (by omega))
      simp [plc, h0, this]
theorem plc_no {L : List Nat} {v : Int} (h : ∀ j, j < L.length → ((L.getD j 0 : Nat) : Int) + 1 ≠ v) : plc L v = L.length := by
  induction L with
  | nil => rfl
  | cons a L ih =>
    have h0 := h 0 (by simp)
    simp at h0
    have := ih (fun j hj => by simpa using h (j + 1) (by simpa using hj))
    simp [plc, h0, this]
end Hpp
namespace Go.Proofs.Ytjbnkkjihcoojaa
open Go.RowKit Go.Maps
set_option linter.unusedVariables false
set_option maxRecDepth 100000

set_option maxHeartbeats 1000000 in
theorem place25 {W : World} {o : Option Addr} {n c : Nat} {L : List Nat} (h : W.ownsRow 0 3 1 (.slice o n c) n (ivs L)) (hn : n ≤ 1048576) (v : Int) :
    Calls Try.prog 25 #[.slice o n c, .int .i64 v] W fun e w' => e = .returned (.int .i64 (Hpp.plc L v : Nat)) ∧ w' = W := by
  have hl := ivs_len h
  have HL := hid hl
  rcases Nat.eq_zero_or_pos n with h0 | h0
  · subst h0
    have HE := hid (show Hpp.plc L v = 0 by rw [List.eq_nil_of_length_eq_zero hl]; rfl)
    rw [HE.out]
    clear h hl
    go_enter Try.func25, Try.ntmps25
    go_wp2
    go_loopw [5] (fun i wr => i = .int .i64 0 ∧ wr = W) (fun _ _ => 0)
    case atStart => exact ⟨rfl, rfl⟩
    case round =>
      obtain ⟨rfl, hw⟩ := hrel
      rw [hw]
      clear hw
      go_wp2
      go_ret
      exact ⟨rfl, rfl⟩
  · obtain ⟨g1, d1, e1, q1⟩ := own_at h h0
    cases e1
    have HQ := hid q1
    clear h hl q1
    go_enter Try.func25, Try.ntmps25
    go_wp2
    go_loopw [5] (fun i wr => ∃ k : Nat, k ≤ n ∧ i = .int .i64 (k : Nat) ∧ Hid (∀ j, j < k → ((L.getD j 0 : Nat) : Int) + 1 ≠ v) ∧ Hid (wr = W)) (fun i _ => n - (intOf i).toNat)
    case atStart => exact ⟨0, Nat.zero_le _, rfl, hid (fun j hj => by omega), hid rfl⟩
    case round =>
      obtain ⟨k, hk, rfl, HN, HW⟩ := hrel
      rw [HW.out]
      clear HW
      by_cases hlt : k < n
      · have hlt' : (k : Int) < n := by omega
        have x1 := HQ.out k hlt
        by_cases hv : ((L.getD k 0 : Nat) : Int) + 1 = v
        · have HE := hid (Hpp.plc_at (by rw [HL.out]; exact hlt) hv HN.out)
          have hb : ((((L.getD k 0 : Nat) : Int) + 1) == v) = true := by simpa using hv
          generalize ((L.getD k 0 : Nat) : Int) + 1 = z at x1 hb
          clear hv
          go_wp2
          go_ret
          exact ⟨by rw [HE.out]; rfl, rfl⟩
        · have HN2 := hid (show ∀ j, j < k + 1 → ((L.getD j 0 : Nat) : Int) + 1 ≠ v from fun j hj => by
            by_cases e : j = k
            · rw [e]; exact hv
            · exact HN.out j (by omega))
          have hb : ((((L.getD k 0 : Nat) : Int) + 1) == v) = false := by simpa using hv
          generalize ((L.getD k 0 : Nat) : Int) + 1 = z at x1 hb
          clear hv
          go_wp2
          go_roundw
          case rel => exact ⟨k + 1, by omega, by go_num, HN2, hid (by trivial)⟩
          case measure => simp only [intOf]; omega
      · have hge : ¬ (k : Int) < n := by omega
        have HE := hid (Hpp.plc_no (L := L) (v := v) (fun j hj => HN.out j (by have := HL.out; omega)))
        have HE2 := hid (show Hpp.plc L v = n by rw [HE.out]; exact HL.out)
        go_wp2
        go_ret
        exact ⟨by rw [HE2.out]; rfl, rfl⟩
end Go.Proofs.Ytjbnkkjihcoojaa
