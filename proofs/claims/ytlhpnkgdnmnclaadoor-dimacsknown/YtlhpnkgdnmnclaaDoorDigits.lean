/- How great a formula is; Print at a wrong one; a number's digits by the document's own function. -/
import Derived.Test.YtlhpnkgdnmnclaaDoorWorks
import Derived.Test.YtlhpnkgdnmnclaaDoorRightR
namespace Go.Proofs.YtlhpnkgdnmnclaaDoor
open Go.RowKit
set_option linter.unusedVariables false

set_option maxHeartbeats 2000000 in
theorem size13 (vars : Int) (a : Option Addr) (n cap : Nat) (cs : List (List Int)) (w : World) (hn : cs.length = n) (hN : n ≤ 8796093022208) (hc : Cls w a cs) :
    Calls Tryd.prog 13 #[.agg #[.int .i64 vars, .slice a n cap], .int .i64 3000] w fun e w' => ∃ s : Int, e = .returned (.int .i64 s) ∧ (s ≤ 3000 → (cs.length + cs.flatten.length : Int) ≤ 3000) ∧ Below w.heap.size w w' := by
  have HC := hid (hc.below (below_box w (.cells #[.int .i64 vars, .slice a n cap] 25)))
  have HN := hid hn
  clear hc hn
  go_enter Tryd.func13, Tryd.ntmps13
  go_wp2
  go_loop [5, 6] (fun s i => ∃ (k : Nat) (q : Nat), k ≤ n ∧ i = .int .i64 k ∧ s = .int .i64 q ∧ q = n + ((cs.take k).flatten).length ∧ (k = 0 ∨ q ≤ 35184372092000)) (fun _ i => n - (intOf i).toNat)
  case atStart => exact ⟨0, n, Nat.zero_le _, rfl, rfl, by simp, .inl rfl⟩
  case round =>
    obtain ⟨k, q, hk, rfl, rfl, hq, hq2⟩ := hrel
    have HQ := hid hq
    clear hq
    have hqn : q ≤ 8831277395200 + 35184372088832 := by
      have h := HQ.out
      rcases hq2 with h0 | h0
      · subst h0; simp at h; omega
      · omega
    by_cases hlt : k < n
    · by_cases hs : (q : Int) ≤ 3000
      · obtain ⟨b, off, a', cap', rfl, hbl, hcell, _, hln⟩ := HC.out.at (k := k) (by rw [HN.out]; exact hlt)
        have HF := hid (Cnf.flat_len cs k (by rw [HN.out]; exact hlt))
        generalize (cs.getD k []).length = m at hcell hln HF
        go_wp2
        go_round
        case rel => exact ⟨k + 1, q + m, by omega, by go_num, by go_num, by have := HQ.out; have := HF.out; omega, .inr (by omega)⟩
        case measure => simp [intOf]; omega
      · have hs' : ¬ (q : Int) ≤ 3000 := hs
        go_wp2
        go_ret
        exact ⟨_, rfl, fun h => absurd h (by omega), below_box _ _⟩
    · go_wp2
      go_ret
      refine ⟨_, rfl, fun h => ?_, below_box _ _⟩
      have e : cs.take k = cs := List.take_of_length_le (by rw [HN.out]; omega)
      have h2 := HQ.out
      have h3 := HN.out
      have h4 : cs.flatten.length = (cs.map List.length).sum := List.length_flatten
      rw [e] at h2
      omega

theorem bs_append (x y : List UInt8) : (⟨x.toArray⟩ : ByteArray) ++ (⟨y.toArray⟩ : ByteArray) = ⟨(x ++ y).toArray⟩ := by
  apply ByteArray.ext
  rw [ByteArray.data_append]
  simp

theorem one_string (w : World) (x : Nat) (hx : x < 256) : (convert 22 9 (.slice (some ⟨w.heap.size, 0, none⟩) 1 1)).run Tryd.prog (w.alloc (.cells #[.int .u8 x] 5)) = .ok (.string ⟨#[UInt8.ofNat x]⟩) (w.alloc (.cells #[.int .u8 x] 5)) := by
  have hk := World.alloc_heap_new w (.cells #[.int .u8 x] 5)
  have hb : Lib.BytesIn (w.alloc (.cells #[.int .u8 x] 5)) (some ⟨w.heap.size, 0, none⟩) 1 [(x : Int)] := fun _ => ⟨w.heap.size, 0, rfl, fun i hi => by
    obtain rfl : i = 0 := by omega
    rw [Nat.zero_add, row_cell hk 0]
    rfl⟩
  rw [hb.convert rfl 1 22 5 9 Tryd.underlying22 Tryd.underlying5 Tryd.underlying9]
  have : strOfNums [(x : Int)] = ⟨#[UInt8.ofNat x]⟩ := by
    simp [strOfNums]
  rw [this]

def dstr (i : Int) : ByteArray := ⟨(Lib.itoa i).toArray⟩
theorem dstr_len (i : Int) (h0 : -9223372036854775808 ≤ i) (h1 : i ≤ 9223372036854775807) : (dstr i).size ≤ 21 := by
  have := Lib.itoa_length_le i h0 h1
  show (Lib.itoa i).toArray.size ≤ 21
  simpa using this
theorem dstr_neg (u : Nat) (h : 0 < u) : dstr (-(u : Int)) = ⟨#[45]⟩ ++ dstr u := by
  unfold dstr
  have e1 : Lib.itoa (-(u : Int)) = [45] ++ Lib.itoa (u : Int) := by
    unfold Lib.itoa; rw [if_pos (by omega), if_neg (by omega)]; simp
  rw [e1, ← bs_append]
theorem dstr_small (u : Nat) (h : u < 10) : dstr u = ⟨#[UInt8.ofNat (48 + u % 10)]⟩ := by
  unfold dstr Lib.itoa
  rw [if_neg (by omega), Int.toNat_natCast, Lib.decDigits_one h, Nat.mod_eq_of_lt h]
theorem dstr_step (u : Nat) (h : ¬ u < 10) : dstr u = dstr (u / 10 : Nat) ++ ⟨#[UInt8.ofNat (48 + u % 10)]⟩ := by
  unfold dstr Lib.itoa
  rw [if_neg (by omega), if_neg (by omega), Int.toNat_natCast, Int.toNat_natCast]
  conv => lhs; rw [Lib.decDigits, dif_neg h]
  rw [← bs_append]

set_option maxRecDepth 100000 in
set_option maxHeartbeats 2000000 in
theorem digits33_nat (u : Nat) : ∀ w : World, u < 9223372036854775808 → Calls Tryd.prog 33 #[.int .i64 u] w fun e w' => e = .returned (.string (dstr u)) ∧ Below w.heap.size w w' := by
  induction u using Nat.strongRecOn with
  | ind u ih =>
    intro w hu
    have h0 : ¬ (u : Int) < 0 := by omega
    have cv := one_string w (48 + u % 10) (by omega)
    rw [show ((48 + u % 10 : Nat) : Int) = 48 + (u : Int) % 10 by omega] at cv
    obtain ⟨D, hD⟩ : ∃ D : ByteArray, ⟨#[UInt8.ofNat (48 + u % 10)]⟩ = D := ⟨_, rfl⟩
    have hDs : D.size = 1 := by rw [← hD]; rfl
    rw [hD] at cv
    by_cases h : u < 10
    · have h1 : ¬ (9 : Int) < u := by omega
      have HE := hid ((dstr_small u h).trans hD)
      clear hu ih hD
      go_enter Tryd.func33, Tryd.ntmps33
      go_wp2
      go_ret
      exact ⟨by rw [HE.out]; rfl, below_box _ _⟩
    · have h1 : (9 : Int) < u := by omega
      have C := fun W => hid (ih (u / 10) (by omega) W (by omega))
      have hE := dstr_step u h
      have hXs := dstr_len (u / 10 : Nat) (by omega) (by omega)
      rw [hD] at hE
      generalize dstr (u / 10 : Nat) = X at C hE hXs
      have HE := hid hE
      rw [show ((u / 10 : Nat) : Int) = wrap64 ((u : Int) / 10) by unfold wrap64; omega] at C
      clear hu ih hD hE
      go_enter Tryd.func33, Tryd.ntmps33
      go_wp2_with (go_at_call 33; refine (C _).out.mono ?_; rintro e W2 ⟨rfl, hb⟩; replace hb := hid hb)
      go_ret
      exact ⟨by rw [HE.out]; rfl, (below_box _ _).trans (hb.out.mono (by simp))⟩

set_option maxRecDepth 100000 in
set_option maxHeartbeats 2000000 in
/-- A number's digits, by the document's own function. -/
theorem digits33 (i : Int) (h0 : -9223372036854775808 < i) (h1 : i ≤ 9223372036854775807) (w : World) : Calls Tryd.prog 33 #[.int .i64 i] w fun e w' => e = .returned (.string (dstr i)) ∧ Below w.heap.size w w' := by
  by_cases hi : i < 0
  · obtain ⟨u, rfl⟩ : ∃ u : Nat, i = -(u : Int) := ⟨i.natAbs, by omega⟩
    have C := fun W => hid (digits33_nat u W (by omega))
    have hE := dstr_neg u (by omega)
    have hXs := dstr_len u (by omega) (by omega)
    generalize dstr (u : Int) = X at C hE hXs
    have HE := hid hE
    have hu : 0 < u := by omega
    have hu2 : (u : Int) ≤ 9223372036854775807 := by omega
    clear hE hi h0 h1
    go_enter Tryd.func33, Tryd.ntmps33
    go_wp2_with (go_at_call 33; refine (C _).out.mono ?_; rintro e W2 ⟨rfl, hb⟩; replace hb := hid hb)
    go_ret
    exact ⟨by rw [HE.out]; rfl, hb.out⟩
  · obtain ⟨u, rfl⟩ : ∃ u : Nat, i = (u : Int) := ⟨i.toNat, by omega⟩
    exact digits33_nat u w (by omega)
end Go.Proofs.YtlhpnkgdnmnclaaDoor
