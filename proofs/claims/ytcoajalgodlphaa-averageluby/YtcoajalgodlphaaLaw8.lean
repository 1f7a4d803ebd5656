/- The law of moves: taking a number in moves the value towards it. -/
import Derived.Test.YtcoajalgodlphaaWrk
namespace Go.Proofs.Ytcoajalgodlphaa
open Go.RowKit Go.Maps Av
set_option linter.unusedVariables false
set_option linter.unusedSimpArgs false
set_option maxRecDepth 100000

theorem bfin {W w : World} {b : Nat} (h : W.heap.size = b) (k : Below b W w) : Below W.heap.size W w := by rw [h]; exact k
theorem long8 {s x : Int} {W : World} {a : Option Addr} {n c : Nat} (h : 1000 < n) :
    Calls Try.prog 8 #[.int .i64 s, .slice a n c, .int .i64 x] W fun e w' => e = .returned (.bool true) ∧ Below W.heap.size W w' := by
  have C := hid (works9 W)
  have hI : (1000 : Int) < n := by omega
  go_enter Try.func8, Try.ntmps8
  go_wp2_with (go_at_call 9; refine C.out.mono ?_; rintro e w7 ⟨rfl, b7⟩)
  go_ret
  exact ⟨rfl, b7⟩
theorem nil8 {s x : Int} {W : World} {a : Option Addr} {n c : Nat} (h : n ≤ 1000) (hs : s < 0 ∨ 30 < s) :
    Calls Try.prog 8 #[.int .i64 s, .slice a n c, .int .i64 x] W fun e w' => e = .returned (.bool true) ∧ Below W.heap.size W w' := by
  have C := hid (works9 W)
  have C16 := hid (filled16_no s W a n c hs h)
  have hI : ¬ (1000 : Int) < n := by omega
  clear hs
  go_enter Try.func8, Try.ntmps8
  go_wp2_with (first
    | (go_at_call 16; refine C16.out.mono ?_; rintro e w7 ⟨rfl, hw7⟩; rw [hw7]; clear hw7)
    | (go_at_call 9; refine C.out.mono ?_; rintro e w7 ⟨rfl, b7⟩))
  go_ret
  exact ⟨rfl, b7⟩
set_option maxHeartbeats 4000000 in
theorem law8_ok {s : Nat} {x : Int} {W : World} {a : Option Addr} {l : List Int} {c : Nat} (h : l.length ≤ 1000) (hs : s ≤ 30) (hI : Iw W a l) :
    Calls Try.prog 8 #[.int .i64 (s : Int), .slice a l.length c, .int .i64 x] W fun e w' => e = .returned (.bool true) ∧ Below W.heap.size W w' := by
  have C16 := hid (filled16_ok (c := c) hs h hI)
  generalize l.length = n at *
  generalize (s : Int) = sI at *
  have hnI : ¬ (1000 : Int) < n := by omega
  clear h hI
  go_enter Try.func8, Try.ntmps8
  go_wp2_with (fail)
  go_at_call 16
  refine C16.out.mono ?_
  rintro e w1 ⟨v, k, rfl, F⟩
  obtain ⟨b, hb⟩ : ∃ b, W.heap.size = b := ⟨_, rfl⟩
  rw [hb] at F ⊢
  have HB := hid hb
  have C14 := hid (value14 F.am)
  have C15 := hid (count15 F.am)
  have HF := hid F
  clear C16 F hb hnI
  by_cases hx : x < 0 ∨ 1073741824 < x
  · have C12 := hid (add12_no (b := b) w1 hx)
    have C9 := hid (works9 w1)
    clear hx
    go_wp2_with (first
      | (go_at_call 14; refine C14.out.mono ?_; rintro e w7 ⟨rfl, hw7⟩; rw [hw7]; clear hw7)
      | (go_at_call 15; refine C15.out.mono ?_; rintro e w7 ⟨rfl, hw7⟩; rw [hw7]; clear hw7)
      | (go_at_call 12; refine C12.out.mono ?_; rintro e w7 ⟨rfl, hw7⟩; rw [hw7]; clear hw7)
      | (go_at_call 9; refine C9.out.mono ?_; rintro e w8 ⟨rfl, b8⟩))
    go_ret
    exact ⟨rfl, bfin HB.out (HF.out.bel.trans (b8.mono (by have := HF.out.bel.size; have := HB.out; omega)))⟩
  · have C12 := hid (add12_ok HF.out.am HF.out.ok (x := x) (by omega) (by omega))
    have hm := avV_mid s (k + 1) v x
    have hsm := avV_same s (k + 1) x
    have hO := HF.out.ok
    have hbd := avV_bd (s := s) (k := k + 1) hO.v0 hO.v62 (show 0 ≤ x by omega) (show x ≤ 1073741824 by omega)
    obtain ⟨T, hT⟩ : ∃ T, x * 4294967296 = T := ⟨_, rfl⟩
    have hTw : wrap64 T = T := by unfold wrap64; omega
    have heq : v = T → avV s (k + 1) v x = T := fun e => by rw [e, ← hT]; exact hsm
    rw [hT] at hm
    generalize hu : avV s (k + 1) v x = u at *
    have HK := hid hO.k62
    clear hx hsm hbd hO hu
    go_wp2_with (first
      | (go_at_call 14; refine C14.out.mono ?_; rintro e w7 ⟨rfl, hw7⟩; rw [hw7]; clear hw7)
      | (go_at_call 15; refine C15.out.mono ?_; rintro e w7 ⟨rfl, hw7⟩; rw [hw7]; clear hw7))
    go_at_call 12
    refine C12.out.mono ?_
    rintro e w2 ⟨rfl, a2, f2⟩
    have D14 := hid (value14 a2)
    have D15 := hid (count15 a2)
    have C9 := hid (works9 w2)
    have HB2 := hid (HF.out.bel.trans (f2.bel (N := b) (by have := HF.out.bel.size; have := HB.out; omega) HF.out.new))
    obtain ⟨kI, hkI⟩ : ∃ kI : Int, (k : Int) = kI := ⟨_, rfl⟩
    have hk0 : 0 ≤ kI := by omega
    have hk1 : kI ≤ 1048576 := by have := HK.out; omega
    have hkk : ((k + 1 : Nat) : Int) = kI + 1 := by omega
    rw [hkk] at D15
    rw [hkI]
    clear C14 C15 C12 a2 f2 hkI hkk
    by_cases hle : v ≤ T
    · obtain ⟨h1, h2⟩ := hm.1 hle
      clear hm
      by_cases he : v = T
      · have h3 := heq he
        clear heq
        have he' : (v != T) = false := by simp [he]
        have h3' : (u == T) = true := by simp [h3]
        clear he h3
        go_wp2_with (first
          | (go_at_call 14; refine D14.out.mono ?_; rintro e w7 ⟨rfl, hw7⟩; rw [hw7]; clear hw7)
          | (go_at_call 15; refine D15.out.mono ?_; rintro e w7 ⟨rfl, hw7⟩; rw [hw7]; clear hw7)
          | (go_at_call 9; refine C9.out.mono ?_; rintro e w8 ⟨rfl, b8⟩))
        go_ret
        exact ⟨rfl, bfin HB.out (HB2.out.trans (b8.mono (by have := HB2.out.size; have := HB.out; omega)))⟩
      · have he' : (v != T) = true := by simp [he]
        clear heq he
        go_wp2_with (first
          | (go_at_call 14; refine D14.out.mono ?_; rintro e w7 ⟨rfl, hw7⟩; rw [hw7]; clear hw7)
          | (go_at_call 15; refine D15.out.mono ?_; rintro e w7 ⟨rfl, hw7⟩; rw [hw7]; clear hw7)
          | (go_at_call 9; refine C9.out.mono ?_; rintro e w8 ⟨rfl, b8⟩))
        go_ret
        exact ⟨rfl, bfin HB.out (HB2.out.trans (b8.mono (by have := HB2.out.size; have := HB.out; omega)))⟩
    · have hge : T ≤ v := by omega
      obtain ⟨h1, h2⟩ := hm.2 hge
      have he' : (v != T) = true := by simp; omega
      clear hm heq
      go_wp2_with (first
        | (go_at_call 14; refine D14.out.mono ?_; rintro e w7 ⟨rfl, hw7⟩; rw [hw7]; clear hw7)
        | (go_at_call 15; refine D15.out.mono ?_; rintro e w7 ⟨rfl, hw7⟩; rw [hw7]; clear hw7)
        | (go_at_call 9; refine C9.out.mono ?_; rintro e w8 ⟨rfl, b8⟩))
      go_ret
      exact ⟨rfl, bfin HB.out (HB2.out.trans (b8.mono (by have := HB2.out.size; have := HB.out; omega)))⟩
theorem law8 {s x : Int} {W : World} {a : Option Addr} {l : List Int} {c : Nat} (hI : Iw W a l) :
    Calls Try.prog 8 #[.int .i64 s, .slice a l.length c, .int .i64 x] W fun e w' => e = .returned (.bool true) ∧ Below W.heap.size W w' := by
  by_cases h : l.length ≤ 1000
  · by_cases hs : s < 0 ∨ 30 < s
    · exact nil8 h hs
    · obtain ⟨n, rfl⟩ : ∃ n : Nat, s = n := ⟨s.toNat, by omega⟩
      exact law8_ok h (by omega) hI
  · exact long8 (by omega)
end Go.Proofs.Ytcoajalgodlphaa
