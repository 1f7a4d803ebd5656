/- The law of above. -/
import Derived.Test.YtcoajalgodlphaaAbv
import Derived.Test.YtcoajalgodlphaaLaw8
namespace Go.Proofs.Ytcoajalgodlphaa
open Go.RowKit Go.Maps Av
set_option linter.unusedVariables false
set_option linter.unusedSimpArgs false
set_option maxRecDepth 100000

theorem abv_nat {x y m : Nat} (h : m ≤ 10000) : decide (y * m < x * 100) = abvB (x : Int) (y : Int) (m : Int) := by
  unfold abvB
  refine decide_eq_decide.2 ⟨fun hh => ⟨by omega, by omega, ?_⟩, fun hh => ?_⟩
  · rw [← Int.natCast_mul, show ((x : Int) * 100) = ((x * 100 : Nat) : Int) by omega]; omega
  · have := hh.2.2
    rw [← Int.natCast_mul, show ((x : Int) * 100) = ((x * 100 : Nat) : Int) by omega] at this
    omega
theorem above17 {b b2 s s2 k k2 : Nat} {v v2 m : Int} {W : World} (H : Am 57 b s v k W) (H2 : Am 57 b2 s2 v2 k2 W) (O : Ok s v k) (O2 : Ok s2 v2 k2) :
    Calls Try.prog 17 #[.pointer (some ⟨b, 0, none⟩), .pointer (some ⟨b2, 0, none⟩), .int .i64 m] W fun e w' => e = .returned (.bool (abvB v v2 m)) ∧ Below W.heap.size W w' := by
  by_cases h : m < 0 ∨ 10000 < m
  · rw [abvB_off h]
    refine (above17_off W ⟨_, rfl⟩ ⟨_, rfl⟩ h).mono ?_
    rintro e w' ⟨rfl, rfl⟩
    exact ⟨rfl, Below.refl _ _⟩
  · obtain ⟨x, rfl⟩ : ∃ x : Nat, v = x := ⟨v.toNat, by have := O.v0; omega⟩
    obtain ⟨y, rfl⟩ : ∃ y : Nat, v2 = y := ⟨v2.toNat, by have := O2.v0; omega⟩
    obtain ⟨z, rfl⟩ : ∃ z : Nat, m = z := ⟨m.toNat, by omega⟩
    rw [← abv_nat (by omega)]
    exact above17_on H H2 (by have := O.v62; omega) (by have := O2.v62; omega) (by omega)
theorem above18 {v v2 m : Int} (W : World) (h1 : 0 ≤ v) (h2 : v ≤ 4611686018427387904) (h3 : 0 ≤ v2) (h4 : v2 ≤ 4611686018427387904) :
    Calls Try.prog 18 #[.int .i64 v, .int .i64 v2, .int .i64 m] W fun e w' => e = .returned (.bool (abvB v v2 m)) ∧ w' = W := by
  by_cases h : m < 0 ∨ 10000 < m
  · rw [abvB_off h]
    exact above18_off W h
  · obtain ⟨x, rfl⟩ : ∃ x : Nat, v = x := ⟨v.toNat, by omega⟩
    obtain ⟨y, rfl⟩ : ∃ y : Nat, v2 = y := ⟨v2.toNat, by omega⟩
    obtain ⟨z, rfl⟩ : ∃ z : Nat, m = z := ⟨m.toNat, by omega⟩
    rw [← abv_nat (by omega)]
    exact above18_on W (by omega) (by omega) (by omega)
theorem abv_self {v m : Int} (h : 0 ≤ v) : abvB v v m = decide (0 ≤ m ∧ m < 100 ∧ 0 < v) := by
  unfold abvB
  refine decide_eq_decide.2 ⟨?_, ?_⟩
  · rintro ⟨a, b, c⟩
    refine ⟨a, ?_, ?_⟩
    · rcases Int.lt_or_le m 100 with h' | h'
      · exact h'
      · have := Int.mul_le_mul_of_nonneg_left h' h
        omega
    · rcases Int.lt_or_le 0 v with h' | h'
      · exact h'
      · obtain rfl : v = 0 := by omega
        simp at c
  · rintro ⟨a, b, c⟩
    exact ⟨a, by omega, Int.mul_lt_mul_of_pos_left b c⟩
/-- A filled average, or none. -/
structure FA (W : World) (b s : Nat) (v : Int) (k : Nat) (w' : World) : Prop where
  am : Am 57 b s v k w'
  ok : Ok s v k
def FillA (W : World) (e : Ending) (w' : World) : Prop := ∃ p : Option Addr, e = .returned (.pointer p) ∧ Below W.heap.size W w' ∧ (p = none ∨ ∃ b s v k, p = some ⟨b, 0, none⟩ ∧ FA W b s v k w')
theorem filled16 {s : Int} {W : World} {a : Option Addr} {l : List Int} {c : Nat} (hl : l.length ≤ 1000) (hI : Iw W a l) :
    Calls Try.prog 16 #[.int .i64 s, .slice a l.length c] W fun e w' => FillA W e w' := by
  by_cases hs : s < 0 ∨ 30 < s
  · refine (filled16_no s W a _ c hs hl).mono ?_
    rintro e w' ⟨rfl, rfl⟩
    exact ⟨none, rfl, Below.refl _ _, .inl rfl⟩
  · obtain ⟨n, rfl⟩ : ∃ n : Nat, s = n := ⟨s.toNat, by omega⟩
    refine (filled16_ok (by omega) hl hI).mono ?_
    rintro e w' ⟨v, k, rfl, F⟩
    exact ⟨_, rfl, F.bel, .inr ⟨_, _, _, _, rfl, F.am, F.ok⟩⟩
theorem long4 {s t m : Int} {W : World} {a a2 : Option Addr} {n n2 c c2 : Nat} (h : 1000 < n ∨ 1000 < n2) :
    Calls Try.prog 4 #[.int .i64 s, .int .i64 t, .slice a n c, .slice a2 n2 c2, .int .i64 m] W fun e w' => e = .returned (.bool true) ∧ Below W.heap.size W w' := by
  have C := hid (works9 W)
  by_cases h1 : 1000 < n
  · have hI : (1000 : Int) < n := by omega
    clear h
    go_enter Try.func4, Try.ntmps4
    go_wp2_with (go_at_call 9; refine C.out.mono ?_; rintro e w7 ⟨rfl, b7⟩)
    go_ret
    exact ⟨rfl, b7⟩
  · have h2 : 1000 < n2 := by omega
    have hI : ¬ (1000 : Int) < n := by omega
    have hI2 : (1000 : Int) < n2 := by omega
    clear h
    go_enter Try.func4, Try.ntmps4
    go_wp2_with (go_at_call 9; refine C.out.mono ?_; rintro e w7 ⟨rfl, b7⟩)
    go_ret
    exact ⟨rfl, b7⟩
set_option maxHeartbeats 8000000 in
theorem law4_few {s t m : Int} {W : World} {a a2 : Option Addr} {l l2 : List Int} {c c2 : Nat} (h : l.length ≤ 1000) (h2 : l2.length ≤ 1000) (hI : Iw W a l) (hI2 : Iw W a2 l2) :
    Calls Try.prog 4 #[.int .i64 s, .int .i64 t, .slice a l.length c, .slice a2 l2.length c2, .int .i64 m] W fun e w' => e = .returned (.bool true) ∧ Below W.heap.size W w' := by
  have C16 := hid (filled16 (s := s) (c := c) h hI)
  have D16 := hid (fun (w : World) (hb : Below W.heap.size W w) => filled16 (s := t) (c := c2) h2 (hI2.all hb))
  generalize l.length = n at *
  generalize l2.length = n2 at *
  have g1 : ¬ (1000 : Int) < n := by omega
  have g2 : ¬ (1000 : Int) < n2 := by omega
  clear h h2 hI hI2
  go_enter Try.func4, Try.ntmps4
  go_wp2_with (fail)
  go_at_call 16
  refine C16.out.mono ?_
  rintro e w1 ⟨p1, rfl, b1, f1⟩
  have E16 := hid (D16.out w1 b1)
  have HB1 := hid b1
  have HF1 := hid f1
  clear C16 D16 f1 b1 g1 g2
  go_wp2_with (fail)
  go_at_call 16
  refine E16.out.mono ?_
  rintro e w2 ⟨p2, rfl, b2, f2⟩
  have HB2 := hid (show Below W.heap.size W w2 from HB1.out.trans (b2.mono HB1.out.size))
  have HF1' := HF1.out
  have C9 := hid (works9 w2)
  rcases HF1' with rfl | ⟨x1, s1, v1, k1, rfl, F1⟩
  · have C17 := hid (above17_nil (m := m) (a := none) (b := p2) w2 (.inl rfl))
    clear E16 HF1 f2 b2
    go_wp2_with (first
      | (go_at_call 17; refine C17.out.mono ?_; rintro e w7 ⟨rfl, hw7⟩; rw [hw7]; clear hw7)
      | (go_at_call 9; refine C9.out.mono ?_; rintro e w8 ⟨rfl, b8⟩))
    go_ret
    exact ⟨rfl, HB2.out.trans (b8.mono HB2.out.size)⟩
  · rcases f2 with rfl | ⟨x2, s2, v2, k2, rfl, F2⟩
    · have C17 := hid (above17_nil (m := m) (a := some ⟨x1, 0, none⟩) (b := none) w2 (.inr rfl))
      clear E16 HF1 b2 F1
      go_wp2_with (first
        | (go_at_call 17; refine C17.out.mono ?_; rintro e w7 ⟨rfl, hw7⟩; rw [hw7]; clear hw7)
        | (go_at_call 9; refine C9.out.mono ?_; rintro e w8 ⟨rfl, b8⟩))
      go_ret
      exact ⟨rfl, HB2.out.trans (b8.mono HB2.out.size)⟩
    · have G1 := hid (show Am 57 x1 s1 v1 k1 w2 from F1.am.below b2)
      have C17 := hid (above17 (m := m) G1.out F2.am F1.ok F2.ok)
      have HO1 := hid F1.ok
      have HF2 := hid F2
      clear E16 HF1 b2 F1 F2 C9
      go_wp2_with (fail)
      go_at_call 17
      refine C17.out.mono ?_
      rintro e w3 ⟨rfl, b3⟩
      have G3 := hid (G1.out.below b3)
      have K3 := hid (HF2.out.am.below b3)
      have C14 := hid (value14 G3.out)
      have C14b := hid (value14 K3.out)
      have C18 := hid (above18 (m := m) w3 HO1.out.v0 HO1.out.v62 HF2.out.ok.v0 HF2.out.ok.v62)
      have C17b := hid (above17 (m := m) G3.out G3.out HO1.out HO1.out)
      have hself := abv_self (m := m) HO1.out.v0
      have HB3 := hid (show Below W.heap.size W w3 from HB2.out.trans (b3.mono HB2.out.size))
      have hv1 := HO1.out.v0
      generalize abvB v1 v2 m = r at *
      obtain ⟨q, hq⟩ : ∃ q, abvB v1 v1 m = q := ⟨_, rfl⟩
      rw [hq] at C17b hself
      clear b3 C17 HF2 HB2 hq
      have hs4 : (m < 0 ∧ q = false) ∨ (0 ≤ m ∧ 100 ≤ m ∧ q = false) ∨ (0 ≤ m ∧ m < 100 ∧ v1 ≤ 0 ∧ q = false) ∨ (0 ≤ m ∧ m < 100 ∧ 0 < v1 ∧ q = true) := by
        rw [hself]
        by_cases c1 : m < 0
        · exact .inl ⟨c1, by simp; omega⟩
        · by_cases c2 : 100 ≤ m
          · exact .inr (.inl ⟨by omega, c2, by simp; omega⟩)
          · by_cases c3 : v1 ≤ 0
            · exact .inr (.inr (.inl ⟨by omega, by omega, c3, by simp; omega⟩))
            · exact .inr (.inr (.inr ⟨by omega, by omega, by omega, by simp; omega⟩))
      clear hself hv1
      go_wp2_with (fail)
      go_at_call 14
      refine C14.out.mono ?_
      rintro e w7 ⟨rfl, hw7⟩
      rw [hw7]
      clear hw7
      go_wp2_with (fail)
      go_at_call 14
      refine C14b.out.mono ?_
      rintro e w8 ⟨rfl, hw8⟩
      rw [hw8]
      clear hw8
      go_wp2_with (go_at_call 18; refine C18.out.mono ?_; rintro e w7 ⟨rfl, hw7⟩; rw [hw7]; clear hw7)
      go_at_call 17
      refine C17b.out.mono ?_
      rintro e w9 ⟨rfl, b9⟩
      have D14 := hid (value14 (G3.out.below b9))
      have C9 := hid (works9 w9)
      have HB9 := hid (show Below W.heap.size W w9 from HB3.out.trans (b9.mono HB3.out.size))
      clear b9 C17b C18 C14 C14b HB3
      rcases hs4 with ⟨c1, rfl⟩ | ⟨c1, c2, rfl⟩ | ⟨c1, c2, c3, rfl⟩ | ⟨c1, c2, c3, rfl⟩
      all_goals
        go_wp2_with (first
          | (go_at_call 14; refine D14.out.mono ?_; rintro e w7 ⟨rfl, hw7⟩; rw [hw7]; clear hw7)
          | (go_at_call 9; refine C9.out.mono ?_; rintro e w8 ⟨rfl, b8⟩))
        go_ret
        exact ⟨by first | rfl | simp [show ¬ 0 < v1 by omega], HB9.out.trans (b8.mono HB9.out.size)⟩
theorem law4 {s t m : Int} {W : World} {a a2 : Option Addr} {l l2 : List Int} {c c2 : Nat} (hI : Iw W a l) (hI2 : Iw W a2 l2) :
    Calls Try.prog 4 #[.int .i64 s, .int .i64 t, .slice a l.length c, .slice a2 l2.length c2, .int .i64 m] W fun e w' => e = .returned (.bool true) ∧ Below W.heap.size W w' := by
  by_cases h : 1000 < l.length ∨ 1000 < l2.length
  · exact long4 h
  · exact law4_few (by omega) (by omega) hI hI2
end Go.Proofs.Ytcoajalgodlphaa
