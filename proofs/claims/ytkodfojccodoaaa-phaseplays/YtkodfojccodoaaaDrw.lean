/- Draw; what is drawn is never 0. -/
import Derived.Test.YtkodfojccodoaaaLps
namespace Go.Proofs.Ytkodfojccodoaaa
open Go.RowKit Go.Maps
set_option linter.unusedVariables false
set_option maxRecDepth 100000
def dr1 (s : Int) : Int := bits .xor .u64 s (IntKind.u64.wrap (s * 8192))
def dr2 (s : Int) : Int := bits .xor .u64 s (s / 128)
def dr3 (s : Int) : Int := bits .xor .u64 s (IntKind.u64.wrap (s * 131072))
def drw (s : Int) : Int := dr3 (dr2 (dr1 s))

theorem xor_ne {x y : Int} (hx : 0 ≤ x ∧ x < 18446744073709551616) (hy : 0 ≤ y ∧ y < 18446744073709551616) (h : x ≠ y) : bits .xor .u64 x y ≠ 0 := by
  have e : bits .xor .u64 x y = IntKind.u64.wrap (((BitVec.ofInt 64 x ^^^ BitVec.ofInt 64 y).toNat : Nat) : Int) := rfl
  rw [e]
  have hlt := (BitVec.ofInt 64 x ^^^ BitVec.ofInt 64 y).isLt
  have hw : ∀ m : Nat, m < 2 ^ 64 → IntKind.u64.wrap (m : Int) = m := by
    intro m hm
    simp [IntKind.wrap, IntKind.bits, IntKind.signed]
    omega
  rw [hw _ hlt]
  intro h0
  have h1 : BitVec.ofInt 64 x ^^^ BitVec.ofInt 64 y = 0#64 := by
    apply BitVec.eq_of_toNat_eq
    simp only [BitVec.toNat_ofNat] 
    omega
  rw [BitVec.xor_eq_zero_iff] at h1
  apply h
  have h2 := congrArg BitVec.toNat h1
  simp only [BitVec.toNat_ofInt] at h2
  omega
theorem wrap_u (z : Int) : 0 ≤ IntKind.u64.wrap z ∧ IntKind.u64.wrap z < 18446744073709551616 ∧ ∃ q, z = IntKind.u64.wrap z + 18446744073709551616 * q := by
  have e : IntKind.u64.wrap z = z % 18446744073709551616 := by simp [IntKind.wrap, IntKind.bits, IntKind.signed]
  rw [e]
  exact ⟨by omega, by omega, z / 18446744073709551616, by omega⟩
theorem odd_zero {s q : Int} (c : Nat) (hc : Nat.Coprime 18446744073709551616 c) (hs : 0 ≤ s ∧ s < 18446744073709551616) (h : s * (c : Int) = 18446744073709551616 * q) : s = 0 := by
  obtain ⟨m, rfl⟩ : ∃ m : Nat, s = m := ⟨s.toNat, by omega⟩
  have h1 : (18446744073709551616 : Nat) ∣ m * c := by
    have : ((18446744073709551616 : Nat) : Int) ∣ ((m * c : Nat) : Int) := ⟨q, by rw [show ((18446744073709551616 : Nat) : Int) = 18446744073709551616 from rfl, Int.natCast_mul]; exact h⟩
    exact Int.natCast_dvd_natCast.1 this
  have h2 := hc.dvd_of_dvd_mul_right h1
  have h3 := Nat.eq_zero_of_dvd_of_lt h2 (by omega)
  omega
theorem bits_u (x y : Int) : 0 ≤ bits .xor .u64 x y ∧ bits .xor .u64 x y < 18446744073709551616 := by
  have := wrap_u (((BitVec.ofInt 64 x ^^^ BitVec.ofInt 64 y).toNat : Nat) : Int)
  exact ⟨this.1, this.2.1⟩
theorem dr1_ne {s : Int} (hs : 0 ≤ s ∧ s < 18446744073709551616) (h0 : s ≠ 0) : dr1 s ≠ 0 := by
  obtain ⟨a, b, q, hq⟩ := wrap_u (s * 8192)
  refine xor_ne hs ⟨a, b⟩ (fun e => h0 ?_)
  rw [← e] at hq
  exact odd_zero 8191 (by unfold Nat.Coprime; decide +kernel) hs (q := q) (by rw [show ((8191 : Nat) : Int) = 8191 from rfl]; omega)
theorem dr3_ne {s : Int} (hs : 0 ≤ s ∧ s < 18446744073709551616) (h0 : s ≠ 0) : dr3 s ≠ 0 := by
  obtain ⟨a, b, q, hq⟩ := wrap_u (s * 131072)
  refine xor_ne hs ⟨a, b⟩ (fun e => h0 ?_)
  rw [← e] at hq
  exact odd_zero 131071 (by unfold Nat.Coprime; decide +kernel) hs (q := q) (by rw [show ((131071 : Nat) : Int) = 131071 from rfl]; omega)
theorem dr2_ne {s : Int} (hs : 0 ≤ s ∧ s < 18446744073709551616) (h0 : s ≠ 0) : dr2 s ≠ 0 :=
  xor_ne hs (by omega) (by omega)
/-- A generator's state. -/
def Us (s : Int) : Prop := 0 < s ∧ s < 18446744073709551616
theorem drw_us {s : Int} (h : Us s) : Us (drw s) := by
  have h1 := dr1_ne ⟨by have := h.1; omega, h.2⟩ (by have := h.1; omega)
  have b1 : 0 ≤ dr1 s ∧ dr1 s < 18446744073709551616 := bits_u _ _
  have h2 := dr2_ne b1 h1
  have b2 : 0 ≤ dr2 (dr1 s) ∧ dr2 (dr1 s) < 18446744073709551616 := bits_u _ _
  have h3 := dr3_ne b2 h2
  have b3 : 0 ≤ dr3 (dr2 (dr1 s)) ∧ dr3 (dr2 (dr1 s)) < 18446744073709551616 := bits_u _ _
  unfold drw
  exact ⟨by omega, b3.2⟩
section
variable {A : Adr} {st : Bool} {sv : List Bool} {lt : Nat} {nt : Int} {mt : List Int} {lb : Nat} {nb : Int} {mb : List Int} {s : Int} {k : Nat} {W : World}
set_option maxHeartbeats 4000000 in
theorem draw22 (H : Pr A st sv lt nt mt lb nb mb s k W) (hs : 0 ≤ s ∧ s < 18446744073709551616) :
    Calls Try.prog 22 #[.pointer (some ⟨A.pb, 0, none⟩)] W fun e w' => e = .returned (.int .u64 (drw s)) ∧ Pr A st sv lt nt mt lb nb mb (drw s) k w' ∧ Fa A W w' := by
  have c8 := H.cells.2.2.2.2.2.2.2.2.1
  have f8 := H.froz 8
  obtain ⟨s1, h1⟩ : ∃ s1, dr1 s = s1 := ⟨_, rfl⟩
  obtain ⟨s2, h2⟩ : ∃ s2, dr2 s1 = s2 := ⟨_, rfl⟩
  obtain ⟨s3, h3⟩ : ∃ s3, dr3 s2 = s3 := ⟨_, rfl⟩
  have hd : drw s = s3 := by unfold drw; rw [h1, h2, h3]
  have e1 : bits BinOp.xor IntKind.u64 s (IntKind.u64.wrap (s * 8192)) = s1 := h1
  have e2 : bits BinOp.xor IntKind.u64 s1 (s1 / 128) = s2 := h2
  have e3 : bits BinOp.xor IntKind.u64 s2 (IntKind.u64.wrap (s2 * 131072)) = s3 := h3
  have H1 := (H.setD s1).1.below (W' := (W.setCell ⟨A.pb, 8, none⟩ (.int .u64 s1)).drew) ((Below.refl _ _).drew)
  have F1 : Fa A W (W.setCell ⟨A.pb, 8, none⟩ (.int .u64 s1)).drew := (H.setD s1).2.trans (Fq.of_below ((Below.refl _ _).drew))
  obtain ⟨W1, hW1⟩ : ∃ W1, (W.setCell ⟨A.pb, 8, none⟩ (.int .u64 s1)).drew = W1 := ⟨_, rfl⟩
  rw [hW1] at H1 F1
  have H2 := (H1.setD s2).1.below (W' := (W1.setCell ⟨A.pb, 8, none⟩ (.int .u64 s2)).drew) ((Below.refl _ _).drew)
  have F2 : Fa A W1 (W1.setCell ⟨A.pb, 8, none⟩ (.int .u64 s2)).drew := (H1.setD s2).2.trans (Fq.of_below ((Below.refl _ _).drew))
  obtain ⟨W2, hW2⟩ : ∃ W2, (W1.setCell ⟨A.pb, 8, none⟩ (.int .u64 s2)).drew = W2 := ⟨_, rfl⟩
  rw [hW2] at H2 F2
  have H3 := (H2.setD s3).1.below (W' := (W2.setCell ⟨A.pb, 8, none⟩ (.int .u64 s3)).drew) ((Below.refl _ _).drew)
  have F3 : Fa A W2 (W2.setCell ⟨A.pb, 8, none⟩ (.int .u64 s3)).drew := (H2.setD s3).2.trans (Fq.of_below ((Below.refl _ _).drew))
  obtain ⟨W3, hW3⟩ : ∃ W3, (W2.setCell ⟨A.pb, 8, none⟩ (.int .u64 s3)).drew = W3 := ⟨_, rfl⟩
  rw [hW3] at H3 F3
  have d8 := H1.cells.2.2.2.2.2.2.2.2.1
  have g8 := H1.froz 8
  have i8 := H2.cells.2.2.2.2.2.2.2.2.1
  have j8 := H2.froz 8
  have k8 := H3.cells.2.2.2.2.2.2.2.2.1
  have HO := hid (And.intro H3 (F1.trans (F2.trans F3)))
  rw [hd]
  clear H H1 H2 H3 F1 F2 F3 h1 h2 h3 hd hs
  go_enter Try.func22, Try.ntmps22
  go_wp2_with (fail)
  go_region
  clear e1 hW1 c8 f8
  go_wp2_with (fail)
  go_region
  clear e2 hW2 d8 g8
  go_wp2_with (fail)
  go_region
  clear e3 hW3
  go_wp2_with (fail)
  go_ret
  exact ⟨rfl, HO.out⟩
end
end Go.Proofs.Ytkodfojccodoaaa
