/- A number put behind a row of bytes, by the document. -/
import Derived.Test.YtmgeoeajnpnadaaPutR
namespace Go.Proofs.Ytmgeoeajnpnadaa
open Go.RowKit
set_option linter.unusedVariables false
set_option linter.unusedSimpArgs false

theorem or_nat (u : Nat) (h : u ≤ 4611686018427387903) : (BitVec.ofInt 64 (2 * (u : Int)) ||| BitVec.ofInt 64 1).toNat = 2 * u + 1 := by
  rw [BitVec.toNat_or, BitVec.toNat_ofInt, BitVec.toNat_ofInt]
  rw [show ((2 * (u : Int)) % ((2 ^ 64 : Nat) : Int)).toNat = u <<< 1 by rw [Nat.shiftLeft_eq]; omega, show ((1 : Int) % ((2 ^ 64 : Nat) : Int)).toNat = 1 from rfl, ← Nat.shiftLeft_add_eq_or_of_lt (by decide), Nat.shiftLeft_eq]
  omega
theorem or_one (u : Nat) (h : u ≤ 4611686018427387903) : bits BinOp.or IntKind.u64 (2 * (u : Int)) 1 = 2 * (u : Int) + 1 := by
  show IntKind.u64.wrap (((BitVec.ofInt 64 (2 * (u : Int)) ||| BitVec.ofInt 64 1).toNat : Nat) : Int) = _
  rw [or_nat u h, IntKind.wrap_u64]
  omega

set_option maxRecDepth 100000 in
set_option maxHeartbeats 4000000 in
theorem put38 (base : Nat) (o : Option Addr) (m c : Nat) (xs : List Int) (n : Int) (W : World) (hm : xs.length = m) (hl : m ≤ 900000000) (h : W.ownsRow base 5 1 (.slice o m c) m (xs.map (Value.int .u8))) (hb : base ≤ W.heap.size) (h0 : -4611686018427387903 ≤ n) (h1 : n ≤ 4611686018427387903) :
    Calls Try.prog 38 #[.slice o m c, .int .i64 n] W fun e W' => BOut base W (.slice o m c) (xs ++ Bin.num n) e W' := by
  have HL := hid (Bin.num_len h0 h1)
  have HC := hid (Bin.code_le h0 h1)
  have HO := hid h
  have HM := hid hm
  have HB := hid hb
  obtain ⟨cd0, hcd0⟩ : ∃ cd0, Bin.code n = cd0 := ⟨_, rfl⟩
  have HN := hid (show Bin.num n = Bin.bytes7 cd0 by unfold Bin.num; rw [hcd0])
  rw [hcd0] at HC
  have HCN := hid hcd0
  clear h hm hb hcd0
  by_cases hn : n < 0
  · have HEC := hid (show bits BinOp.or IntKind.u64 (-n * 2) 1 = (cd0 : Int) by
      obtain ⟨u, rfl⟩ : ∃ u : Nat, n = -(u : Int) := ⟨n.natAbs, by omega⟩
      rw [show -(-(u : Int)) * 2 = 2 * (u : Int) by omega, or_one u (by omega), ← HCN.out]
      unfold Bin.code
      rw [if_pos hn]
      omega)
    go_enter Try.func38, Try.ntmps38
    go_wp2
    go_loopw [0, 5] (fun bv cv wr => ∃ (ys : List Int) (o' : Option Addr) (k c' cd : Nat), bv = .slice o' k c' ∧ cv = .int .u64 cd ∧ k ≤ 900000009 ∧ Hid (ys.length = k) ∧ Hid (cd ≤ 9223372036854775807) ∧ Hid (wr.ownsRow base 5 1 (.slice o' k c') k (ys.map (Value.int .u8))) ∧ Hid (Grow W wr (.slice o m c) (.slice o' k c')) ∧ Hid (ys ++ Bin.bytes7 cd = xs ++ Bin.num n)) (fun _ cv _ => (intOf cv).toNat)
    case atStart => exact ⟨xs, o, m, c, cd0, rfl, by rw [HEC.out], by omega, HM, HC, HO, hid (Grow.refl _ _), hid (by rw [HN.out])⟩
    case round =>
      obtain ⟨ys, o', k, c', cd, rfl, rfl, hk, HK, HCD, HOW, HG, HE⟩ := hrel
      by_cases hge : cd < 128
      · have hge' : ¬ (128 : Int) ≤ cd := by omega
        have hcd : (cd : Int) % 256 = cd := by omega
        obtain ⟨o3, c3, B, r3, ho3, k3, z3, s3, t3, u3, w3⟩ := push5 HK.out HOW.out (cd : Int) (by omega) (Nat.le_trans HB.out HG.out.size)
        have HAP := hid r3
        have HOB := hid ho3
        have HGB := hid (HG.out.trans (Grow.push (n := 0) k3 z3 s3 t3 u3 w3))
        have HE2 := hid (show ys ++ [(cd : Int)] = xs ++ Bin.num n by rw [← HE.out, Bin.bytes7_lt hge])
        clear r3 ho3 k3 z3 s3 t3 u3 w3 hge
        go_wp2_with (at_builtin; refine wpList_append_run rfl (.tmp 26) (.tmp 29) 26 26 rfl rfl rfl HAP.out ?_; clear HAP)
        go_ret
        have hlen : (xs ++ Bin.num n).length = k + 1 := by rw [← HE2.out]; simp [HK.out]
        unfold BOut
        rw [hlen, ← HE2.out]
        exact ⟨_, _, rfl, HOB.out, HGB.out⟩
      · have hge' : (128 : Int) ≤ cd := by omega
        obtain ⟨o3, c3, B, r3, ho3, k3, z3, s3, t3, u3, w3⟩ := push5 HK.out HOW.out (bits BinOp.or IntKind.u8 ((cd : Int) % 256) 128) (by omega) (Nat.le_trans HB.out HG.out.size)
        have HAP := hid r3
        have HOB := hid ho3
        have HGB := hid (HG.out.trans (Grow.push (n := 0) k3 z3 s3 t3 u3 w3))
        have HE2 := hid (show (ys ++ [bits BinOp.or IntKind.u8 ((cd : Int) % 256) 128]) ++ Bin.bytes7 (cd / 128) = xs ++ Bin.num n by rw [← HE.out, Bin.bytes7_ge hge, low128]; simp)
        have HKL := hid (show k + 1 ≤ 900000009 by
          have := congrArg List.length HE.out
          rw [List.length_append, List.length_append, Bin.bytes7_ge hge] at this
          simp only [List.length_cons] at this
          have h1 := HK.out; have h2 := HM.out; have h3 := HL.out
          omega)
        clear r3 ho3 k3 z3 s3 t3 u3 w3 hge
        go_wp2_with (at_builtin; refine wpList_append_run rfl (.tmp 18) (.tmp 22) 26 26 rfl rfl rfl HAP.out ?_; clear HAP)
        go_roundw
        case rel => exact ⟨_, _, k + 1, _, cd / 128, by go_num, by go_num, HKL.out, hid (by simp [HK.out]), hid (by have := HCD.out; omega), HOB, HGB, HE2⟩
        case measure => simp [intOf]; omega
  · have HEC := hid (show n * 2 = (cd0 : Int) by
      rw [← HCN.out]
      unfold Bin.code
      rw [if_neg hn]
      omega)
    go_enter Try.func38, Try.ntmps38
    go_wp2
    go_loopw [0, 5] (fun bv cv wr => ∃ (ys : List Int) (o' : Option Addr) (k c' cd : Nat), bv = .slice o' k c' ∧ cv = .int .u64 cd ∧ k ≤ 900000009 ∧ Hid (ys.length = k) ∧ Hid (cd ≤ 9223372036854775807) ∧ Hid (wr.ownsRow base 5 1 (.slice o' k c') k (ys.map (Value.int .u8))) ∧ Hid (Grow W wr (.slice o m c) (.slice o' k c')) ∧ Hid (ys ++ Bin.bytes7 cd = xs ++ Bin.num n)) (fun _ cv _ => (intOf cv).toNat)
    case atStart => exact ⟨xs, o, m, c, cd0, rfl, by rw [HEC.out], by omega, HM, HC, HO, hid (Grow.refl _ _), hid (by rw [HN.out])⟩
    case round =>
      obtain ⟨ys, o', k, c', cd, rfl, rfl, hk, HK, HCD, HOW, HG, HE⟩ := hrel
      by_cases hge : cd < 128
      · have hge' : ¬ (128 : Int) ≤ cd := by omega
        have hcd : (cd : Int) % 256 = cd := by omega
        obtain ⟨o3, c3, B, r3, ho3, k3, z3, s3, t3, u3, w3⟩ := push5 HK.out HOW.out (cd : Int) (by omega) (Nat.le_trans HB.out HG.out.size)
        have HAP := hid r3
        have HOB := hid ho3
        have HGB := hid (HG.out.trans (Grow.push (n := 0) k3 z3 s3 t3 u3 w3))
        have HE2 := hid (show ys ++ [(cd : Int)] = xs ++ Bin.num n by rw [← HE.out, Bin.bytes7_lt hge])
        clear r3 ho3 k3 z3 s3 t3 u3 w3 hge
        go_wp2_with (at_builtin; refine wpList_append_run rfl (.tmp 26) (.tmp 29) 26 26 rfl rfl rfl HAP.out ?_; clear HAP)
        go_ret
        have hlen : (xs ++ Bin.num n).length = k + 1 := by rw [← HE2.out]; simp [HK.out]
        unfold BOut
        rw [hlen, ← HE2.out]
        exact ⟨_, _, rfl, HOB.out, HGB.out⟩
      · have hge' : (128 : Int) ≤ cd := by omega
        obtain ⟨o3, c3, B, r3, ho3, k3, z3, s3, t3, u3, w3⟩ := push5 HK.out HOW.out (bits BinOp.or IntKind.u8 ((cd : Int) % 256) 128) (by omega) (Nat.le_trans HB.out HG.out.size)
        have HAP := hid r3
        have HOB := hid ho3
        have HGB := hid (HG.out.trans (Grow.push (n := 0) k3 z3 s3 t3 u3 w3))
        have HE2 := hid (show (ys ++ [bits BinOp.or IntKind.u8 ((cd : Int) % 256) 128]) ++ Bin.bytes7 (cd / 128) = xs ++ Bin.num n by rw [← HE.out, Bin.bytes7_ge hge, low128]; simp)
        have HKL := hid (show k + 1 ≤ 900000009 by
          have := congrArg List.length HE.out
          rw [List.length_append, List.length_append, Bin.bytes7_ge hge] at this
          simp only [List.length_cons] at this
          have h1 := HK.out; have h2 := HM.out; have h3 := HL.out
          omega)
        clear r3 ho3 k3 z3 s3 t3 u3 w3 hge
        go_wp2_with (at_builtin; refine wpList_append_run rfl (.tmp 18) (.tmp 22) 26 26 rfl rfl rfl HAP.out ?_; clear HAP)
        go_roundw
        case rel => exact ⟨_, _, k + 1, _, cd / 128, by go_num, by go_num, HKL.out, hid (by simp [HK.out]), hid (by have := HCD.out; omega), HOB, HGB, HE2⟩
        case measure => simp [intOf]; omega
end Go.Proofs.Ytmgeoeajnpnadaa
