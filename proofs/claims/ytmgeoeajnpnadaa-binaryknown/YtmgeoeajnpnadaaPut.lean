/- A number put behind a row of bytes. -/
import Derived.Test.YtmgeoeajnpnadaaCode
namespace Go.Proofs.Ytmgeoeajnpnadaa
open Go.RowKit
set_option linter.unusedVariables false
set_option linter.unusedSimpArgs false

/-- A row that grew: nothing else turned. -/
structure Grow (W W' : World) (v v' : Value) : Prop where
  os : W'.os = W.os
  tape : W'.tape = W.tape
  output : W'.output = W.output
  size : W.heap.size ≤ W'.heap.size
  keep : ∀ k : Nat, k < W.heap.size → v.ownBlock ≠ some k → W'.heap[k]? = W.heap[k]?
  own : ∀ k : Nat, k < W.heap.size → v'.ownBlock = some k → v.ownBlock = some k
theorem Grow.refl (W : World) (v : Value) : Grow W W v v := ⟨rfl, rfl, rfl, Nat.le_refl _, fun _ _ _ => rfl, fun _ _ h => h⟩
theorem Grow.trans {A B C : World} {u v x : Value} (h : Grow A B u v) (g : Grow B C v x) : Grow A C u x :=
  ⟨g.os.trans h.os, g.tape.trans h.tape, g.output.trans h.output, Nat.le_trans h.size g.size, fun k hk hn => (g.keep k (Nat.lt_of_lt_of_le hk h.size) (fun e => hn (h.own k hk e))).trans (h.keep k hk hn), fun k hk e => h.own k hk (g.own k (Nat.lt_of_lt_of_le hk h.size) e)⟩
/-- Bytes told: a row of one's own. -/
def BOut (base : Nat) (W : World) (v : Value) (xs : List Int) (e : Ending) (W' : World) : Prop :=
  ∃ o c, e = .returned (.slice o xs.length c) ∧ W'.ownsRow base 5 1 (.slice o xs.length c) xs.length (xs.map (Value.int .u8)) ∧ Grow W W' v (.slice o xs.length c)

theorem or128 : ∀ x : Fin 256, bits BinOp.or IntKind.u8 ((x.val : Nat) : Int) 128 = ((x.val % 128 + 128 : Nat) : Int) := by decide +kernel
theorem low128 (cd : Nat) : bits BinOp.or IntKind.u8 ((cd : Int) % 256) 128 = ((cd % 128 + 128 : Nat) : Int) := by
  have := or128 ⟨cd % 256, by omega⟩
  simp only at this
  rw [show ((cd : Int) % 256) = ((cd % 256 : Nat) : Int) by omega, this]
  congr 1
  omega
theorem Grow.push {W B : World} {v v' : Value} {n : Nat} (h1 : ∀ k, k < W.heap.size → v.ownBlock ≠ some k → B.heap[k]? = W.heap[k]?) (h2 : W.heap.size ≤ B.heap.size) (h3 : B.os = W.os) (h4 : B.tape = W.tape) (h5 : B.output = W.output) (h6 : ∀ k, k < W.heap.size → v'.ownBlock = some k → v.ownBlock = some k) : Grow W B v v' := ⟨h3, h4, h5, h2, h1, h6⟩

set_option maxRecDepth 100000 in
set_option maxHeartbeats 4000000 in
theorem number34 (base : Nat) (o : Option Addr) (m c : Nat) (xs : List Int) (n : Int) (W : World) (hm : xs.length = m) (hl : m ≤ 900000000) (h : W.ownsRow base 5 1 (.slice o m c) m (xs.map (Value.int .u8))) (hb : base ≤ W.heap.size) (h0 : -4611686018427387903 ≤ n) (h1 : n ≤ 4611686018427387903) :
    Calls Try.prog 34 #[.slice o m c, .int .i64 n] W fun e W' => BOut base W (.slice o m c) (xs ++ Bin.num n) e W' := by
  have C51 := hid (fun w => codeOf51 n h0 h1 w)
  have HL := hid (Bin.num_len h0 h1)
  have HC := hid (Bin.code_le h0 h1)
  have HO := hid h
  have HM := hid hm
  have HB := hid hb
  obtain ⟨cd0, hcd0⟩ : ∃ cd0, Bin.code n = cd0 := ⟨_, rfl⟩
  have HN := hid (show Bin.num n = Bin.bytes7 cd0 by unfold Bin.num; rw [hcd0])
  rw [hcd0] at C51 HC
  clear h hm hb h0 h1 hcd0
  go_enter Try.func34, Try.ntmps34
  go_wp2_with (go_at_call 51; refine (C51.out _).mono ?_; clear C51; rintro e w1 ⟨rfl, rfl⟩)
  go_loopw [0, 5] (fun bv cv wr => ∃ (ys : List Int) (o' : Option Addr) (k c' cd : Nat), bv = .slice o' k c' ∧ cv = .int .u64 cd ∧ k ≤ 900000009 ∧ Hid (ys.length = k) ∧ Hid (cd ≤ 9223372036854775807) ∧ Hid (wr.ownsRow base 5 1 (.slice o' k c') k (ys.map (Value.int .u8))) ∧ Hid (Grow w1 wr (.slice o m c) (.slice o' k c')) ∧ Hid (ys ++ Bin.bytes7 cd = xs ++ Bin.num n)) (fun _ cv _ => (intOf cv).toNat)
  case atStart => exact ⟨xs, o, m, c, cd0, rfl, rfl, by omega, HM, HC, HO, hid (Grow.refl _ _), hid (by rw [HN.out])⟩
  case round =>
    obtain ⟨ys, o', k, c', cd, rfl, rfl, hk, HK, HCD, HOW, HG, HE⟩ := hrel
    by_cases hge : cd < 128
    · have hge' : ¬ (128 : Int) ≤ cd := by omega
      have hcd : (cd : Int) % 256 = cd := by omega
      obtain ⟨o3, c3, B, r3, ho3, k3, z3, s3, t3, u3, w3⟩ := push5 HK.out HOW.out (cd : Int) (by omega) (Nat.le_trans HB.out HG.out.size)
      have HAP := hid r3
      have HOB := hid ho3
      have HGB := hid (HG.out.trans (Grow.push (n := 0) k3 z3 s3 t3 u3 w3))
      have HE2 := hid (show ys ++ [(cd : Int)] = xs ++ Bin.num n by rw [← HE.out, Bin.bytes7_lt hge])
      clear r3 ho3 k3 z3 s3 t3 u3 w3 hge
      go_wp2_with (at_builtin; refine wpList_append_run rfl (.tmp 18) (.tmp 21) 26 26 rfl rfl rfl HAP.out ?_; clear HAP)
      go_ret
      have hlen : (xs ++ Bin.num n).length = k + 1 := by rw [← HE2.out]; simp [HK.out]
      unfold BOut
      rw [hlen, ← HE2.out]
      exact ⟨_, _, rfl, HOB.out, HGB.out⟩
    · have hge' : (128 : Int) ≤ cd := by omega
      obtain ⟨o3, c3, B, r3, ho3, k3, z3, s3, t3, u3, w3⟩ := push5 HK.out HOW.out (bits BinOp.or IntKind.u8 ((cd : Int) % 256) 128) (by omega) (Nat.le_trans HB.out HG.out.size)
      have HAP := hid r3
      have HOB := hid ho3
      have HGB := hid (HG.out.trans (Grow.push (n := 0) k3 z3 s3 t3 u3 w3))
      have HE2 := hid (show (ys ++ [bits BinOp.or IntKind.u8 ((cd : Int) % 256) 128]) ++ Bin.bytes7 (cd / 128) = xs ++ Bin.num n by rw [← HE.out, Bin.bytes7_ge hge, low128]; simp)
      have HKL := hid (show k + 1 ≤ 900000009 by
        have := congrArg List.length HE.out
        rw [List.length_append, List.length_append, Bin.bytes7_ge hge] at this
        simp only [List.length_cons] at this
        have h1 := HK.out; have h2 := HM.out; have h3 := HL.out
        omega)
      clear r3 ho3 k3 z3 s3 t3 u3 w3 hge
      go_wp2_with (at_builtin; refine wpList_append_run rfl (.tmp 10) (.tmp 14) 26 26 rfl rfl rfl HAP.out ?_; clear HAP)
      go_roundw
      case rel => exact ⟨_, _, k + 1, _, cd / 128, by go_num, by go_num, HKL.out, hid (by simp [HK.out]), hid (by have := HCD.out; omega), HOB, HGB, HE2⟩
      case measure => simp [intOf]; omega
end Go.Proofs.Ytmgeoeajnpnadaa
