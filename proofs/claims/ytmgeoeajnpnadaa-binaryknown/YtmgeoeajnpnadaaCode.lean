/- A number's bytes; a byte more in a row of one's own. -/
import Derived.Test.YtmgeoeajnpnadaaMem
namespace Bin
/-- A number's code, and its bytes: seven bits each, the low ones first. -/
def code (n : Int) : Nat := if n < 0 then 2 * n.natAbs + 1 else 2 * n.natAbs
def bytes7 (c : Nat) : List Int := if h : c < 128 then [(c : Int)] else ((c % 128 + 128 : Nat) : Int) :: bytes7 (c / 128)
termination_by c
decreasing_by omega
def num (n : Int) : List Int := bytes7 (code n)
theorem bytes7_lt {c : Nat} (h : c < 128) : bytes7 c = [(c : Int)] := by rw [bytes7, dif_pos h]
theorem bytes7_ge {c : Nat} (h : ¬ c < 128) : bytes7 c = ((c % 128 + 128 : Nat) : Int) :: bytes7 (c / 128) := by rw [bytes7, dif_neg h]
theorem code_le {n : Int} (h0 : -4611686018427387903 ≤ n) (h1 : n ≤ 4611686018427387903) : code n ≤ 9223372036854775807 := by unfold code; split <;> omega
theorem bytes7_len : ∀ (k c : Nat), c < 128 ^ (k + 1) → (bytes7 c).length ≤ k + 1 := by
  intro k
  induction k with
  | zero => intro c h; rw [bytes7_lt (by simpa using h)]; simp
  | succ k ih =>
    intro c h
    by_cases hc : c < 128
    · rw [bytes7_lt hc]; simp
    · rw [bytes7_ge hc]
      have := ih (c / 128) (by rw [Nat.pow_succ] at h; omega)
      simp; omega
theorem num_len {n : Int} (h0 : -4611686018427387903 ≤ n) (h1 : n ≤ 4611686018427387903) : (num n).length ≤ 9 := bytes7_len 8 _ (by have := code_le h0 h1; omega)
theorem bytes7_byte : ∀ (c : Nat), ∀ x ∈ bytes7 c, 0 ≤ x ∧ x < 256 := by
  intro c
  induction c using Nat.strongRecOn with
  | ind c ih =>
    by_cases hc : c < 128
    · rw [bytes7_lt hc]; intro x hx; simp at hx; omega
    · rw [bytes7_ge hc]
      intro x hx
      rcases List.mem_cons.1 hx with rfl | hx
      · omega
      · exact ih _ (by omega) x hx
end Bin
namespace Go.Proofs.Ytmgeoeajnpnadaa
open Go.RowKit
set_option linter.unusedVariables false
set_option linter.unusedSimpArgs false

theorem info5 : (Try.prog.info? 5).map (fun i => (i.zero, i.size, i.bytes)) = some (some (.int .u8 0), 1, 1) := by kernel_rfl
/-- A byte more. -/
theorem push5 {n m : Nat} {W : World} {v : Value} {xs : List Int} (hm : xs.length = m) (h : W.ownsRow n 5 1 v m (xs.map (Value.int .u8))) (x : Int) (hl : m ≤ 1000000000) (hb : n ≤ W.heap.size) :
    ∃ o c B, (Builtin.append_ #[26, 26] 26 #[v, .slice (some ⟨W.heap.size, 0, none⟩) 1 1]).run Try.prog (W.alloc (.cells #[.int .u8 x] 5)) = .ok (.slice o (m + 1) c) B ∧
      B.ownsRow n 5 1 (.slice o (m + 1) c) (m + 1) ((xs ++ [x]).map (Value.int .u8)) ∧ (∀ k, k < W.heap.size → v.ownBlock ≠ some k → B.heap[k]? = W.heap[k]?) ∧ W.heap.size ≤ B.heap.size ∧ B.os = W.os ∧ B.tape = W.tape ∧ B.output = W.output ∧ (∀ k, k < W.heap.size → Value.ownBlock (.slice o (m + 1) c) = some k → v.ownBlock = some k) := by
  obtain ⟨i0, hi, hz⟩ := Option.map_eq_some_iff.1 info5
  simp only [Prod.mk.injEq] at hz
  obtain ⟨hz0, hz1, hz2⟩ := hz
  obtain ⟨W1, hW1⟩ : ∃ W1, W.alloc (.cells #[.int .u8 x] 5) = W1 := ⟨_, rfl⟩
  have hM : W1.heap[W.heap.size]? = some (.cells #[.int .u8 x] 5 (0, 0)) := by rw [← hW1]; exact heap_alloc_new _ _
  have h01 : Below W.heap.size W W1 := by rw [← hW1]; exact below_box _ _
  have hs1 : W1.heap.size = W.heap.size + 1 := by rw [← hW1]; simp
  have hop := own_below h h01
  rw [hW1]
  obtain ⟨v2, B, hr, ho2, hg, _, hat⟩ := run_append_own_at (P := Try.prog) W1 n 26 26 5 i0 _ 1 1 Try.underlying26 hi hz0 hz1 hz2 rfl (by decide) v m _ hop ⟨W.heap.size, 0, none⟩ 1 1 [.int .u8 x] rfl (fun j u hu => by
    match j, hu with
    | 0, hu => rw [show (⟨W.heap.size, 0, none⟩ : Addr).add 0 = ⟨W.heap.size, 0, none⟩ from rfl, row_cell hM 0]; exact hu
    | j + 1, hu => simp at hu) (by
      intro u hu
      simp at hu
      subst hu
      rfl) (by simp [maxLen]; omega) (by omega) (by omega)
  obtain ⟨o', cp', rfl⟩ := own_slc ho2
  have keep : ∀ k, k < W.heap.size → v.ownBlock ≠ some k → B.heap[k]? = W.heap[k]? := fun k hk hne =>
    (hg.block _ (by omega) (fun e => hne e.symm)).trans (h01.block _ hk)
  refine ⟨o', cp', B, hr, ?_, keep, ?_, hg.os.trans h01.os, hg.tape.trans h01.tape, hg.output.trans h01.output, fun k hk e => ?_⟩
  · rw [List.map_append]
    simpa using ho2
  · have := hg.size; omega
  · rcases hat with hat | hat
    · rw [← hat]; exact e
    · rw [hat] at e; cases e; omega

set_option maxRecDepth 100000 in
set_option maxHeartbeats 4000000 in
theorem codeOf51 (n : Int) (h0 : -4611686018427387903 ≤ n) (h1 : n ≤ 4611686018427387903) (w : World) : Calls Try.prog 51 #[.int .i64 n] w fun e w' => e = .returned (.int .u64 (Bin.code n)) ∧ w' = w := by
  by_cases hn : n < 0
  · obtain ⟨u, rfl⟩ : ∃ u : Nat, n = -(u : Int) := ⟨n.natAbs, by omega⟩
    have hE := hid (show Bin.code (-(u : Int)) = 2 * u + 1 by unfold Bin.code; rw [if_pos hn]; omega)
    have hwr : IntKind.u64.wrap (wrap64 (u : Int)) = (u : Int) := by rw [IntKind.wrap_u64]; unfold wrap64; omega
    have hw2 : IntKind.u64.wrap (u : Int) = (u : Int) := by rw [IntKind.wrap_u64]; omega
    have hw3 : IntKind.u64.wrap (2 * (u : Int)) = 2 * (u : Int) := by rw [IntKind.wrap_u64]; omega
    have hw4 : IntKind.u64.wrap (2 * (u : Int) + 1) = 2 * (u : Int) + 1 := by rw [IntKind.wrap_u64]; omega
    have hu : (u : Int) ≤ 4611686018427387903 := by omega
    clear h0 h1
    go_enter Try.func51, Try.ntmps51
    go_wp2
    go_ret
    exact ⟨by rw [hE.out]; push_cast; rfl, rfl⟩
  · obtain ⟨u, rfl⟩ : ∃ u : Nat, n = (u : Int) := ⟨n.toNat, by omega⟩
    have hE := hid (show Bin.code (u : Int) = 2 * u by unfold Bin.code; rw [if_neg hn]; omega)
    have hw2 : IntKind.u64.wrap (u : Int) = (u : Int) := by rw [IntKind.wrap_u64]; omega
    have hw3 : IntKind.u64.wrap (2 * (u : Int)) = 2 * (u : Int) := by rw [IntKind.wrap_u64]; omega
    have hu : (u : Int) ≤ 4611686018427387903 := by omega
    clear h0 h1
    go_enter Try.func51, Try.ntmps51
    go_wp2
    go_ret
    exact ⟨by rw [hE.out]; push_cast; rfl, rfl⟩
end Go.Proofs.Ytmgeoeajnpnadaa
