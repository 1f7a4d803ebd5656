/- Add, the document's. -/
import Derived.Test.YtcoajalgodlphaaAdd
import Derived.StillTailTactics
namespace Go.Proofs.Ytcoajalgodlphaa
open Go.RowKit Go.Maps Av
set_option linter.unusedVariables false
set_option linter.unusedSimpArgs false
set_option maxRecDepth 100000

theorem add13_no {b : Nat} {x : Int} (W : World) (h : x < 0 ∨ 1073741824 < x) :
    Calls Try.prog 13 #[.pointer (some ⟨b, 0, none⟩), .int .i64 x] W fun e w' => e = .returned (.int .i64 2) ∧ w' = W := by
  by_cases h1 : x < 0
  · clear h
    go_enter Try.func13, Try.ntmps13
    go_wp2
    go_ret
    exact ⟨rfl, rfl⟩
  · have h2 : 1073741824 < x := by omega
    clear h
    go_enter Try.func13, Try.ntmps13
    go_wp2
    go_ret
    exact ⟨rfl, rfl⟩
set_option maxHeartbeats 4000000 in
theorem add13_ok {b s : Nat} {v : Int} {k : Nat} {W : World} {x : Int} (H : Am 34 b s v k W) (hO : Ok s v k) (h0 : 0 ≤ x) (h1 : x ≤ 1073741824) :
    Calls Try.prog 13 #[.pointer (some ⟨b, 0, none⟩), .int .i64 x] W fun e w' => e = .returned (.int .i64 0) ∧ Am 34 b s (avV s (k + 1) v x) (k + 1) w' ∧ Fq (fun g => g ≠ b) W w' := by
  have hv := avV_bd (s := s) (k := k + 1) hO.v0 hO.v62 h0 h1
  obtain ⟨o1, o2, o3, o4⟩ := hO
  have c2 := row_cell H.blk 2
  have f2 := row_frozen H.blk 2
  obtain ⟨H1, F1⟩ := H.setN (k + 1)
  have d0 := row_cell H1.blk 0
  have d1 := row_cell H1.blk 1
  have d2 := row_cell H1.blk 2
  have g1 := row_frozen H1.blk 1
  obtain ⟨kI, hkI⟩ : ∃ kI : Int, (k : Int) = kI := ⟨_, rfl⟩
  have hk1 : ((k + 1 : Nat) : Int) = kI + 1 := by omega
  rw [hk1] at d0 d1 d2 g1 H1 F1
  rw [hkI] at c2
  obtain ⟨W1, hW1⟩ : ∃ W1, W.setCell ⟨b, 2, none⟩ (.int .i64 (kI + 1)) = W1 := ⟨_, rfl⟩
  rw [hW1] at d0 d1 d2 g1 H1 F1
  have hk0 : 0 ≤ kI := by omega
  have hk2 : kI ≤ 1048576 := by omega
  have C29 := hid (fun (w : World) => log29 (k + 1) w (by omega) (by omega))
  rw [hk1] at C29
  have hm : min s (Nat.log2 (k + 1)) ≤ 30 := by omega
  have HM := min_cast s (Nat.log2 (k + 1))
  obtain ⟨m, hmm⟩ : ∃ m, min s (Nat.log2 (k + 1)) = m := ⟨_, rfl⟩
  rw [hmm] at hm HM
  have hP : (2 : Nat) ^ m ≤ 2 ^ 30 := Nat.pow_le_pow_right (by omega) hm
  have hP0 := pw_pos m
  have C28 := hid (fun (w : World) => down28 (x * 4294967296 - v) (2 ^ m) w (by omega) (by omega) (by omega) (by omega))
  have hr : avV s (k + 1) v x = v + (x * 4294967296 - v) / ((2 ^ m : Nat) : Int) := by rw [← hmm]; rfl
  have e3 : (2 : Int) ^ m = ((2 ^ m : Nat) : Int) := by simp
  obtain ⟨P, hPI⟩ : ∃ P : Int, ((2 ^ m : Nat) : Int) = P := ⟨_, rfl⟩
  have e4 : IntKind.i64.wrap (2 ^ m) = P := by rw [e3, hPI, IntKind.wrap_i64]; omega
  obtain ⟨X, hX⟩ : ∃ X : Int, x * 4294967296 = X := ⟨_, rfl⟩
  have e1 : IntKind.i64.wrap X = X := by rw [IntKind.wrap_i64]; omega
  obtain ⟨D, hD⟩ : ∃ D : Int, X - v = D := ⟨_, rfl⟩
  have e2 : IntKind.i64.wrap D = D := by rw [IntKind.wrap_i64]; omega
  rw [hPI, hX, hD] at C28 hr
  obtain ⟨q, hq⟩ : ∃ q : Int, D / P = q := ⟨_, rfl⟩
  rw [hq] at C28 hr
  obtain ⟨r, hrr⟩ : ∃ r : Int, v + q = r := ⟨_, rfl⟩
  rw [hrr] at hr
  rw [hr] at hv ⊢
  have e5 : IntKind.i64.wrap r = r := by rw [IntKind.wrap_i64]; omega
  have HS := hid (fun (q : Nat) => And.intro ((H1.below (Drawn.below ⟨q, rfl⟩)).setV r).1 ((Fq.of_below (Drawn.below ⟨q, rfl⟩)).trans ((H1.below (Drawn.below ⟨q, rfl⟩)).setV r).2))
  generalize Nat.log2 (k + 1) = l at *
  have HF := hid F1
  have HX := hid (fun (X : World) (hX : Drawn W1 X) => show X.cell? ⟨b, 0, none⟩ = some (.int .i64 (s : Int)) ∧ X.cell? ⟨b, 1, none⟩ = some (.int .i64 v) ∧ X.cell? ⟨b, 2, none⟩ = some (.int .i64 (kI + 1)) ∧ X.frozen? ⟨b, 1, none⟩ = false ∧ Drawn W1 X from by
    have H2 := H1.below hX.below
    have q0 := row_cell H2.blk 0
    have q1 := row_cell H2.blk 1
    have q2 := row_cell H2.blk 2
    rw [hk1] at q2
    exact ⟨q0, q1, q2, row_frozen H2.blk 1, hX⟩)
  clear H H1 F1 o1 o4 hkI hk1 hv hr hmm hP hP0 e3 hPI hq
  go_enter Try.func13, Try.ntmps13
  go_wp2_with (fail)
  clear c2 f2 hW1 HX
  refine wp_region_still_tail 27 (by kernel_rfl) (by kernel_rfl) ?_
  simp only [List.take_succ_cons, List.take_zero, List.drop_succ_cons, List.drop_zero]
  iterate 20 still_step
  still_call (C29.out _)
  iterate 2 still_step
  still_call (C28.out _)
  iterate 3 still_step
  refine wpStill_nil ?_
  go_wp2
  go_ret
  exact ⟨rfl, (HS.out _).1, HF.out.trans (HS.out _).2⟩
end Go.Proofs.Ytcoajalgodlphaa
