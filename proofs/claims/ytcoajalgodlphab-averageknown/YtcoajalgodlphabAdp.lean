/- Add, the program's. -/
import Derived.Test.YtcoajalgodlphabAdd
namespace Go.Proofs.Ytcoajalgodlphab
open Go.RowKit Go.Maps Av
set_option linter.unusedVariables false
set_option linter.unusedSimpArgs false
set_option maxRecDepth 100000

/-- Behind Add: what is answered, and the average. -/
def AddO (t b s : Nat) (v : Int) (k : Nat) (x : Int) (W : World) (e : Ending) (w' : World) : Prop :=
  (0 ≤ x ∧ x ≤ 1073741824 ∧ e = .returned (.int .i64 0) ∧ Am t b s (avV s (k + 1) v x) (k + 1) w' ∧ Fq (fun g => g ≠ b) W w') ∨
  ((x < 0 ∨ 1073741824 < x) ∧ e = .returned (.int .i64 2) ∧ w' = W)
theorem wrapped {s k m : Nat} {v x : Int} (h0 : 0 ≤ x) (h1 : x ≤ 1073741824) (o2 : 0 ≤ v) (o3 : v ≤ 4611686018427387904) (hv : 0 ≤ avV s k v x ∧ avV s k v x ≤ 4611686018427387904) (hm : m = min s (Nat.log2 k)) :
    IntKind.i64.wrap (v + IntKind.i64.wrap (IntKind.i64.wrap (x * 4294967296) - v) / 2 ^ m) = avV s k v x := by
  have e1 : IntKind.i64.wrap (x * 4294967296) = x * 4294967296 := by rw [IntKind.wrap_i64]; omega
  have e2 : IntKind.i64.wrap (x * 4294967296 - v) = x * 4294967296 - v := by rw [IntKind.wrap_i64]; omega
  have e3 : (2 : Int) ^ m = ((2 ^ m : Nat) : Int) := by simp
  have e4 : v + (x * 4294967296 - v) / ((2 ^ m : Nat) : Int) = avV s k v x := by rw [hm]; rfl
  rw [e1, e2, e3, e4, IntKind.wrap_i64]
  omega
theorem add12_no {b : Nat} {x : Int} (W : World) (h : x < 0 ∨ 1073741824 < x) :
    Calls Try.prog 6 #[.pointer (some ⟨b, 0, none⟩), .int .i64 x] W fun e w' => e = .returned (.int .i64 2) ∧ w' = W := by
  by_cases h1 : x < 0
  · clear h
    go_enter Try.func6, Try.ntmps6
    go_wp2
    go_ret
    exact ⟨rfl, rfl⟩
  · have h2 : 1073741824 < x := by omega
    clear h
    go_enter Try.func6, Try.ntmps6
    go_wp2
    go_ret
    exact ⟨rfl, rfl⟩
set_option maxHeartbeats 4000000 in
theorem add12_ok {b s : Nat} {v : Int} {k : Nat} {W : World} {x : Int} (H : Am 39 b s v k W) (hO : Ok s v k) (h0 : 0 ≤ x) (h1 : x ≤ 1073741824) :
    Calls Try.prog 6 #[.pointer (some ⟨b, 0, none⟩), .int .i64 x] W fun e w' => e = .returned (.int .i64 0) ∧ Am 39 b s (avV s (k + 1) v x) (k + 1) w' ∧ Fq (fun g => g ≠ b) W w' := by
  have hv := avV_bd (s := s) (k := k + 1) hO.v0 hO.v62 h0 h1
  have hO2 := hO
  obtain ⟨o1, o2, o3, o4⟩ := hO2
  have c2 := row_cell H.blk 2
  have f2 := row_frozen H.blk 2
  obtain ⟨H1, F1⟩ := H.setN (k + 1)
  have d1 := row_cell H1.blk 1
  have g1 := row_frozen H1.blk 1
  obtain ⟨kI, hkI⟩ : ∃ kI : Int, (k : Int) = kI := ⟨_, rfl⟩
  have hk1 : ((k + 1 : Nat) : Int) = kI + 1 := by omega
  rw [hk1] at d1 g1 H1 F1
  rw [hkI] at c2
  obtain ⟨W1, hW1⟩ : ∃ W1, W.setCell ⟨b, 2, none⟩ (.int .i64 (kI + 1)) = W1 := ⟨_, rfl⟩
  rw [hW1] at d1 g1 H1 F1
  have hk0 : 0 ≤ kI := by omega
  have hk2 : kI ≤ 1048576 := by omega
  have C := hid (fun (w : World) (h : Below W1.heap.size W1 w) => weight27 (H1.below h) (by omega) (by omega))
  have hm : min s (Nat.log2 (k + 1)) ≤ 30 := by omega
  have HR := hid (wrapped (m := min s (Nat.log2 (k + 1))) h0 h1 o2 o3 hv rfl)
  have HS := hid (fun (q : Nat) => And.intro ((H1.below (Drawn.below ⟨q, rfl⟩)).setV (avV s (k + 1) v x)).1 ((Fq.of_below (Drawn.below ⟨q, rfl⟩)).trans ((H1.below (Drawn.below ⟨q, rfl⟩)).setV (avV s (k + 1) v x)).2))
  generalize min s (Nat.log2 (k + 1)) = m at C HR hm
  generalize avV s (k + 1) v x = r at HR HS ⊢
  have HF := hid F1
  clear H H1 F1 hO o1 o4 hkI hk1 hv
  go_enter Try.func6, Try.ntmps6
  go_wp2_with (fail)
  go_region_with (go_at_call 15; refine (C.out _ (Below.refl _ _).drew).mono ?_; rintro e w4 ⟨rfl, q4, rfl⟩)
  all_goals
    have e := HR.out
    simp only [e]
    clear e
    go_wp2
    go_ret
    exact ⟨rfl, (HS.out _).1, HF.out.trans (HS.out _).2⟩
end Go.Proofs.Ytcoajalgodlphab
