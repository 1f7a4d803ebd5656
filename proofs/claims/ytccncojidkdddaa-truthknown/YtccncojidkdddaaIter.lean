/- The iterator over models: it asks for each number, and hands out those that hold. -/
import Derived.Test.YtccncojidkdddaaRange
import Derived.Test.YtccncojidkdddaaRefFind
import Derived.Shelf.RegionOpen
import Derived.OwnWalkIn
import Derived.TacticsInMore
import Derived.LoopNIn
import Derived.LoopIn
namespace Go.Proofs.Ytccncojidkdddaa
open Go.RowKit
set_option linter.unusedVariables false
set_option linter.unusedSimpArgs false
attribute [local go_sem] Oper.semAt_some

set_option maxRecDepth 100000 in
set_option maxHeartbeats 4000000 in
theorem models35 (C T u bv ba : Nat) (yes : Nat → Bool) (S : World → Prop) (hu : u ≤ 16)
    (hbv : ∀ W, S W → Boxed W bv 3 (.int .i64 u)) (hba : ∀ W, S W → Boxed W ba 49 (.func (.func 22) #[.pointer (some ⟨T, 0, none⟩)] #[]))
    (hask : ∀ (k : Nat) (W : World), k < 2 ^ u → S W → Calls Try.prog 22 #[.pointer (some ⟨T, 0, none⟩), .int .i64 k] W fun e w' => e = .returned (.bool (yes k)) ∧ S w' ∧ Ask C W w') :
    IterU Try.prog 35 #[.pointer (some ⟨bv, 0, none⟩), .pointer (some ⟨ba, 0, none⟩)] C (2 ^ u) yes S := by
  intro l W1 J Jx hS hJ hskip hY h0
  obtain ⟨hpw, hp2⟩ := pow16 u hu
  rw [show min u 64 = u by omega] at hpw
  generalize hP : 2 ^ u = P at hpw hp2 hskip hY hask ⊢
  clear hP
  have HJ := hid hJ
  have HSK := hid hskip
  have HY := hid hY
  have HAsk := hid hask
  have HBV := hid hbv
  have HBA := hid hba
  have HS := hid hS
  have c1 := (hbv W1 hS).cell
  clear hJ hskip hY hask hbv hba hS
  have hu0 : ¬ ((u : Int) < 0) := by omega
  refine callsIn_wide (n := 9) |>.1 ?_
  refine callsIn_of_wp Try.func35 rfl trivial ?_ rfl
  simp only [Try.ntmps35, List.size_toArray, List.length_cons, List.length_nil, Nat.reduceAdd, Nat.reduceSub, Array.replicate_succ, Array.replicate_zero, List.push_toArray, List.append_toArray, List.nil_append, List.cons_append]
  gi_wp2
  clear hpw c1
  gi_loopw [7] (fun i wr => ∃ k : Nat, i = .int .i64 k ∧ k ≤ P ∧ Hid (S wr) ∧ Hid (J k wr)) (fun i _ => P - (intOf i).toNat)
  case atStart => exact ⟨0, rfl, Nat.zero_le _, HS, hid h0⟩
  case round =>
    obtain ⟨k, rfl, hk, hs, hj⟩ := hrel
    by_cases hlt : k < P
    · have hlt' : (k : Int) < P := by omega
      have c2 := (HBA.out wr hs.out).cell
      cases hyes : yes k
      · gi_wp2_with (refine ⟨trivial, ?_⟩; gi_at_call 22; refine (callsIn_wide.2 (HAsk.out k wr hlt hs.out)).mono ?_; rintro e w9 ⟨rfl, hs9, ha9⟩; have HS9 := hid hs9; have HA9 := hid ha9; clear hs9 ha9; rw [hyes])
        refine ⟨fun _ h => (by cases h), ?_⟩
        gi_wp2
        go_roundw
        case rel => exact ⟨k + 1, by go_num, by omega, HS9, hid (HSK.out k _ hlt hyes (HJ.out _ _ _ hj.out HA9.out))⟩
        case measure => simp [intOf]; omega
      · gi_wp2_with (refine ⟨trivial, ?_⟩; gi_at_call 22; refine (callsIn_wide.2 (HAsk.out k wr hlt hs.out)).mono ?_; rintro e w9 ⟨rfl, hs9, ha9⟩; have HS9 := hid hs9; have HA9 := hid ha9; clear hs9 ha9; rw [hyes]; obtain ⟨fn, tmps, assign, body, hy2, hR⟩ := HY.out k w9 hlt hyes (HJ.out _ _ _ hj.out HA9.out) HS9.out 8)
        refine hR.mono ?_
        rintro e3 W3 (⟨rfl, hJ3, hk3⟩ | ⟨rfl, hJx3⟩)
        · have HS3 := hid hk3
          have HJ3 := hid hJ3
          clear hy2 hR hk3 hJ3
          gi_wp2
          go_roundw
          case rel => exact ⟨k + 1, by go_num, by omega, HS3, HJ3⟩
          case measure => simp [intOf]; omega
        · have HJx3 := hid hJx3
          clear hy2 hR hJx3
          gi_wp2
          refine bodyPost_ret (results_none rfl _ _ _) rfl ?_
          exact ⟨⟨_, rfl⟩, .inr HJx3.out⟩
    · have hge : ¬ (k : Int) < P := by omega
      obtain rfl : k = P := by omega
      gi_wp2
      go_end0
      exact ⟨⟨_, rfl⟩, .inl hj.out⟩
end Go.Proofs.Ytccncojidkdddaa
