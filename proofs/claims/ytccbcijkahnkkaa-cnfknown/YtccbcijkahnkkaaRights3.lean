/- The statement's own function CnfRights answers true: the walk. -/
import Derived.Test.YtccbcijkahnkkaaForm1
import Derived.Test.YtccbcijkahnkkaaForm2
import Derived.Test.YtccbcijkahnkkaaWorks
import Derived.Lib.QuietBelow
namespace Go.Proofs.Ytccbcijkahnkkaa
open Go.RowKit Go.Sort
set_option linter.unusedVariables false

theorem right10 (vars : Int) (a : Option Addr) (n cap : Nat) (cs : List (List Int)) (w : World) (hn : cs.length = n) (hc : Cls w a cs) :
    Calls Try.prog 10 #[.agg #[.int .i64 vars, .slice a n cap]] w fun e w' => e = .returned (.int .i64 (Cnf.right vars cs)) ∧ Below w.heap.size w w' := by
  unfold Cnf.right
  by_cases h1 : vars < 0 ∨ 1048576 < vars
  · rw [if_pos h1]; exact right10_arg vars a n cap w h1
  · rw [if_neg h1, hn]
    by_cases h2 : 1048576 < n
    · rw [if_pos h2]; exact right10_limit vars a n cap w (by omega) (by omega) h2
    · rw [if_neg h2]; exact right10_scan vars a n cap cs w (by omega) (by omega) (by omega) hn hc
theorem right11 (vars : Int) (a : Option Addr) (n cap : Nat) (cs : List (List Int)) (w : World) (hn : cs.length = n) (hc : Cls w a cs) :
    Calls Try.prog 11 #[.agg #[.int .i64 vars, .slice a n cap]] w fun e w' => e = .returned (.int .i64 (Cnf.right vars cs)) ∧ Below w.heap.size w w' := by
  unfold Cnf.right
  by_cases h1 : vars < 0 ∨ 1048576 < vars
  · rw [if_pos h1]; exact right11_arg vars a n cap w h1
  · rw [if_neg h1, hn]
    by_cases h2 : 1048576 < n
    · rw [if_pos h2]; exact right11_limit vars a n cap w (by omega) (by omega) h2
    · rw [if_neg h2]; exact right11_scan vars a n cap cs w (by omega) (by omega) (by omega) hn hc

set_option maxHeartbeats 4000000 in
set_option maxRecDepth 100000 in
theorem rights3 (vars : Int) (a am : Option Addr) (n cap nm capm : Nat) (cs : List (List Int)) (m : List Bool) (w : World) (hn : cs.length = n) (hN : n ≤ 8796093022208) (hnm : m.length = nm) (hc : Cls w a cs) (hm : Bools w am m) :
    Calls Try.prog 3 #[.agg #[.int .i64 vars, .slice a n cap], .slice am nm capm] w fun e w' => e = .returned (.bool true) ∧ Below w.heap.size w w' := by
  have HC := hid hc
  have HM := hid hm
  have HN := hid hn
  have HNM := hid hnm
  clear hc hm hn hnm
  go_enter Try.func3, Try.ntmps3
  go_wp2_with fail
  refine (size9 vars a n cap cs _ HN.out hN (HC.out.below (below_box _ _))).mono ?_
  rintro e w1 ⟨s, rfl, hs, hb⟩
  have HS := hid hs
  have HB := hid ((below_box w _).trans (hb.mono (by simp)))
  have k0 : w1.cell? ⟨w.heap.size, 0, none⟩ = some (.int .i64 vars) := by rw [hb.cell (p := ⟨w.heap.size, 0, none⟩) (by simp)]; simp
  have k1 : w1.cell? ⟨w.heap.size, 1, none⟩ = some (.slice a n cap) := by rw [hb.cell (p := ⟨w.heap.size, 1, none⟩) (by simp)]; simp
  clear hs hb
  by_cases h1 : (3000 : Int) < s
  · go_wp2_with fail
    go_ret
    exact ⟨rfl, HB.out⟩
  by_cases h2 : (3000 : Int) < (nm : Int)
  · go_wp2_with fail
    go_ret
    exact ⟨rfl, HB.out⟩
  have hs2 := HS.out (by omega)
  have hb3 : ∀ c ∈ cs, c.length ≤ 1099511627776 := by
    intro c hc
    have := List.Sublist.length_le (List.sublist_flatten_of_mem hc)
    omega
  have HC1 := hid (HC.out.below HB.out)
  have HM1 := hid (HM.out.below HB.out)
  have c10 : Hid (∀ d os, Calls Try.prog 10 #[.agg #[.int .i64 vars, .slice a n cap]] (grow (redrawn w1 d) os) fun e w'' => e = .returned (.int .i64 (Cnf.right vars cs)) ∧ ∃ p : Regrown, w'' = grow (redrawn w1 p.d) p.os) := fun d os => Calls.regrown_of (right10 vars a n cap cs _ HN.out (HC1.out.below (below_regrown w1 d os)))
  have c11 : Hid (∀ d os, Calls Try.prog 11 #[.agg #[.int .i64 vars, .slice a n cap]] (grow (redrawn w1 d) os) fun e w'' => e = .returned (.int .i64 (Cnf.right vars cs)) ∧ ∃ p : Regrown, w'' = grow (redrawn w1 p.d) p.os) := fun d os => Calls.regrown_of (right11 vars a n cap cs _ HN.out (HC1.out.below (below_regrown w1 d os)))
  have c12 : Hid (∀ d os, Calls Try.prog 12 #[.agg #[.int .i64 vars, .slice a n cap], .slice am nm capm] (grow (redrawn w1 d) os) fun e w'' => e = .returned (.bool (Cnf.holds cs m)) ∧ ∃ p : Regrown, w'' = grow (redrawn w1 p.d) p.os) := fun d os => Calls.regrown_of (holds12 vars a am n cap nm capm cs m _ HN.out hN HNM.out (by omega) hb3 (HC1.out.below (below_regrown w1 d os)) (HM1.out.below (below_regrown w1 d os)))
  have c13 : Hid (∀ d os, Calls Try.prog 13 #[.agg #[.int .i64 vars, .slice a n cap], .slice am nm capm] (grow (redrawn w1 d) os) fun e w'' => e = .returned (.bool (Cnf.holds cs m)) ∧ ∃ p : Regrown, w'' = grow (redrawn w1 p.d) p.os) := fun d os => Calls.regrown_of (holds13 vars a am n cap nm capm cs m _ HN.out hN HNM.out (by omega) hb3 (HC1.out.below (below_regrown w1 d os)) (HM1.out.below (below_regrown w1 d os)))
  have c14 : Hid (∀ d os, Calls Try.prog 14 #[] (grow (redrawn w1 d) os) fun e w'' => e = .returned (.bool true) ∧ ∃ p : Regrown, w'' = grow (redrawn w1 p.d) p.os) := fun d os => Calls.regrown_of (works14 _)
  have g0 := cell_regrown k0
  have g1 := cell_regrown k1
  clear k0 k1 hb3 hs2 HC HM HC1 HM1 HS
  generalize Cnf.right vars cs = r at *
  generalize Cnf.holds cs m = h at *
  have hh : (h == h) = true := by cases h <;> rfl
  have hr : (r == r) = true := by simp
  go_wp2_with fail
  refine wp_region_quiet_below (by kernel_rfl) (by kernel_rfl) ?_
  repeat (quiet_step (first | exact c10.out _ _ | exact c11.out _ _ | exact c12.out _ _ | exact c13.out _ _ | exact c14.out _ _))
  refine wpQuiet_nil ?_
  intro _ hw'
  obtain ⟨⟨dq, osq⟩, hw''⟩ := hw'
  subst hw''
  go_wp2
  go_ret
  exact ⟨rfl, HB.out.trans ((below_regrown w1 dq osq).mono HB.out.size)⟩

end Go.Proofs.Ytccbcijkahnkkaa
