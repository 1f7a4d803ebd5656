/- The first model and how many there are, by the document's own functions. -/
import Derived.Test.YtccncojidkdddaaRefModel
namespace Cnf
theorem scan_zero (vars : Int) (ls : List Int) : ∀ c, scan vars c ls = 0 → c ≤ 16777216 → c + ls.length ≤ 16777216 ∧ ∀ l ∈ ls, 1 ≤ vr l ∧ vr l ≤ vars := by
  induction ls with
  | nil => intro c _ h; exact ⟨by simpa using h, fun l hl => (by cases hl)⟩
  | cons l ls ih =>
    intro c h hc
    by_cases h1 : 16777216 < c + 1
    · rw [scan_limit vars c l ls h1] at h; cases h
    · by_cases h2 : vr l < 1 ∨ vars < vr l
      · rw [scan_lit vars c l ls h1 h2] at h; cases h
      · rw [scan_on vars c l ls h1 h2] at h
        obtain ⟨q1, q2⟩ := ih (c + 1) h (by omega)
        refine ⟨by simp; omega, fun x hx => ?_⟩
        rcases List.mem_cons.1 hx with rfl | hx
        · omega
        · exact q2 x hx
end Cnf
namespace Tru
theorem taken_zero (vars : Int) (cs : List (List Int)) (h : taken vars cs = 0) : ∃ u : Nat, vars = u ∧ u ≤ 16 ∧ cs.length ≤ 1048576 ∧ cs.flatten.length ≤ 16777216 ∧ ∀ c ∈ cs, ∀ l ∈ c, 1 ≤ Cnf.vr l ∧ Cnf.vr l ≤ u := by
  unfold taken at h
  by_cases hr : Cnf.right vars cs = 0
  · rw [if_pos hr] at h
    by_cases h16 : 16 < vars
    · rw [if_pos h16] at h; cases h
    · unfold Cnf.right at hr
      split at hr
      · cases hr
      · split at hr
        · cases hr
        · obtain ⟨q1, q2⟩ := Cnf.scan_zero vars cs.flatten 0 hr (by decide)
          refine ⟨vars.toNat, by omega, by omega, by omega, by omega, fun c hc l hl => ?_⟩
          have := q2 l (List.mem_flatten.2 ⟨c, hc, hl⟩)
          omega
  · rw [if_neg hr] at h; exact absurd h hr
def sat (cs : List (List Int)) (u k : Nat) : Bool := Cnf.holds cs (model u k)
/-- How many of the first j models make the clauses true. -/
def count (cs : List (List Int)) (u : Nat) : Nat → Nat
  | 0 => 0
  | j + 1 => count cs u j + (if sat cs u j then 1 else 0)
theorem count_le (cs : List (List Int)) (u j : Nat) : count cs u j ≤ j := by
  induction j with
  | zero => exact Nat.le_refl _
  | succ j ih => rw [count]; split <;> omega
end Tru
namespace Go.Proofs.Ytccncojidkdddaa
open Go.RowKit
set_option linter.unusedVariables false

/-- The first model, told; or that there is none. -/
def FindOut (u : Nat) (cs : List (List Int)) (e : Ending) (w : World) : Prop :=
  (∃ k a cap, k < 2 ^ u ∧ Tru.sat cs u k = true ∧ (∀ j, j < k → Tru.sat cs u j = false) ∧ e = .returned (.tuple #[.slice a u cap, .bool true, .int .i64 0]) ∧ Bools w a (Tru.model u k)) ∨
    ((∀ j, j < 2 ^ u → Tru.sat cs u j = false) ∧ e = .returned (.tuple #[.slice none 0 0, .bool false, .int .i64 0]))
theorem pow16 (u : Nat) (h : u ≤ 16) : wrap64 ((2 : Int) ^ min u 64) = ((2 ^ u : Nat) : Int) ∧ 2 ^ u ≤ 65536 := by
  have h2 : 2 ^ u ≤ 2 ^ 16 := Nat.pow_le_pow_right (by decide) h
  have e : ((2 : Int) ^ u) = ((2 ^ u : Nat) : Int) := by simp
  rw [Nat.min_eq_left (by omega), e]
  unfold wrap64
  generalize 2 ^ u = x at h2
  constructor <;> omega
theorem clause_bnd {w : World} {a : Option Addr} {cs : List (List Int)} (hl : cs.flatten.length ≤ 16777216) : ∀ c ∈ cs, c.length ≤ 1099511627776 := by
  intro c hc
  have : c.length ≤ cs.flatten.length := by
    clear hl
    induction cs with
    | nil => cases hc
    | cons d cs ih =>
      rw [List.flatten_cons, List.length_append]
      rcases List.mem_cons.1 hc with rfl | h
      · omega
      · have := ih h; omega
  omega

set_option maxHeartbeats 2000000 in
theorem find9_err (vars : Int) (a : Option Addr) (n cap : Nat) (cs : List (List Int)) (w : World) (hn : cs.length = n) (hc : Cls w a cs) (ht : ¬ Tru.taken vars cs = 0) :
    Calls Try.prog 9 #[.agg #[.int .i64 vars, .slice a n cap]] w fun e w' => e = .returned (.tuple #[.slice none 0 0, .bool false, .int .i64 (Tru.taken vars cs)]) ∧ Below w.heap.size w w' := by
  have C := hid (taken24 vars a n cap cs (w.alloc (.cells #[.int .i64 vars, .slice a n cap] 24)) hn (hc.below (below_box _ _)))
  generalize Tru.taken vars cs = t at ht C
  clear hc hn
  go_enter Try.func9, Try.ntmps9
  go_wp2_with (go_at_call 24; refine C.out.mono ?_; clear C; rintro e W2 ⟨rfl, hb⟩; have far := hid (show Far w (.int .i64 vars) (.slice a n cap) W2 from hb); clear hb)
  refine bodyPost_ret (results_tmp3 rfl _ _ _) rfl ?_
  exact ⟨rfl, far.out.below⟩

set_option maxRecDepth 100000 in
set_option maxHeartbeats 4000000 in
theorem find9 (u : Nat) (a : Option Addr) (n cap : Nat) (cs : List (List Int)) (w : World) (hn : cs.length = n) (hc : Cls w a cs) (ht : Tru.taken u cs = 0) (hu : u ≤ 16) (hN : n ≤ 1048576) (hL : cs.flatten.length ≤ 16777216) :
    Calls Try.prog 9 #[.agg #[.int .i64 u, .slice a n cap]] w fun e w' => FindOut u cs e w' ∧ Below w.heap.size w w' := by
  have C := hid (taken24 u a n cap cs (w.alloc (.cells #[.int .i64 u, .slice a n cap] 24)) hn (hc.below (below_box _ _)))
  rw [ht] at C
  obtain ⟨hpw, hp2⟩ := pow16 u hu
  have HL := hid (clause_bnd (w := w) (a := a) hL)
  have HC := hid hc
  have HN := hid hn
  have HNN := hid hN
  have HU := hid hu
  have hfd : ∀ e W, FindOut u cs e W = FindOut u cs e W := fun _ _ => rfl
  generalize hP : 2 ^ u = P at hpw hp2
  have HP := hid hP
  clear hc hn ht hN hL hu hfd hP
  go_enter Try.func9, Try.ntmps9
  go_wp2_with (go_at_call 24; refine C.out.mono ?_; clear C; rintro e W2 ⟨rfl, hb⟩; have far := hid (show Far w (.int .i64 u) (.slice a n cap) W2 from hb); clear hb)
  go_loopw [6] (fun i wr => ∃ j : Nat, j ≤ P ∧ i = .int .i64 j ∧ Hid (∀ t, t < j → Tru.sat cs u t = false) ∧ Hid (Far w (.int .i64 u) (.slice a n cap) wr)) (fun i _ => P - (intOf i).toNat)
  case atStart => exact ⟨0, Nat.zero_le _, rfl, hid (fun t ht => absurd ht (Nat.not_lt_zero t)), far⟩
  case round =>
    clear far
    obtain ⟨j, hj, rfl, HS, far⟩ := hrel
    have x0 := far.out.c0
    have x1 := far.out.c1
    by_cases hlt : j < P
    · have hlt' : (j : Int) < P := by omega
      have C25 := hid (model25 j u wr (by omega) HU.out)
      cases hs : Tru.sat cs u j
      · have HSJ := hid hs
        go_wp2_with (first
          | (go_at_call 25; refine C25.out.mono ?_; clear C25; rintro e W4 ⟨⟨a4, cap4, rfl, hb4⟩, hw4⟩
             have far4 := far.out.on hw4
             have y0 := far4.c0
             have y1 := far4.c1
             have C26 := hid (holds26 u a a4 n cap u cap4 cs (Tru.model u j) W4 HN.out (by have := HNN.out; omega) (Tru.model_len u j) (by have := HU.out; omega) HL.out (HC.out.below far4.below) hb4)
             rw [show Cnf.holds cs (Tru.model u j) = false from hs] at C26
             replace far4 := hid far4
             clear hb4 hw4)
          | (go_at_call 26; refine C26.out.mono ?_; clear C26; rintro e W5 ⟨rfl, hw5⟩
             have far5 := hid (far4.out.on hw5)
             clear hw5))
        go_roundw
        case rel =>
          refine ⟨j + 1, by omega, by go_num, hid (fun t ht => ?_), far5⟩
          rcases Nat.lt_succ_iff_lt_or_eq.1 ht with h | rfl
          · exact HS.out t h
          · exact HSJ.out
        case measure => simp [intOf]; omega
      · have HSJ := hid hs
        go_wp2_with (first
          | (go_at_call 25; refine C25.out.mono ?_; clear C25; rintro e W4 ⟨⟨a4, cap4, rfl, hb4⟩, hw4⟩
             have far4 := far.out.on hw4
             have y0 := far4.c0
             have y1 := far4.c1
             have C26 := hid (holds26 u a a4 n cap u cap4 cs (Tru.model u j) W4 HN.out (by have := HNN.out; omega) (Tru.model_len u j) (by have := HU.out; omega) HL.out (HC.out.below far4.below) hb4)
             rw [show Cnf.holds cs (Tru.model u j) = true from hs] at C26
             replace far4 := hid far4
             replace hb4 := hid hb4
             clear hw4)
          | (go_at_call 26; refine C26.out.mono ?_; clear C26; rintro e W5 ⟨rfl, hw5⟩
             have far5 := hid (far4.out.on hw5)
             have HB5 := hid (hb4.out.below hw5)
             clear hw5))
        refine bodyPost_ret (results_tmp3 rfl _ _ _) rfl ?_
        exact ⟨.inl ⟨j, a4, cap4, by rw [HP.out]; exact hlt, HSJ.out, HS.out, rfl, HB5.out⟩, far5.out.below⟩
    · have hge : ¬ (j : Int) < P := by omega
      obtain rfl : j = P := by omega
      go_wp2
      refine bodyPost_ret (results_tmp3 rfl _ _ _) rfl ?_
      exact ⟨.inr ⟨by rw [HP.out]; exact HS.out, rfl⟩, far.out.below⟩
end Go.Proofs.Ytccncojidkdddaa
