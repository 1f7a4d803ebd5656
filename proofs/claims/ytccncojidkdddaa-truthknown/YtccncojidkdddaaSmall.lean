/- How great a formula is, whether it is taken, whether two models are alike: stage 3's leaves. -/
import Derived.Test.YtccncojidkdddaaForm2
import Derived.Test.YtccncojidkdddaaMasks
import Derived.RangeFuncBox
namespace Tru
/-- Why a formula is not taken. -/
def taken (vars : Int) (cs : List (List Int)) : Int := if Cnf.right vars cs = 0 then (if 16 < vars then 3 else 0) else Cnf.right vars cs
end Tru
namespace Go.Proofs.Ytccncojidkdddaa
open Go.RowKit
set_option linter.unusedVariables false

theorem box_below (w : World) (o : Obj) {w' : World} (h : Below (w.alloc o).heap.size (w.alloc o) w') : Below w.heap.size w w' := (below_box w o).trans (h.mono (by simp))
theorem row_cell {W : World} {b : Nat} {cs : Array Value} {t : TypeId} {fr : Nat × Nat} (h : W.heap[b]? = some (.cells cs t fr)) (k : Nat) : W.cell? ⟨b, k, none⟩ = cs[k]? := by
  simp [World.cell?, h]

/-- A world in which the call's own box lies. -/
def Far (w : World) (v0 v1 : Value) (W : World) : Prop := Below (w.alloc (.cells #[v0, v1] 24)).heap.size (w.alloc (.cells #[v0, v1] 24)) W
theorem Far.below {w : World} {v0 v1 : Value} {W : World} (h : Far w v0 v1 W) : Below w.heap.size w W := box_below w _ h
theorem Far.on {w : World} {v0 v1 : Value} {W W' : World} (h : Far w v0 v1 W) (hb : Below W.heap.size W W') : Far w v0 v1 W' := Below.trans h (hb.mono (Below.size h))
theorem Far.c0 {w : World} {v0 v1 : Value} {W : World} (h : Far w v0 v1 W) : W.cell? ⟨w.heap.size, 0, none⟩ = some v0 := by
  have := row_cell (World.alloc_heap_new w (.cells #[v0, v1] 24)) 0
  exact (Below.cell h (p := ⟨w.heap.size, 0, none⟩) (by simp)).trans this
theorem Far.c1 {w : World} {v0 v1 : Value} {W : World} (h : Far w v0 v1 W) : W.cell? ⟨w.heap.size, 1, none⟩ = some v1 := by
  have := row_cell (World.alloc_heap_new w (.cells #[v0, v1] 24)) 1
  exact (Below.cell h (p := ⟨w.heap.size, 1, none⟩) (by simp)).trans this

/-- What small tells. -/
def SmallOut (vars : Int) (n : Nat) (cs : List (List Int)) (e : Ending) : Prop := ∃ b : Bool, e = .returned (.bool b) ∧ (b = true → n ≤ 60 ∧ cs.flatten.length ≤ 300 ∧ (vars ≤ 12 ∨ 16 < vars))

set_option maxHeartbeats 2000000 in
theorem small7 (vars : Int) (a : Option Addr) (n cap : Nat) (cs : List (List Int)) (w : World) (hn : cs.length = n) (hN : n ≤ 8796093022208) (hc : Cls w a cs) :
    Calls Try.prog 7 #[.agg #[.int .i64 vars, .slice a n cap]] w fun e w' => SmallOut vars n cs e ∧ Below w.heap.size w w' := by
  have HC := hid (hc.below (below_box w (.cells #[.int .i64 vars, .slice a n cap] 24)))
  have HN := hid hn
  clear hc hn
  go_enter Try.func7, Try.ntmps7
  go_wp2
  go_loop [3, 4] (fun s i => ∃ (k : Nat) (q : Nat), k ≤ n ∧ k ≤ 61 ∧ i = .int .i64 k ∧ s = .int .i64 q ∧ Hid (q = ((cs.take k).flatten).length) ∧ q ≤ 35184372088832 * k) (fun _ i => n - (intOf i).toNat)
  case atStart => exact ⟨0, 0, Nat.zero_le _, Nat.zero_le _, rfl, rfl, hid (by simp), Nat.zero_le _⟩
  case round =>
    obtain ⟨k, q, hk, hk2, rfl, rfl, HQ, hq2⟩ := hrel
    by_cases hlt : k < n
    · by_cases hs : (k : Int) ≤ 60
      · obtain ⟨b, off, a', cap', rfl, hbl, hcell, _, hln⟩ := HC.out.at (k := k) (by rw [HN.out]; exact hlt)
        have HF := hid (Cnf.flat_len cs k (by rw [HN.out]; exact hlt))
        generalize (cs.getD k []).length = m at hcell hln HF
        go_wp2
        go_round
        case rel => exact ⟨k + 1, q + m, by omega, by omega, by go_num, by go_num, hid (by have := HQ.out; have := HF.out; omega), by omega⟩
        case measure => simp [intOf]; omega
      · have hs' : ¬ (k : Int) ≤ 60 := hs
        have hn' : ¬ (n : Int) ≤ 60 := by omega
        go_wp2
        go_ret
        exact ⟨⟨false, rfl, fun h => (by cases h)⟩, below_box _ _⟩
    · have hlt' : ¬ (k : Int) < n := by omega
      have hq3 : q = cs.flatten.length := by
        have h := HQ.out
        rwa [List.take_of_length_le (by rw [HN.out]; omega)] at h
      have hn' : (n : Int) ≤ 60 ∨ ¬ (n : Int) ≤ 60 := by omega
      have HQ3 := hid hq3
      clear hq3 HQ
      by_cases h60 : (n : Int) ≤ 60
      · by_cases h300 : (q : Int) ≤ 300
        · by_cases h12 : vars ≤ 12
          · go_wp2
            go_ret
            exact ⟨⟨true, rfl, fun _ => ⟨by omega, by have := HQ3.out; omega, .inl h12⟩⟩, below_box _ _⟩
          · by_cases h16 : 16 < vars
            · go_wp2
              go_ret
              exact ⟨⟨true, rfl, fun _ => ⟨by omega, by have := HQ3.out; omega, .inr h16⟩⟩, below_box _ _⟩
            · go_wp2
              go_ret
              exact ⟨⟨false, rfl, fun h => (by cases h)⟩, below_box _ _⟩
        · go_wp2
          go_ret
          exact ⟨⟨false, rfl, fun h => (by cases h)⟩, below_box _ _⟩
      · go_wp2
        go_ret
        exact ⟨⟨false, rfl, fun h => (by cases h)⟩, below_box _ _⟩

set_option maxHeartbeats 2000000 in
theorem taken19 (vars : Int) (a : Option Addr) (n cap : Nat) (cs : List (List Int)) (w : World) (hn : cs.length = n) (hc : Cls w a cs) :
    Calls Try.prog 19 #[.agg #[.int .i64 vars, .slice a n cap]] w fun e w' => e = .returned (.int .i64 (Tru.taken vars cs)) ∧ Below w.heap.size w w' := by
  have C := hid (right34 vars a n cap cs (w.alloc (.cells #[.int .i64 vars, .slice a n cap] 24)) hn (hc.below (below_box _ _)))
  unfold Tru.taken
  generalize Cnf.right vars cs = r at C
  clear hc hn
  by_cases hr : r = 0
  · subst hr
    rw [if_pos rfl]
    by_cases h16 : 16 < vars
    · rw [if_pos h16]
      go_enter Try.func19, Try.ntmps19
      go_wp2_with (go_at_call 34; refine C.out.mono ?_; clear C; rintro e W2 ⟨rfl, hb⟩; have far := (show Far w (.int .i64 vars) (.slice a n cap) W2 from hb); have x0 := far.c0; replace far := hid far; clear hb)
      go_ret
      exact ⟨rfl, far.out.below⟩
    · rw [if_neg h16]
      go_enter Try.func19, Try.ntmps19
      go_wp2_with (go_at_call 34; refine C.out.mono ?_; clear C; rintro e W2 ⟨rfl, hb⟩; have far := (show Far w (.int .i64 vars) (.slice a n cap) W2 from hb); have x0 := far.c0; replace far := hid far; clear hb)
      go_ret
      exact ⟨rfl, far.out.below⟩
  · rw [if_neg hr]
    go_enter Try.func19, Try.ntmps19
    go_wp2_with (go_at_call 34; refine C.out.mono ?_; clear C; rintro e W2 ⟨rfl, hb⟩; have far := (show Far w (.int .i64 vars) (.slice a n cap) W2 from hb); have x0 := far.c0; replace far := hid far; clear hb)
    go_ret
    exact ⟨rfl, far.out.below⟩

set_option maxHeartbeats 2000000 in
theorem taken24 (vars : Int) (a : Option Addr) (n cap : Nat) (cs : List (List Int)) (w : World) (hn : cs.length = n) (hc : Cls w a cs) :
    Calls Try.prog 24 #[.agg #[.int .i64 vars, .slice a n cap]] w fun e w' => e = .returned (.int .i64 (Tru.taken vars cs)) ∧ Below w.heap.size w w' := by
  have C := hid (right43 vars a n cap cs (w.alloc (.cells #[.int .i64 vars, .slice a n cap] 24)) hn (hc.below (below_box _ _)))
  unfold Tru.taken
  generalize Cnf.right vars cs = r at C
  clear hc hn
  by_cases hr : r = 0
  · subst hr
    rw [if_pos rfl]
    by_cases h16 : 16 < vars
    · rw [if_pos h16]
      go_enter Try.func24, Try.ntmps24
      go_wp2_with (go_at_call 43; refine C.out.mono ?_; clear C; rintro e W2 ⟨rfl, hb⟩; have far := (show Far w (.int .i64 vars) (.slice a n cap) W2 from hb); have x0 := far.c0; replace far := hid far; clear hb)
      go_ret
      exact ⟨rfl, far.out.below⟩
    · rw [if_neg h16]
      go_enter Try.func24, Try.ntmps24
      go_wp2_with (go_at_call 43; refine C.out.mono ?_; clear C; rintro e W2 ⟨rfl, hb⟩; have far := (show Far w (.int .i64 vars) (.slice a n cap) W2 from hb); have x0 := far.c0; replace far := hid far; clear hb)
      go_ret
      exact ⟨rfl, far.out.below⟩
  · rw [if_neg hr]
    go_enter Try.func24, Try.ntmps24
    go_wp2_with (go_at_call 43; refine C.out.mono ?_; clear C; rintro e W2 ⟨rfl, hb⟩; have far := (show Far w (.int .i64 vars) (.slice a n cap) W2 from hb); have x0 := far.c0; replace far := hid far; clear hb)
    go_ret
    exact ⟨rfl, far.out.below⟩

set_option maxHeartbeats 1000000 in
theorem sameModel12 (a b : Option Addr) (n ca cb : Nat) (xs : List Bool) (w : World) (hn : xs.length = n) (hN : n ≤ 1099511627776) (hx : Bools w a xs) (hy : Bools w b xs) :
    Calls Try.prog 12 #[.slice a n ca, .slice b n cb] w fun e w' => e = .returned (.bool true) ∧ Drawn w w' := by
  have HX := hid hx
  have HY := hid hy
  have HN := hid hn
  clear hx hy hn
  go_enter Try.func12, Try.ntmps12
  go_wp2
  go_loopw [5] (fun i wr => ∃ k : Nat, k ≤ n ∧ i = .int .i64 k ∧ Drawn w wr) (fun i _ => n - (intOf i).toNat)
  case atStart => exact ⟨0, Nat.zero_le _, rfl, Drawn.refl _⟩
  case round =>
    obtain ⟨k, hk, rfl, HD⟩ := hrel
    by_cases hlt : k < n
    · obtain ⟨b1, o1, rfl, hc1⟩ := HX.out.at (k := k) (by rw [HN.out]; exact hlt)
      obtain ⟨b2, o2, rfl, hc2⟩ := HY.out.at (k := k) (by rw [HN.out]; exact hlt)
      rw [← HD.cell] at hc1 hc2
      have hi1 : (k : Int) < (n : Int) := by omega
      generalize xs.getD k false = x at hc1 hc2
      have hh : (x != x) = false := by simp
      go_wp2
      go_quiet (fail)
      go_wp2
      go_roundw
      case rel => exact ⟨k + 1, by omega, by go_num, HD.drewN _⟩
      case measure => simp [intOf]; omega
    · go_wp2
      go_ret
      exact ⟨rfl, HD⟩
end Go.Proofs.Ytccncojidkdddaa
