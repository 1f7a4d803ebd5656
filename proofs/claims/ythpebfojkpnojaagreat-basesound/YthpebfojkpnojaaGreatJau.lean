/- The k-th model, by the program. -/
import Derived.Test.YthpebfojkpnojaaGreatJat
import Derived.Laws.MakeOwn
import Derived.Deep.AppendLies
import Derived.OwnWalk
import Derived.Test.YthpebfojkpnojaaGreatJar
import Derived.Shelf.RegionOpen
import Derived.OwnWalkIn
import Derived.TacticsInMore
import Derived.LoopNIn
import Derived.LoopIn
/- The k-th model, by the program. -/
namespace Go.Proofs.YthpebfojkpnojaaGreat.Tr
open Go.RowKit
set_option linter.unusedVariables false

theorem info4 : (Tryz.prog.info? 4).map (fun i => (i.zero, i.size, i.bytes)) = some (some (.bool false), 1, 1) := by kernel_rfl

theorem bit_at (k j : Nat) (hk : k < 65536) : (bits .and .i64 ((k : Int) / 2 ^ j) 1 == 1) = k.testBit j := by
  have e : ((k : Int) / 2 ^ j) = ((k / 2 ^ j : Nat) : Int) := by simp
  have hl : k / 2 ^ j < 2 ^ 63 := Nat.lt_of_le_of_lt (Nat.div_le_self _ _) (by omega)
  rw [e, show (1 : Int) = ((1 : Nat) : Int) from rfl, (bits_nat .i64 63 (by decide) (fun n h0 h1 => by rw [IntKind.wrap_i64]; omega) (k / 2 ^ j) 1 hl (by decide)).1, Nat.testBit_eq_decide_div_mod_eq, Nat.and_one_is_mod]
  generalize k / 2 ^ j = x
  rw [Bool.eq_iff_iff, beq_iff_eq, decide_eq_true_eq]
  omega
/-- A model in a row, told. -/
def ModelOut (n k : Nat) (e : Ending) (w : World) : Prop := ∃ a cap, e = .returned (.slice a n cap) ∧ Bools w a (Tru.model n k)

set_option maxRecDepth 100000 in
set_option maxHeartbeats 4000000 in
theorem numbered23 (k n : Nat) (w : World) (hk : k < 65536) (hn : n ≤ 16) :
    Calls Tryz.prog 81 #[.int .i64 k, .int .i64 n] w fun e w' => ModelOut n k e w' ∧ Below w.heap.size w w' := by
  have hn0 : (0 : Int) ≤ n := by omega
  have hn1 : (n : Int) ≤ 16 := by omega
  obtain ⟨i0, hi, hz⟩ := Option.map_eq_some_iff.1 info4
  simp only [Prod.mk.injEq] at hz
  have hmk := run_makeSlice (P := Tryz.prog) w 62 4 i0 (.bool false) Tryz.underlying62 hi hz.1 .i64 .i64 (n : Int) (n : Int) (by omega) (Int.le_refl _) (by rw [hz.2.1]; omega) (by rw [hz.2.2]; omega) (by omega)
  rw [hz.2.1, Nat.mul_one, Int.toNat_natCast] at hmk
  obtain ⟨A0, hA0⟩ : ∃ A0, madeCells (Value.bool false).cells n = A0 := ⟨_, rfl⟩
  have hsz : A0.size = n := by rw [← hA0]; exact size_madeCells _ _
  rw [hA0] at hmk
  obtain ⟨W1, hW1⟩ : ∃ W1, w.alloc (.cells A0 4) = W1 := ⟨_, rfl⟩
  have hh : W1.heap[w.heap.size]? = some (.cells A0 4 (0, 0)) := by rw [← hW1]; exact World.alloc_heap_new w _
  have hB : Below w.heap.size w W1 := by rw [← hW1]; exact below_box _ _
  rw [hW1] at hmk
  have HH := hid hh
  have HB := hid hB
  have HK := hid hk
  clear hi hz hA0 hW1 hh hB hk hn1
  go_enter Tryz.func81, Tryz.ntmps81
  go_wp2
  go_loopw [11] (fun i wr => ∃ (j : Nat) (A : Array Value), j ≤ n ∧ i = .int .i64 j ∧ Hid (wr.heap[w.heap.size]? = some (.cells A 4 (0, 0))) ∧ A.size = n ∧ Hid (∀ t, t < j → A[t]? = some (.bool (k.testBit t))) ∧ Hid (Below w.heap.size w wr)) (fun i _ => n - (intOf i).toNat)
  case atStart => exact ⟨0, A0, Nat.zero_le _, rfl, HH, hsz, hid (fun t ht => absurd ht (Nat.not_lt_zero t)), HB⟩
  case round =>
    clear HH HB
    obtain ⟨j, A, hj, rfl, HH, hsA, HA, HB⟩ := hrel
    by_cases hlt : j < n
    · have hlt' : (j : Int) < n := by omega
      have hj0 : (0 : Int) ≤ j := by omega
      have x0 := row_cell HH.out j
      rw [Array.getElem?_eq_getElem (by omega)] at x0
      generalize A[j] = old at x0
      have f0 := row_frozen HH.out j
      have hbt := bit_at k j HK.out
      go_wp2
      go_roundw
      case rel =>
        refine ⟨j + 1, A.setIfInBounds j (.bool (k.testBit j)), by omega, by go_num, hid (heap_set_row HH.out _), by simp [hsA], hid (fun t ht => ?_), hid (HB.out.setCell (p := ⟨w.heap.size, j, none⟩) (Nat.le_refl _) _)⟩
        by_cases htj : t = j
        · subst htj; rw [Array.getElem?_setIfInBounds_self_of_lt (by omega)]
        · rw [Array.getElem?_setIfInBounds_ne (by omega)]; exact HA.out t (by omega)
      case measure => simp [intOf]; omega
    · have hge : ¬ (j : Int) < n := by omega
      obtain rfl : j = n := by omega
      go_wp2
      go_ret
      refine ⟨⟨_, _, rfl, ?_⟩, HB.out⟩
      rcases Nat.eq_zero_or_pos j with h0 | hp
      · left; subst h0; rfl
      · right
        refine ⟨w.heap.size, 0, rfl, (Array.getElem?_eq_some_iff.1 HH.out).1, fun t ht => ?_⟩
        rw [Tru.model_len] at ht
        rw [Nat.zero_add, row_cell HH.out t, HA.out t ht, Tru.model_get j k t ht]
end Go.Proofs.YthpebfojkpnojaaGreat.Tr

/- The k-th model, by the document's own function. -/
namespace Tru
theorem model_on (j k : Nat) : model (j + 1) k = model j k ++ [k.testBit j] := by
  unfold model
  rw [List.range_succ, List.map_append]
  rfl
end Tru
namespace Go.Proofs.YthpebfojkpnojaaGreat.Tr
open Go.RowKit
set_option linter.unusedVariables false

theorem own_bools {base : Nat} {W : World} {a : Option Addr} {cap n : Nat} {bs : List Bool} (hn : bs.length = n) (h : W.ownsRow base 4 1 (.slice a n cap) n (bs.map Value.bool)) : Bools W a bs := by
  rcases h.2 with ⟨e, h0⟩ | ⟨g, cap', cur, e, h1, h2, h3, h4, h5, h6⟩
  · left; apply List.length_eq_zero_iff.1; omega
  · injection e with e1 e2 e3
    subst e1
    right
    refine ⟨g, 0, rfl, (Array.getElem?_eq_some_iff.1 h2).1, fun j hj => ?_⟩
    rw [Nat.zero_add, row_cell h2 j, ← Array.getElem?_toList]
    have := congrArg (fun l : List Value => l[j]?) h6
    simp only [Nat.mul_one] at this
    rw [List.getElem?_take_of_lt (by omega)] at this
    rw [this]
    simp [List.getD, List.getElem?_eq_getElem hj]
theorem news4 {X : World} {u : Value} : ∀ j v, [u][j]? = some v → (X.alloc (.cells #[u] 4)).cell? ((⟨X.heap.size, 0, none⟩ : Addr).add j) = some v :=
  World.news_of_block (World.alloc_heap_new X (.cells #[u] 4))

end Go.Proofs.YthpebfojkpnojaaGreat.Tr

/- The first model and how many there are, by the document's own functions. -/
namespace Cnt
theorem scan_zero (vars : Int) (ls : List Int) : ∀ c, scan vars c ls = 0 → c ≤ 16777216 → c + ls.length ≤ 16777216 ∧ ∀ l ∈ ls, 1 ≤ vr l ∧ vr l ≤ vars := by
  induction ls with
  | nil => intro c _ h; exact ⟨by simpa using h, fun l hl => (by cases hl)⟩
  | cons l ls ih =>
    intro c h hc
    by_cases h1 : 16777216 < c + 1
    · rw [scan_limit vars c l ls h1] at h; cases h
    · by_cases h2 : vr l < 1 ∨ vars < vr l
      · rw [scan_lit vars c l ls h1 h2] at h; cases h
      · rw [scan_on vars c l ls h1 h2] at h
        obtain ⟨q1, q2⟩ := ih (c + 1) h (by omega)
        refine ⟨by simp; omega, fun x hx => ?_⟩
        rcases List.mem_cons.1 hx with rfl | hx
        · omega
        · exact q2 x hx
end Cnt
namespace Tru
theorem taken_zero (vars : Int) (cs : List (List Int)) (h : taken vars cs = 0) : ∃ u : Nat, vars = u ∧ u ≤ 16 ∧ cs.length ≤ 1048576 ∧ cs.flatten.length ≤ 16777216 ∧ ∀ c ∈ cs, ∀ l ∈ c, 1 ≤ Cnt.vr l ∧ Cnt.vr l ≤ u := by
  unfold taken at h
  by_cases hr : Cnt.right vars cs = 0
  · rw [if_pos hr] at h
    by_cases h16 : 16 < vars
    · rw [if_pos h16] at h; cases h
    · unfold Cnt.right at hr
      split at hr
      · cases hr
      · split at hr
        · cases hr
        · obtain ⟨q1, q2⟩ := Cnt.scan_zero vars cs.flatten 0 hr (by decide)
          refine ⟨vars.toNat, by omega, by omega, by omega, by omega, fun c hc l hl => ?_⟩
          have := q2 l (List.mem_flatten.2 ⟨c, hc, hl⟩)
          omega
  · rw [if_neg hr] at h; exact absurd h hr
def sat (cs : List (List Int)) (u k : Nat) : Bool := Cnt.holds cs (model u k)
/-- How many of the first j models make the clauses true. -/
def count (cs : List (List Int)) (u : Nat) : Nat → Nat
  | 0 => 0
  | j + 1 => count cs u j + (if sat cs u j then 1 else 0)
theorem count_le (cs : List (List Int)) (u j : Nat) : count cs u j ≤ j := by
  induction j with
  | zero => exact Nat.le_refl _
  | succ j ih => rw [count]; split <;> omega
end Tru
namespace Go.Proofs.YthpebfojkpnojaaGreat.Tr
open Go.RowKit
set_option linter.unusedVariables false

/-- The first model, told; or that there is none. -/
def FindOut (u : Nat) (cs : List (List Int)) (e : Ending) (w : World) : Prop :=
  (∃ k a cap, k < 2 ^ u ∧ Tru.sat cs u k = true ∧ (∀ j, j < k → Tru.sat cs u j = false) ∧ e = .returned (.tuple #[.slice a u cap, .bool true, .int .i64 0]) ∧ Bools w a (Tru.model u k)) ∨
    ((∀ j, j < 2 ^ u → Tru.sat cs u j = false) ∧ e = .returned (.tuple #[.slice none 0 0, .bool false, .int .i64 0]))
theorem pow16 (u : Nat) (h : u ≤ 16) : wrap64 ((2 : Int) ^ min u 64) = ((2 ^ u : Nat) : Int) ∧ 2 ^ u ≤ 65536 := by
  have h2 : 2 ^ u ≤ 2 ^ 16 := Nat.pow_le_pow_right (by decide) h
  have e : ((2 : Int) ^ u) = ((2 ^ u : Nat) : Int) := by simp
  rw [Nat.min_eq_left (by omega), e]
  unfold wrap64
  generalize 2 ^ u = x at h2
  constructor <;> omega
theorem clause_bnd {w : World} {a : Option Addr} {cs : List (List Int)} (hl : cs.flatten.length ≤ 16777216) : ∀ c ∈ cs, c.length ≤ 1099511627776 := by
  intro c hc
  have : c.length ≤ cs.flatten.length := by
    clear hl
    induction cs with
    | nil => cases hc
    | cons d cs ih =>
      rw [List.flatten_cons, List.length_append]
      rcases List.mem_cons.1 hc with rfl | h
      · omega
      · have := ih h; omega
  omega

end Go.Proofs.YthpebfojkpnojaaGreat.Tr

/- The iterator over models: it asks for each number, and hands out those that hold. -/
namespace Go.Proofs.YthpebfojkpnojaaGreat.Tr
open Go.RowKit
set_option linter.unusedVariables false
set_option linter.unusedSimpArgs false
attribute [local go_sem] Oper.semAt_some

set_option maxRecDepth 100000 in
set_option maxHeartbeats 4000000 in
theorem models35 (C T u bv ba : Nat) (yes : Nat → Bool) (S : World → Prop) (hu : u ≤ 16)
    (hbv : ∀ W, S W → Boxed W bv 3 (.int .i64 u)) (hba : ∀ W, S W → Boxed W ba 127 (.func (.func 75) #[.pointer (some ⟨T, 0, none⟩)] #[]))
    (hask : ∀ (k : Nat) (W : World), k < 2 ^ u → S W → Calls Tryz.prog 75 #[.pointer (some ⟨T, 0, none⟩), .int .i64 k] W fun e w' => e = .returned (.bool (yes k)) ∧ S w' ∧ Ask C W w') :
    IterU Tryz.prog 101 #[.pointer (some ⟨bv, 0, none⟩), .pointer (some ⟨ba, 0, none⟩)] C (2 ^ u) yes S := by
  intro l W1 J Jx hS hJ hskip hY h0
  obtain ⟨hpw, hp2⟩ := pow16 u hu
  rw [show min u 64 = u by omega] at hpw
  generalize hP : 2 ^ u = P at hpw hp2 hskip hY hask ⊢
  clear hP
  have HJ := hid hJ
  have HSK := hid hskip
  have HY := hid hY
  have HAsk := hid hask
  have HBV := hid hbv
  have HBA := hid hba
  have HS := hid hS
  have c1 := (hbv W1 hS).cell
  clear hJ hskip hY hask hbv hba hS
  have hu0 : ¬ ((u : Int) < 0) := by omega
  refine callsIn_wide (n := 9) |>.1 ?_
  refine callsIn_of_wp Tryz.func101 rfl trivial ?_ rfl
  simp only [Tryz.ntmps101, List.size_toArray, List.length_cons, List.length_nil, Nat.reduceAdd, Nat.reduceSub, Array.replicate_succ, Array.replicate_zero, List.push_toArray, List.append_toArray, List.nil_append, List.cons_append]
  gi_wp2
  clear hpw c1
  gi_loopw [7] (fun i wr => ∃ k : Nat, i = .int .i64 k ∧ k ≤ P ∧ Hid (S wr) ∧ Hid (J k wr)) (fun i _ => P - (intOf i).toNat)
  case atStart => exact ⟨0, rfl, Nat.zero_le _, HS, hid h0⟩
  case round =>
    obtain ⟨k, rfl, hk, hs, hj⟩ := hrel
    by_cases hlt : k < P
    · have hlt' : (k : Int) < P := by omega
      have c2 := (HBA.out wr hs.out).cell
      cases hyes : yes k
      · gi_wp2_with (refine ⟨trivial, ?_⟩; gi_at_call 75; refine (callsIn_wide.2 (HAsk.out k wr hlt hs.out)).mono ?_; rintro e w9 ⟨rfl, hs9, ha9⟩; have HS9 := hid hs9; have HA9 := hid ha9; clear hs9 ha9; rw [hyes])
        refine ⟨fun _ h => (by cases h), ?_⟩
        gi_wp2
        go_roundw
        case rel => exact ⟨k + 1, by go_num, by omega, HS9, hid (HSK.out k _ hlt hyes (HJ.out _ _ _ hj.out HA9.out))⟩
        case measure => simp [intOf]; omega
      · gi_wp2_with (refine ⟨trivial, ?_⟩; gi_at_call 75; refine (callsIn_wide.2 (HAsk.out k wr hlt hs.out)).mono ?_; rintro e w9 ⟨rfl, hs9, ha9⟩; have HS9 := hid hs9; have HA9 := hid ha9; clear hs9 ha9; rw [hyes]; obtain ⟨fn, tmps, assign, body, hy2, hR⟩ := HY.out k w9 hlt hyes (HJ.out _ _ _ hj.out HA9.out) HS9.out 8)
        refine hR.mono ?_
        rintro e3 W3 (⟨rfl, hJ3, hk3⟩ | ⟨rfl, hJx3⟩)
        · have HS3 := hid hk3
          have HJ3 := hid hJ3
          clear hy2 hR hk3 hJ3
          gi_wp2
          go_roundw
          case rel => exact ⟨k + 1, by go_num, by omega, HS3, HJ3⟩
          case measure => simp [intOf]; omega
        · have HJx3 := hid hJx3
          clear hy2 hR hJx3
          gi_wp2
          refine bodyPost_ret (results_none rfl _ _ _) rfl ?_
          exact ⟨⟨_, rfl⟩, .inr HJx3.out⟩
    · have hge : ¬ (k : Int) < P := by omega
      obtain rfl : k = P := by omega
      gi_wp2
      go_end0
      exact ⟨⟨_, rfl⟩, .inl hj.out⟩
end Go.Proofs.YthpebfojkpnojaaGreat.Tr

