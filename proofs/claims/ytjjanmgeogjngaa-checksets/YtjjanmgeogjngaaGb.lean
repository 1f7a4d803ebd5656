/- Plain functions on lists of integers and of Booleans: what the document's words on literals, clauses and models say; nothing of the program. -/
import Init
import Derived.Test.YtjjanmgeogjngaaGa
import Derived.WalkKit
import Derived.Deep.QuietTactic
import Derived.BigQuiet
import Derived.RangeFuncBox
import Derived.Laws.BitsLemmas
import Derived.Deep.AppendLies
import Derived.OwnWalk
/- Plain functions on lists of integers and of Booleans: what the document's words on literals, clauses and models say; nothing of the program. -/
namespace Cnf

def vr (l : Int) : Int := if l < 0 then -l else l
def tr (l : Int) (m : List Bool) : Bool := decide (1 ≤ vr l) && (decide (vr l ≤ m.length) && (m.getD (vr l - 1).toNat false == decide (0 < l)))
def val (c : List Int) (m : List Bool) : Bool := c.any (fun l => tr l m)

theorem vr_nonneg (l : Int) : 0 ≤ vr l := by unfold vr; split <;> omega
theorem vr_le (l : Int) (h1 : -2147483648 ≤ l) (h2 : l ≤ 2147483647) : vr l ≤ 2147483648 := by unfold vr; split <;> omega


theorem take_snoc (xs : List Int) (k : Nat) (h : k < xs.length) : xs.take (k + 1) = xs.take k ++ [xs.getD k 0] := by
  rw [List.take_succ_eq_append_getElem h]; simp [List.getD, List.getElem?_eq_getElem h]
theorem getD_mem (xs : List Int) (k : Nat) (h : k < xs.length) : xs.getD k 0 ∈ xs := by simp [List.getD, List.getElem?_eq_getElem h]
theorem val_take (xs : List Int) (m : List Bool) (k : Nat) (h : k < xs.length) : val (xs.take (k + 1)) m = (val (xs.take k) m || tr (xs.getD k 0) m) := by
  rw [take_snoc xs k h]; simp [val]
theorem val_true (xs : List Int) (m : List Bool) (k : Nat) (h : k < xs.length) (ht : tr (xs.getD k 0) m = true) : val xs m = true := by
  simp only [val, List.any_eq_true]; exact ⟨_, getD_mem xs k h, ht⟩


/-! ### The order of literals -/
def cmp3 (x y : Int) : Int := if x < y then -1 else if y < x then 1 else 0
def cmpL (a b : Int) : Int := if vr a < vr b then -1 else if vr b < vr a then 1 else cmp3 a b
def LtL (a b : Int) : Prop := vr a < vr b ∨ (vr a = vr b ∧ a < b)

theorem cmpL_neg (a b : Int) : cmpL a b < 0 ↔ LtL a b := by
  unfold cmpL cmp3 LtL
  split
  · constructor <;> intro <;> omega
  · split
    · constructor <;> intro <;> omega
    · split
      · constructor <;> intro <;> omega
      · split <;> constructor <;> intro <;> omega
theorem cmpL_zero (a b : Int) : cmpL a b = 0 ↔ a = b := by
  unfold cmpL cmp3
  constructor
  · intro h
    split at h
    · omega
    · split at h
      · omega
      · split at h
        · omega
        · split at h <;> omega
  · intro h
    subst h
    simp
theorem LtL.irrefl (a : Int) : ¬ LtL a a := by unfold LtL; omega
theorem LtL.trans {a b c : Int} (h1 : LtL a b) (h2 : LtL b c) : LtL a c := by unfold LtL at *; omega
theorem LtL.total {a b : Int} (h1 : ¬ LtL a b) (h2 : ¬ LtL b a) : a = b := by unfold LtL at *; omega

/-- The row ys is the set of xs in order, each once. -/
def Nrm (xs ys : List Int) : Prop := ys.Pairwise LtL ∧ ∀ x, x ∈ ys ↔ x ∈ xs

theorem sorted_eq : ∀ {ys zs : List Int}, ys.Pairwise LtL → zs.Pairwise LtL → (∀ x, x ∈ ys ↔ x ∈ zs) → ys = zs
  | [], [], _, _, _ => rfl
  | [], z :: zs, _, _, h => by have := (h z).2 (by simp); simp at this
  | y :: ys, [], _, _, h => by have := (h y).1 (by simp); simp at this
  | y :: ys, z :: zs, h1, h2, h => by
    have a1 := List.pairwise_cons.1 h1
    have a2 := List.pairwise_cons.1 h2
    have e : y = z := by
      have b1 := (h y).1 (by simp)
      have b2 := (h z).2 (by simp)
      simp only [List.mem_cons] at b1 b2
      rcases b1 with b1 | b1
      · exact b1
      · rcases b2 with b2 | b2
        · exact b2.symm
        · exact absurd ((a1.1 z b2).trans (a2.1 y b1)) (LtL.irrefl y)
    subst e
    have t : ys = zs := sorted_eq a1.2 a2.2 (fun x => by
      have hx := h x
      simp only [List.mem_cons] at hx
      constructor
      · intro m
        rcases hx.1 (Or.inr m) with e | e
        · subst e; exact absurd (a1.1 x m) (LtL.irrefl x)
        · exact e
      · intro m
        rcases hx.2 (Or.inr m) with e | e
        · subst e; exact absurd (a2.1 x m) (LtL.irrefl x)
        · exact e)
    rw [t]

theorem Nrm.unique {xs ys zs : List Int} (h1 : Nrm xs ys) (h2 : Nrm xs zs) : ys = zs := sorted_eq h1.1 h2.1 (fun x => (h1.2 x).trans (h2.2 x).symm)

/-! ### What a row has -/
def has (xs : List Int) (x : Int) : Bool := xs.any (fun y => x == y)
theorem has_iff (xs : List Int) (x : Int) : has xs x = true ↔ x ∈ xs := by simp [has]
theorem has_false (xs : List Int) (x : Int) : has xs x = false ↔ x ∉ xs := by rw [← has_iff]; simp
def but (xs : List Int) (l : Int) : List Int := xs.filter (fun x => x != l)
theorem mem_but (xs : List Int) (l x : Int) : x ∈ but xs l ↔ x ∈ xs ∧ x ≠ l := by simp [but]
theorem but_take (xs : List Int) (l : Int) (k : Nat) (h : k < xs.length) : but (xs.take (k + 1)) l = but (xs.take k) l ++ (if xs.getD k 0 != l then [xs.getD k 0] else []) := by
  rw [take_snoc xs k h]
  unfold but
  rw [List.filter_append]
  congr 1
  generalize xs.getD k 0 = y
  by_cases e : y = l <;> simp [e]
theorem but_len (xs : List Int) (l : Int) : (but xs l).length ≤ xs.length := List.length_filter_le _ _

def both (xs : List Int) : Bool := xs.any (fun x => decide (0 < x) && xs.contains (-x))

end Cnf

/- The calls of Var and of the models' values. -/
namespace Go.Proofs.Ytjjanmgeogjngaa
open Go.RowKit
set_option linter.unusedVariables false

theorem ret_bool {a b : Bool} (h : a = b) : Ending.returned (.bool a) = .returned (.bool b) := by rw [h]

/-- A row of Booleans. -/
def Bools (w : World) (a : Option Addr) (xs : List Bool) : Prop :=
  xs = [] ∨ ∃ b off, a = some ⟨b, off, none⟩ ∧ b < w.heap.size ∧ ∀ j, j < xs.length → w.cell? ⟨b, off + j, none⟩ = some (.bool (xs.getD j false))

theorem Bools.below {w w' : World} {a : Option Addr} {xs : List Bool} (h : Bools w a xs) (hb : Below w.heap.size w w') : Bools w' a xs := by
  rcases h with h | ⟨b, off, e, hl, hc⟩
  · exact .inl h
  · exact .inr ⟨b, off, e, Nat.lt_of_lt_of_le hl hb.size, fun j hj => (hb.cell (p := ⟨b, off + j, none⟩) hl).trans (hc j hj)⟩

theorem Lits.at {w : World} {a : Option Addr} {xs : List Int} (h : Lits w a xs) {k : Nat} (hk : k < xs.length) :
    ∃ b off, a = some ⟨b, off, none⟩ ∧ w.cell? ⟨b, off + k, none⟩ = some (.int .i32 (xs.getD k 0)) ∧ -2147483648 ≤ xs.getD k 0 ∧ xs.getD k 0 ≤ 2147483647 := by
  have hm : xs.getD k 0 ∈ xs := by simp [List.getD, List.getElem?_eq_getElem hk]
  rcases h.2 with rfl | ⟨b, off, e, hl, hc⟩
  · simp at hk
  · exact ⟨b, off, e, hc k hk, (h.1 _ hm).1, (h.1 _ hm).2⟩

theorem Bools.at {w : World} {a : Option Addr} {xs : List Bool} (h : Bools w a xs) {k : Nat} (hk : k < xs.length) :
    ∃ b off, a = some ⟨b, off, none⟩ ∧ w.cell? ⟨b, off + k, none⟩ = some (.bool (xs.getD k false)) := by
  rcases h with rfl | ⟨b, off, e, hl, hc⟩
  · simp at hk
  · exact ⟨b, off, e, hc k hk⟩

set_option maxHeartbeats 400000 in
theorem var56 (l : Int) (w : World) (h1 : -2147483648 ≤ l) (h2 : l ≤ 2147483647) :
    Calls Try.prog 56 #[.int .i32 l] w fun e w' => e = .returned (.int .i64 (Cnf.vr l)) ∧ w' = w := by
  by_cases h : l < 0
  · have e : Cnf.vr l = -l := by simp [Cnf.vr, h]
    rw [e]
    go_enter Try.func56, Try.ntmps56
    go_wp2
    go_ret
    exact ⟨rfl, rfl⟩
  · have e : Cnf.vr l = l := by simp [Cnf.vr, h]
    rw [e]
    go_enter Try.func56, Try.ntmps56
    go_wp2
    go_ret
    exact ⟨rfl, rfl⟩

set_option maxHeartbeats 400000 in
theorem var49 (l : Int) (w : World) (h1 : -2147483648 ≤ l) (h2 : l ≤ 2147483647) :
    Calls Try.prog 49 #[.int .i32 l] w fun e w' => e = .returned (.int .i64 (Cnf.vr l)) ∧ w' = w := by
  by_cases h : l < 0
  · have e : Cnf.vr l = -l := by simp [Cnf.vr, h]
    rw [e]
    go_enter Try.func49, Try.ntmps49
    go_wp2
    go_ret
    exact ⟨rfl, rfl⟩
  · have e : Cnf.vr l = l := by simp [Cnf.vr, h]
    rw [e]
    go_enter Try.func49, Try.ntmps49
    go_wp2
    go_ret
    exact ⟨rfl, rfl⟩

set_option maxHeartbeats 1000000 in
/-- A literal's truth, by the document's own function. -/
theorem true51 (l : Int) (a : Option Addr) (n cap : Nat) (m : List Bool) (w : World) (h1 : -2147483648 ≤ l) (h2 : l ≤ 2147483647) (hn : m.length = n) (hb : n ≤ 1099511627776) (hm : Bools w a m) :
    Calls Try.prog 51 #[.int .i32 l, .slice a n cap] w fun e w' => e = .returned (.bool (Cnf.tr l m)) ∧ w' = w := by
  have hv0 := Cnf.vr_nonneg l
  have hv1 := Cnf.vr_le l h1 h2
  have hN : Hid (m.length = n) := hn
  by_cases hlo : 1 ≤ Cnf.vr l
  · by_cases hhi : Cnf.vr l ≤ n
    · obtain ⟨b, off, rfl, hc⟩ := hm.at (k := (Cnf.vr l - 1).toNat) (by omega)
      have hfin : Cnf.tr l m = (m.getD (Cnf.vr l - 1).toNat false == decide (0 < l)) := by simp [Cnf.tr, hlo, hn, hhi]
      have HF := hid hfin
      clear hfin hn
      have hcall := fun w => var49 l w h1 h2
      have HC := hid hcall
      clear hcall hm
      obtain ⟨k, hk⟩ : ∃ k : Nat, Cnf.vr l = (k : Int) + 1 := ⟨(Cnf.vr l - 1).toNat, by omega⟩
      have hk' : (Cnf.vr l - 1).toNat = k := by omega
      rw [hk'] at HF hc
      generalize m.getD k false = r at HF hc
      have HK := hid hk
      clear hk'
      rw [hk] at hlo hhi hv0 hv1
      clear hk
      by_cases hl : 0 < l
      all_goals
        go_enter Try.func51, Try.ntmps51
        go_wp2_with (go_at_call 49; refine (HC.out _).mono ?_; rintro e w' ⟨rfl, rfl⟩; rw [HK.out])
        go_ret
        exact ⟨ret_bool (by rw [HF.out]; try simp [hl]), rfl⟩
    · have hfin : Cnf.tr l m = false := by simp [Cnf.tr, hn, hhi]
      rw [hfin]
      clear hfin hn hm
      have hcall := fun w => var49 l w h1 h2
      generalize Cnf.vr l = v at *
      have HC := hid hcall
      clear hcall
      go_enter Try.func51, Try.ntmps51
      go_wp2_with (go_at_call 49; refine (HC.out _).mono ?_; rintro e w' ⟨rfl, rfl⟩)
      go_ret
      exact ⟨rfl, rfl⟩
  · have hfin : Cnf.tr l m = false := by simp [Cnf.tr, hlo]
    rw [hfin]
    clear hfin hn hm
    have hcall := fun w => var49 l w h1 h2
    generalize Cnf.vr l = v at *
    have HC := hid hcall
    clear hcall
    go_enter Try.func51, Try.ntmps51
    go_wp2_with (go_at_call 49; refine (HC.out _).mono ?_; rintro e w' ⟨rfl, rfl⟩)
    go_ret
    exact ⟨rfl, rfl⟩


set_option maxHeartbeats 1000000 in
/-- A clause's truth, by the document's own function. -/
theorem value31 (a am : Option Addr) (n cap nm capm : Nat) (xs : List Int) (m : List Bool) (w : World) (hn : xs.length = n) (hb : n ≤ 1099511627776) (hnm : m.length = nm) (hbm : nm ≤ 1099511627776) (hx : Lits w a xs) (hm : Bools w am m) :
    Calls Try.prog 31 #[.slice a n cap, .slice am nm capm] w fun e w' => e = .returned (.bool (Cnf.val xs m)) ∧ w' = w := by
  have HX : Hid (Lits w a xs) := hx
  have HM : Hid (Bools w am m) := hm
  have HN : Hid (xs.length = n) := hn
  have HNM : Hid (m.length = nm) := hnm
  clear hx hm hn hnm
  go_enter Try.func31, Try.ntmps31
  go_wp2
  go_loop [5] (fun i => ∃ k : Nat, k ≤ n ∧ i = .int .i64 k ∧ Cnf.val (xs.take k) m = false) (fun i => n - (intOf i).toNat)
  case atStart => exact ⟨0, Nat.zero_le _, rfl, rfl⟩
  case round =>
    obtain ⟨k, hk, rfl, hv⟩ := hrel
    have HV : Hid (Cnf.val (xs.take k) m = false) := hv
    clear hv
    by_cases hlt : k < n
    · obtain ⟨b, off, rfl, hc, hx1, hx2⟩ := HX.out.at (k := k) (by rw [HN.out]; exact hlt)
      have HS : Hid (Cnf.val (xs.take (k + 1)) m = (Cnf.val (xs.take k) m || Cnf.tr (xs.getD k 0) m)) := Cnf.val_take xs m k (by rw [HN.out]; exact hlt)
      have HT : Hid (Cnf.tr (xs.getD k 0) m = true → Cnf.val xs m = true) := Cnf.val_true xs m k (by rw [HN.out]; exact hlt)
      generalize xs.getD k 0 = x at hc hx1 hx2 HS HT
      have HC : Hid (Calls Try.prog 51 #[.int .i32 x, .slice am nm capm] w fun e w' => e = .returned (.bool (Cnf.tr x m)) ∧ w' = w) := true51 x am nm capm m w hx1 hx2 HNM.out hbm HM.out
      generalize hr : Cnf.tr x m = r at HC HS HT
      clear hr
      cases r
      · go_wp2_with (go_at_call 51; refine HC.out.mono ?_; rintro e w' ⟨rfl, rfl⟩)
        go_round
        case rel => exact ⟨k + 1, by omega, by go_num, by rw [HS.out, HV.out]; rfl⟩
        case measure => simp [intOf]; omega
      · go_wp2_with (go_at_call 51; refine HC.out.mono ?_; rintro e w' ⟨rfl, rfl⟩)
        go_ret
        exact ⟨ret_bool (HT.out (by simp)).symm, rfl⟩
    · go_wp2
      go_ret
      exact ⟨ret_bool (by have h := HV.out; rw [List.take_of_length_le (by rw [HN.out]; omega)] at h; exact h.symm), rfl⟩

end Go.Proofs.Ytjjanmgeogjngaa

/- Formulas: how they lie in memory; whether they are right; whether a model makes them true. -/
namespace Cnf

def scan (vars : Int) : Nat → List Int → Int
  | _, [] => 0
  | c, l :: ls => if 16777216 < c + 1 then 3 else if vr l < 1 ∨ vars < vr l then 4 else scan vars (c + 1) ls
def right (vars : Int) (cs : List (List Int)) : Int := if vars < 0 ∨ 1048576 < vars then 2 else if 1048576 < cs.length then 3 else scan vars 0 cs.flatten
def holds (cs : List (List Int)) (m : List Bool) : Bool := cs.all (fun c => val c m)

def okc (c : Nat) : Prop := c ≤ 16777216
theorem okc_zero : okc 0 := Nat.zero_le _

theorem drop_cons (xs : List Int) (k : Nat) (h : k < xs.length) : xs.drop k = xs.getD k 0 :: xs.drop (k + 1) := by
  rw [List.drop_eq_getElem_cons h]; simp [List.getD, h]
theorem drop_flat (cs : List (List Int)) (i : Nat) (h : i < cs.length) : (cs.drop i).flatten = cs.getD i [] ++ (cs.drop (i + 1)).flatten := by
  rw [List.drop_eq_getElem_cons h, List.flatten_cons]
  congr 1
  simp [List.getD, h]
theorem take_cls (cs : List (List Int)) (k : Nat) (h : k < cs.length) : cs.take (k + 1) = cs.take k ++ [cs.getD k []] := by
  rw [List.take_succ_eq_append_getElem h]; simp [List.getD, List.getElem?_eq_getElem h]
theorem getD_cls (cs : List (List Int)) (k : Nat) (h : k < cs.length) : cs.getD k [] ∈ cs := by simp [List.getD, List.getElem?_eq_getElem h]
theorem holds_take (cs : List (List Int)) (m : List Bool) (k : Nat) (h : k < cs.length) : holds (cs.take (k + 1)) m = (holds (cs.take k) m && val (cs.getD k []) m) := by
  rw [take_cls cs k h]; simp [holds]
theorem holds_false (cs : List (List Int)) (m : List Bool) (k : Nat) (h : k < cs.length) (hf : val (cs.getD k []) m = false) : holds cs m = false := by
  cases hs : holds cs m
  · rfl
  · have := List.all_eq_true.1 hs _ (getD_cls cs k h)
    rw [hf] at this
    cases this
theorem scan_limit (vars : Int) (c : Nat) (l : Int) (ls : List Int) (h : 16777216 < c + 1) : scan vars c (l :: ls) = 3 := by simp [scan, h]
theorem scan_lit (vars : Int) (c : Nat) (l : Int) (ls : List Int) (h : ¬ 16777216 < c + 1) (h2 : vr l < 1 ∨ vars < vr l) : scan vars c (l :: ls) = 4 := by
  unfold scan; rw [if_neg h, if_pos h2]
theorem scan_on (vars : Int) (c : Nat) (l : Int) (ls : List Int) (h : ¬ 16777216 < c + 1) (h2 : ¬ (vr l < 1 ∨ vars < vr l)) : scan vars c (l :: ls) = scan vars (c + 1) ls := by
  rw [scan, if_neg h, if_neg h2]
theorem flat_len (cs : List (List Int)) (k : Nat) (h : k < cs.length) : ((cs.take (k + 1)).flatten).length = ((cs.take k).flatten).length + (cs.getD k []).length := by
  rw [take_cls cs k h]; simp

end Cnf
namespace Go.Proofs.Ytjjanmgeogjngaa
open Go.RowKit
set_option linter.unusedVariables false

/-- A row of clauses. -/
def Cls (w : World) (a : Option Addr) (cs : List (List Int)) : Prop :=
  (∀ c ∈ cs, c.length ≤ 35184372088832) ∧ (cs = [] ∨ ∃ b off, a = some ⟨b, off, none⟩ ∧ b < w.heap.size ∧ ∀ j, j < cs.length → ∃ a' cap', w.cell? ⟨b, off + j, none⟩ = some (.slice a' (cs.getD j []).length cap') ∧ Lits w a' (cs.getD j []))

theorem Cls.below {w w' : World} {a : Option Addr} {cs : List (List Int)} (h : Cls w a cs) (hb : Below w.heap.size w w') : Cls w' a cs := by
  refine ⟨h.1, ?_⟩
  rcases h.2 with h | ⟨b, off, e, hl, hc⟩
  · exact .inl h
  · refine .inr ⟨b, off, e, Nat.lt_of_lt_of_le hl hb.size, fun j hj => ?_⟩
    obtain ⟨a', cap', h1, h2⟩ := hc j hj
    exact ⟨a', cap', (hb.cell (p := ⟨b, off + j, none⟩) hl).trans h1, h2.below hb⟩

theorem Cls.at {w : World} {a : Option Addr} {cs : List (List Int)} (h : Cls w a cs) {k : Nat} (hk : k < cs.length) :
    ∃ b off a' cap', a = some ⟨b, off, none⟩ ∧ b < w.heap.size ∧ w.cell? ⟨b, off + k, none⟩ = some (.slice a' (cs.getD k []).length cap') ∧ Lits w a' (cs.getD k []) ∧ (cs.getD k []).length ≤ 35184372088832 := by
  rcases h.2 with rfl | ⟨b, off, e, hl, hc⟩
  · simp at hk
  · obtain ⟨a', cap', h1, h2⟩ := hc k hk
    exact ⟨b, off, a', cap', e, hl, h1, h2, h.1 _ (Cnf.getD_cls cs k hk)⟩

theorem ret_num {a b : Int} (h : a = b) : Ending.returned (.int .i64 a) = .returned (.int .i64 b) := by rw [h]

set_option maxHeartbeats 2000000 in
theorem holds30 (vars : Int) (a am : Option Addr) (n cap nm capm : Nat) (cs : List (List Int)) (m : List Bool) (w : World) (hn : cs.length = n) (hN : n ≤ 8796093022208) (hnm : m.length = nm) (hM : nm ≤ 1099511627776) (hb3 : ∀ c ∈ cs, c.length ≤ 1099511627776) (hc : Cls w a cs) (hm : Bools w am m) :
    Calls Try.prog 30 #[.agg #[.int .i64 vars, .slice a n cap], .slice am nm capm] w fun e w' => e = .returned (.bool (Cnf.holds cs m)) ∧ Below w.heap.size w w' := by
  have HC := hid (hc.below (below_box w (.cells #[.int .i64 vars, .slice a n cap] 24)))
  have HM := hid (hm.below (below_box w (.cells #[.int .i64 vars, .slice a n cap] 24)))
  have HN := hid hn
  have HNM := hid hnm
  have HB3 := hid hb3
  clear hc hn hm hnm hb3
  go_enter Try.func30, Try.ntmps30
  go_wp2
  go_loop [5] (fun i => ∃ k : Nat, k ≤ n ∧ i = .int .i64 k ∧ Cnf.holds (cs.take k) m = true) (fun i => n - (intOf i).toNat)
  case atStart => exact ⟨0, Nat.zero_le _, rfl, rfl⟩
  case round =>
    obtain ⟨k, hk, rfl, hv⟩ := hrel
    have HV := hid hv
    clear hv
    by_cases hlt : k < n
    · obtain ⟨b, off, a', cap', rfl, hbl, hcell, hL, hln⟩ := HC.out.at (k := k) (by rw [HN.out]; exact hlt)
      have HS := hid (Cnf.holds_take cs m k (by rw [HN.out]; exact hlt))
      have HF := hid (Cnf.holds_false cs m k (by rw [HN.out]; exact hlt))
      have C := hid (value31 a' am (cs.getD k []).length cap' nm capm (cs.getD k []) m _ rfl (HB3.out _ (Cnf.getD_cls cs k (by rw [HN.out]; exact hlt))) HNM.out hM hL HM.out)
      clear hL
      generalize Cnf.val (cs.getD k []) m = r at C HS HF
      generalize (cs.getD k []).length = ln at hcell hln C
      cases r
      · go_wp2_with (go_at_call 31; refine C.out.mono ?_; rintro e w' ⟨rfl, rfl⟩)
        go_ret
        exact ⟨ret_bool (HF.out (by simp)).symm, below_box _ _⟩
      · go_wp2_with (go_at_call 31; refine C.out.mono ?_; rintro e w' ⟨rfl, rfl⟩)
        go_round
        case rel => exact ⟨k + 1, by omega, by go_num, by rw [HS.out, HV.out]; rfl⟩
        case measure => simp [intOf]; omega
    · go_wp2
      go_ret
      have e : cs.take k = cs := List.take_of_length_le (by rw [HN.out]; omega)
      exact ⟨ret_bool (by have h := HV.out; rw [e] at h; exact h.symm), below_box _ _⟩

end Go.Proofs.Ytjjanmgeogjngaa

/- Whether formulas are right, by the program's function. -/
namespace Go.Proofs.Ytjjanmgeogjngaa
open Go.RowKit
set_option linter.unusedVariables false

set_option maxHeartbeats 2000000 in
theorem right39_arg (vars : Int) (a : Option Addr) (n cap : Nat) (w : World) (h : vars < 0 ∨ 1048576 < vars) :
    Calls Try.prog 39 #[.agg #[.int .i64 vars, .slice a n cap]] w fun e w' => e = .returned (.int .i64 2) ∧ Below w.heap.size w w' := by
  by_cases h0 : vars < 0
  · clear h
    go_enter Try.func39, Try.ntmps39
    go_wp2
    go_ret
    exact ⟨rfl, below_box _ _⟩
  · have h1 : 1048576 < vars := by omega
    clear h
    go_enter Try.func39, Try.ntmps39
    go_wp2
    go_ret
    exact ⟨rfl, below_box _ _⟩

set_option maxHeartbeats 2000000 in
theorem right39_limit (vars : Int) (a : Option Addr) (n cap : Nat) (w : World) (h1 : 0 ≤ vars) (h2 : vars ≤ 1048576) (h : 1048576 < n) :
    Calls Try.prog 39 #[.agg #[.int .i64 vars, .slice a n cap]] w fun e w' => e = .returned (.int .i64 3) ∧ Below w.heap.size w w' := by
  have h0 : (1048576 : Int) < (n : Int) := by omega
  clear h
  go_enter Try.func39, Try.ntmps39
  go_wp2
  go_ret
  exact ⟨rfl, below_box _ _⟩

set_option maxRecDepth 100000 in
theorem right39_scan (vars : Int) (a : Option Addr) (n cap : Nat) (cs : List (List Int)) (w : World) (h1 : 0 ≤ vars) (h2 : vars ≤ 1048576) (h : n ≤ 1048576) (hn : cs.length = n) (hc : Cls w a cs) :
    Calls Try.prog 39 #[.agg #[.int .i64 vars, .slice a n cap]] w fun e w' => e = .returned (.int .i64 (Cnf.scan vars 0 cs.flatten)) ∧ Below w.heap.size w w' := by
  have HC := hid (hc.below (below_box w (.cells #[.int .i64 vars, .slice a n cap] 24)))
  have HN := hid hn
  have h0 : ¬ (1048576 : Int) < (n : Int) := by omega
  clear hc hn h
  generalize hr : Cnf.scan vars 0 cs.flatten = res
  have HR := hid hr
  clear hr
  go_enter Try.func39, Try.ntmps39
  go_wp2
  go_loop [3, 24] (fun s i => ∃ (k c : Nat), k ≤ n ∧ i = .int .i64 k ∧ s = .int .i64 c ∧ Cnf.okc c ∧ Cnf.scan vars c (cs.drop k).flatten = res) (fun _ i => n - (intOf i).toNat)
  case atStart => exact ⟨0, 0, Nat.zero_le _, rfl, rfl, Cnf.okc_zero, by simpa using HR.out⟩
  case round =>
    obtain ⟨k, c, hk, rfl, rfl, hc16, hs⟩ := hrel
    have HS := hid hs
    clear hs
    by_cases hlt : k < n
    · obtain ⟨b, off, a', cap', rfl, hbl, hcell, hL, hln⟩ := HC.out.at (k := k) (by rw [HN.out]; exact hlt)
      have HL := hid hL
      clear hL
      have HS2 : Hid (Cnf.scan vars c ((cs.getD k []).drop 0 ++ (cs.drop (k + 1)).flatten) = res) := by
        have h := HS.out
        rw [Cnf.drop_flat cs k (by rw [HN.out]; exact hlt)] at h
        exact h
      generalize ht : (cs.drop (k + 1)).flatten = tail at HS2
      have HTL := hid ht
      generalize hys : cs.getD k [] = ys at hcell hln HL HS2
      generalize hm : ys.length = m at hcell hln
      have HM := hid hm
      clear hm hys ht
      go_wp2
      go_loop [3, 30] (fun s i => ∃ (j d : Nat), j ≤ m ∧ i = .int .i64 j ∧ s = .int .i64 d ∧ Cnf.okc d ∧ Cnf.scan vars d (ys.drop j ++ tail) = res) (fun _ i => m - (intOf i).toNat)
      case atStart => exact ⟨0, c, Nat.zero_le _, rfl, rfl, hc16, HS2.out⟩
      case round =>
        clear HS2 HS
        obtain ⟨j, d, hj, rfl, rfl, hd0, hs⟩ := hrel
        have HS := hid hs
        have HD0 := hid hd0
        have hd : (d : Int) ≤ 16777216 := by have h : d ≤ 16777216 := hd0; omega
        clear hs hd0
        by_cases hjm : j < m
        · obtain ⟨b2, o2, rfl, hc2, hx1, hx2⟩ := HL.out.at (k := j) (by rw [HM.out]; exact hjm)
          have HS3 : Hid (Cnf.scan vars d (ys.getD j 0 :: (ys.drop (j + 1) ++ tail)) = res) := by
            have h := HS.out
            rw [Cnf.drop_cons ys j (by rw [HM.out]; exact hjm)] at h
            exact h
          generalize ys.getD j 0 = x at hc2 hx1 hx2 HS3
          clear HS
          by_cases h16 : 16777216 < d + 1
          · have HF : Hid (res = 3) := by
              have h := HS3.out
              rw [Cnf.scan_limit _ _ _ _ h16] at h
              exact h.symm
            have h16' : (16777216 : Int) < (d : Int) + 1 := by omega
            clear HS3 h16
            go_wp2
            go_ret
            exact ⟨ret_num HF.out.symm, below_box _ _⟩
          · have h16' : ¬ (16777216 : Int) < (d : Int) + 1 := by omega
            have CX := hid (fun W => var56 x W hx1 hx2)
            have hv0 := Cnf.vr_nonneg x
            by_cases hlit : Cnf.vr x < 1 ∨ vars < Cnf.vr x
            · have HF : Hid (res = 4) := by
                have h := HS3.out
                rw [Cnf.scan_lit _ _ _ _ h16 hlit] at h
                exact h.symm
              clear HS3
              generalize Cnf.vr x = v at *
              by_cases hv1 : v < 1
              · clear hlit
                go_wp2_with (go_at_call 56; refine (CX.out _).mono ?_; rintro e w' ⟨rfl, rfl⟩)
                go_ret
                exact ⟨ret_num HF.out.symm, below_box _ _⟩
              · have hv2 : vars < v := by omega
                clear hlit
                go_wp2_with (go_at_call 56; refine (CX.out _).mono ?_; rintro e w' ⟨rfl, rfl⟩)
                go_ret
                exact ⟨ret_num HF.out.symm, below_box _ _⟩
            · have HF : Hid (Cnf.scan vars (d + 1) (ys.drop (j + 1) ++ tail) = res) := by
                have h := HS3.out
                rw [Cnf.scan_on _ _ _ _ h16 hlit] at h
                exact h
              have HD1 : Hid (Cnf.okc (d + 1)) := by show d + 1 ≤ 16777216; omega
              clear HS3 h16
              have hv1 : ¬ Cnf.vr x < 1 := by omega
              have hv2 : ¬ vars < Cnf.vr x := by omega
              generalize Cnf.vr x = v at *
              clear hlit
              go_wp2_with fail
              refine (CX.out _).mono ?_
              rintro e w' ⟨rfl, rfl⟩
              clear hd h16'
              go_wp2_with fail
              go_round
              case rel => exact ⟨j + 1, d + 1, by omega, by go_num, by go_num, HD1.out, HF.out⟩
              case measure => simp [intOf]; omega
        · have HF : Hid (Cnf.scan vars d tail = res) := by
            have h := HS.out
            rw [List.drop_of_length_le (by rw [HM.out]; omega)] at h
            exact h
          clear HS
          go_wp2
          go_round
          case rel => exact ⟨k + 1, d, by omega, by go_num, rfl, HD0.out, by rw [HTL.out]; exact HF.out⟩
          case measure => simp [intOf]; omega
    · have HS2 : Hid (res = 0) := by
        have h := HS.out
        rw [List.drop_of_length_le (by rw [HN.out]; omega)] at h
        exact h.symm
      clear HS
      go_wp2
      go_ret
      exact ⟨ret_num HS2.out.symm, below_box _ _⟩

end Go.Proofs.Ytjjanmgeogjngaa

/- Worlds that differ by draws alone. -/
namespace Go.Proofs.Ytjjanmgeogjngaa
open Go.RowKit
set_option linter.unusedVariables false

def Drawn (w w' : World) : Prop := ∃ q, w' = w.drewN q
theorem Drawn.refl (w : World) : Drawn w w := ⟨0, rfl⟩
theorem Drawn.drewN {w w' : World} (h : Drawn w w') (n : Nat) : Drawn w (w'.drewN n) := by obtain ⟨q, rfl⟩ := h; exact ⟨q + n, by rw [World.drewN_drewN]⟩
theorem Drawn.trans {w w' w'' : World} (h : Drawn w w') (k : Drawn w' w'') : Drawn w w'' := by obtain ⟨q, rfl⟩ := k; exact h.drewN q
theorem Drawn.cell {w w' : World} (h : Drawn w w') (a : Addr) : w'.cell? a = w.cell? a := by obtain ⟨q, rfl⟩ := h; rfl
theorem Drawn.below {B : Nat} {a w w' : World} (h : Drawn w w') (hb : Below B a w) : Below B a w' := by obtain ⟨q, rfl⟩ := h; exact ⟨hb.os, hb.tape, hb.output, hb.size, hb.block⟩
theorem Drawn.owns {w w' : World} (h : Drawn w w') {base : Nat} {e : TypeId} {size : Nat} {v : Value} {n : Nat} {xs : List Value} (ho : w.ownsRow base e size v n xs) : w'.ownsRow base e size v n xs := by obtain ⟨q, rfl⟩ := h; exact ho
theorem Drawn.lits {w w' : World} (h : Drawn w w') {a : Option Addr} {xs : List Int} (hx : Lits w a xs) : Lits w' a xs := hx.below (h.below (Below.refl _ _))
theorem Drawn.bools {w w' : World} (h : Drawn w w') {a : Option Addr} {xs : List Bool} (hx : Bools w a xs) : Bools w' a xs := hx.below (h.below (Below.refl _ _))
theorem Drawn.below' {w w' : World} (h : Drawn w w') : Below w.heap.size w w' := h.below (Below.refl _ _)
end Go.Proofs.Ytjjanmgeogjngaa

/- Whether formulas are right, by the document's own function. -/
namespace Go.Proofs.Ytjjanmgeogjngaa
open Go.RowKit
set_option linter.unusedVariables false

set_option maxHeartbeats 2000000 in
theorem right41_arg (vars : Int) (a : Option Addr) (n cap : Nat) (w : World) (h : vars < 0 ∨ 1048576 < vars) :
    Calls Try.prog 41 #[.agg #[.int .i64 vars, .slice a n cap]] w fun e w' => e = .returned (.int .i64 2) ∧ Below w.heap.size w w' := by
  by_cases h0 : vars < 0
  · clear h
    go_enter Try.func41, Try.ntmps41
    go_wp2
    go_ret
    exact ⟨rfl, below_box _ _⟩
  · have h1 : 1048576 < vars := by omega
    clear h
    go_enter Try.func41, Try.ntmps41
    go_wp2
    go_ret
    exact ⟨rfl, below_box _ _⟩

set_option maxHeartbeats 2000000 in
theorem right41_limit (vars : Int) (a : Option Addr) (n cap : Nat) (w : World) (h1 : 0 ≤ vars) (h2 : vars ≤ 1048576) (h : 1048576 < n) :
    Calls Try.prog 41 #[.agg #[.int .i64 vars, .slice a n cap]] w fun e w' => e = .returned (.int .i64 3) ∧ Below w.heap.size w w' := by
  have h0 : (1048576 : Int) < (n : Int) := by omega
  clear h
  go_enter Try.func41, Try.ntmps41
  go_wp2
  go_ret
  exact ⟨rfl, below_box _ _⟩

set_option maxRecDepth 100000 in
theorem right41_scan (vars : Int) (a : Option Addr) (n cap : Nat) (cs : List (List Int)) (w : World) (h1 : 0 ≤ vars) (h2 : vars ≤ 1048576) (h : n ≤ 1048576) (hn : cs.length = n) (hc : Cls w a cs) :
    Calls Try.prog 41 #[.agg #[.int .i64 vars, .slice a n cap]] w fun e w' => e = .returned (.int .i64 (Cnf.scan vars 0 cs.flatten)) ∧ Below w.heap.size w w' := by
  have HC := hid (hc.below (below_box w (.cells #[.int .i64 vars, .slice a n cap] 24)))
  have HN := hid hn
  have h0 : ¬ (1048576 : Int) < (n : Int) := by omega
  clear hc hn h
  generalize hr : Cnf.scan vars 0 cs.flatten = res
  have HR := hid hr
  clear hr
  go_enter Try.func41, Try.ntmps41
  go_wp2
  go_loopw [3, 4] (fun s i wr => ∃ (k c : Nat), k ≤ n ∧ i = .int .i64 k ∧ s = .int .i64 c ∧ Cnf.okc c ∧ Cnf.scan vars c (cs.drop k).flatten = res ∧ Drawn (w.alloc (.cells #[.int .i64 vars, .slice a n cap] 24)) wr) (fun _ i _ => n - (intOf i).toNat)
  case atStart => exact ⟨0, 0, Nat.zero_le _, rfl, rfl, Cnf.okc_zero, by simpa using HR.out, Drawn.refl _⟩
  case round =>
    obtain ⟨k, c, hk, rfl, rfl, hc16, hs, HD⟩ := hrel
    have HS := hid hs
    have H16 := hid hc16
    have hbx0 : wr.cell? ⟨w.heap.size, 0, none⟩ = some (.int .i64 vars) := by rw [HD.cell]; simp
    have hbx1 : wr.cell? ⟨w.heap.size, 1, none⟩ = some (.slice a n cap) := by rw [HD.cell]; simp
    have HBe := hid (HD.below (below_box w (.cells #[.int .i64 vars, .slice a n cap] 24)))
    clear hs hc16
    by_cases hlt : k < n
    · obtain ⟨b, off, a', cap', rfl, hbl, hcell, hL, hln⟩ := HC.out.at (k := k) (by rw [HN.out]; exact hlt)
      rw [← HD.cell] at hcell
      have HL := hid hL
      clear hL
      have HS2 : Hid (Cnf.scan vars c ((cs.getD k []).drop 0 ++ (cs.drop (k + 1)).flatten) = res) := by
        have h := HS.out
        rw [Cnf.drop_flat cs k (by rw [HN.out]; exact hlt)] at h
        exact h
      generalize ht : (cs.drop (k + 1)).flatten = tail at HS2
      have HTL := hid ht
      generalize hys : cs.getD k [] = ys at hcell hln HL HS2
      generalize hm : ys.length = m at hcell hln
      have HM := hid hm
      clear hm hys ht
      go_wp2
      have HCE : Hid (∀ W, Drawn wr W → W.cell? ⟨w.heap.size, 0, none⟩ = some (.int .i64 vars) ∧ W.cell? ⟨w.heap.size, 1, none⟩ = some (.slice (some ⟨b, off, none⟩) n cap) ∧ W.cell? ⟨b, off + k, none⟩ = some (.slice a' m cap') ∧ Lits W a' ys) := fun W hW =>
        ⟨by rw [hW.cell]; exact hbx0, by rw [hW.cell]; exact hbx1, by rw [hW.cell]; exact hcell, hW.lits (HD.lits HL.out)⟩
      go_loopw [3, 5] (fun s i wr2 => ∃ (j d : Nat), j ≤ m ∧ i = .int .i64 j ∧ s = .int .i64 d ∧ Cnf.okc d ∧ Cnf.scan vars d (ys.drop j ++ tail) = res ∧ Drawn wr wr2) (fun _ i _ => m - (intOf i).toNat)
      case atStart => exact ⟨0, c, Nat.zero_le _, rfl, rfl, H16.out, HS2.out, Drawn.refl _⟩
      case round =>
        clear HS2 HS
        rename_i wr2 _ _
        obtain ⟨j, d, hj, rfl, rfl, hd0, hs, HD2⟩ := hrel
        have HS := hid hs
        have HD0 := hid hd0
        have hd : (d : Int) ≤ 16777216 := by have h : d ≤ 16777216 := hd0; omega
        clear hs hd0 hbx0 hbx1 hcell
        obtain ⟨hbx0, hbx1, hcell, hLW⟩ := HCE.out _ HD2
        have HLW := hid hLW
        clear hLW
        by_cases hjm : j < m
        · obtain ⟨b2, o2, rfl, hc2, hx1, hx2⟩ := HLW.out.at (k := j) (by rw [HM.out]; exact hjm)
          have HS3 : Hid (Cnf.scan vars d (ys.getD j 0 :: (ys.drop (j + 1) ++ tail)) = res) := by
            have h := HS.out
            rw [Cnf.drop_cons ys j (by rw [HM.out]; exact hjm)] at h
            exact h
          generalize ys.getD j 0 = x at hc2 hx1 hx2 HS3
          clear HS
          by_cases h16 : 16777216 < d + 1
          · have HF : Hid (res = 3) := by
              have h := HS3.out
              rw [Cnf.scan_limit _ _ _ _ h16] at h
              exact h.symm
            have h16' : (16777216 : Int) < (d : Int) + 1 := by omega
            clear HS3 h16
            go_wp2
            go_ret
            exact ⟨ret_num HF.out.symm, HD2.below HBe.out⟩
          · have h16' : ¬ (16777216 : Int) < (d : Int) + 1 := by omega
            have CX := hid (fun W => var49 x W hx1 hx2)
            have hv0 := Cnf.vr_nonneg x
            have HZ : Hid ((Cnf.vr x < 1 → x = 0) ∧ (x = 0 → Cnf.vr x < 1)) := by
              show _ ∧ _
              unfold Cnf.vr
              split <;> constructor <;> intro <;> omega
            by_cases hlit : Cnf.vr x < 1 ∨ vars < Cnf.vr x
            · have HF : Hid (res = 4) := by
                have h := HS3.out
                rw [Cnf.scan_lit _ _ _ _ h16 hlit] at h
                exact h.symm
              clear HS3
              generalize Cnf.vr x = v at *
              by_cases hv1 : v < 1
              · have hx0 : (x == 0) = true := by simp; exact HZ.out.1 hv1
                clear hlit HZ
                go_wp2_with fail
                go_quiet ((go_at_call 49; exact Calls.quiet_of_same (CX.out _)))
                go_wp2_with fail
                go_ret
                exact ⟨ret_num HF.out.symm, (HD2.drewN _).below HBe.out⟩
              · have hv2 : vars < v := by omega
                have hx0 : (x == 0) = false := by simp; exact fun h => hv1 (HZ.out.2 h)
                clear hlit HZ
                go_wp2_with fail
                go_quiet ((go_at_call 49; exact Calls.quiet_of_same (CX.out _)))
                go_wp2_with fail
                go_ret
                exact ⟨ret_num HF.out.symm, (HD2.drewN _).below HBe.out⟩
            · have HF : Hid (Cnf.scan vars (d + 1) (ys.drop (j + 1) ++ tail) = res) := by
                have h := HS3.out
                rw [Cnf.scan_on _ _ _ _ h16 hlit] at h
                exact h
              have HD1 : Hid (Cnf.okc (d + 1)) := by show d + 1 ≤ 16777216; omega
              clear HS3 h16
              have hv1 : ¬ Cnf.vr x < 1 := by omega
              have hv2 : ¬ vars < Cnf.vr x := by omega
              have hx0 : (x == 0) = false := by simp; exact fun h => hv1 (HZ.out.2 h)
              generalize Cnf.vr x = v at *
              clear hlit HZ
              have hdv : decide (vars < v) = false := by simp; omega
              go_wp2_with fail
              clear hd h16'
              go_quiet ((go_at_call 49; exact Calls.quiet_of_same (CX.out _)))
              go_wp2_with fail
              go_roundw
              case rel => exact ⟨j + 1, d + 1, by omega, by go_num, by go_num, HD1.out, HF.out, HD2.drewN _⟩
              case measure => simp [intOf]; omega
        · have HF : Hid (Cnf.scan vars d tail = res) := by
            have h := HS.out
            rw [List.drop_of_length_le (by rw [HM.out]; omega)] at h
            exact h
          clear HS
          go_wp2
          go_roundw
          case rel => exact ⟨k + 1, d, by omega, by go_num, rfl, HD0.out, by rw [HTL.out]; exact HF.out, HD.trans HD2⟩
          case measure => simp [intOf]; omega
    · have HS2 : Hid (res = 0) := by
        have h := HS.out
        rw [List.drop_of_length_le (by rw [HN.out]; omega)] at h
        exact h.symm
      clear HS
      go_wp2
      go_ret
      exact ⟨ret_num HS2.out.symm, HBe.out⟩

theorem right39 (vars : Int) (a : Option Addr) (n cap : Nat) (cs : List (List Int)) (w : World) (hn : cs.length = n) (hc : Cls w a cs) :
    Calls Try.prog 39 #[.agg #[.int .i64 vars, .slice a n cap]] w fun e w' => e = .returned (.int .i64 (Cnf.right vars cs)) ∧ Below w.heap.size w w' := by
  unfold Cnf.right
  by_cases h1 : vars < 0 ∨ 1048576 < vars
  · rw [if_pos h1]; exact right39_arg vars a n cap w h1
  · rw [if_neg h1, hn]
    by_cases h2 : 1048576 < n
    · rw [if_pos h2]; exact right39_limit vars a n cap w (by omega) (by omega) h2
    · rw [if_neg h2]; exact right39_scan vars a n cap cs w (by omega) (by omega) (by omega) hn hc
theorem right41 (vars : Int) (a : Option Addr) (n cap : Nat) (cs : List (List Int)) (w : World) (hn : cs.length = n) (hc : Cls w a cs) :
    Calls Try.prog 41 #[.agg #[.int .i64 vars, .slice a n cap]] w fun e w' => e = .returned (.int .i64 (Cnf.right vars cs)) ∧ Below w.heap.size w w' := by
  unfold Cnf.right
  by_cases h1 : vars < 0 ∨ 1048576 < vars
  · rw [if_pos h1]; exact right41_arg vars a n cap w h1
  · rw [if_neg h1, hn]
    by_cases h2 : 1048576 < n
    · rw [if_pos h2]; exact right41_limit vars a n cap w (by omega) (by omega) h2
    · rw [if_neg h2]; exact right41_scan vars a n cap cs w (by omega) (by omega) (by omega) hn hc
end Go.Proofs.Ytjjanmgeogjngaa

/- How great a formula is, whether it is taken, whether two models are alike: stage 3's leaves. -/
namespace Tru
/-- Why a formula is not taken. -/
def taken (vars : Int) (cs : List (List Int)) : Int := if Cnf.right vars cs = 0 then (if 16 < vars then 3 else 0) else Cnf.right vars cs
end Tru
namespace Go.Proofs.Ytjjanmgeogjngaa
open Go.RowKit
set_option linter.unusedVariables false

/-- A world in which the call's own box lies. -/
def Far (w : World) (v0 v1 : Value) (W : World) : Prop := Below (w.alloc (.cells #[v0, v1] 24)).heap.size (w.alloc (.cells #[v0, v1] 24)) W
theorem Far.below {w : World} {v0 v1 : Value} {W : World} (h : Far w v0 v1 W) : Below w.heap.size w W := box_below w _ h
theorem Far.on {w : World} {v0 v1 : Value} {W W' : World} (h : Far w v0 v1 W) (hb : Below W.heap.size W W') : Far w v0 v1 W' := Below.trans h (hb.mono (Below.size h))
theorem Far.c0 {w : World} {v0 v1 : Value} {W : World} (h : Far w v0 v1 W) : W.cell? ⟨w.heap.size, 0, none⟩ = some v0 := by
  have := row_cell (World.alloc_heap_new w (.cells #[v0, v1] 24)) 0
  exact (Below.cell h (p := ⟨w.heap.size, 0, none⟩) (by simp)).trans this
theorem Far.c1 {w : World} {v0 v1 : Value} {W : World} (h : Far w v0 v1 W) : W.cell? ⟨w.heap.size, 1, none⟩ = some v1 := by
  have := row_cell (World.alloc_heap_new w (.cells #[v0, v1] 24)) 1
  exact (Below.cell h (p := ⟨w.heap.size, 1, none⟩) (by simp)).trans this

set_option maxHeartbeats 2000000 in
theorem taken50 (vars : Int) (a : Option Addr) (n cap : Nat) (cs : List (List Int)) (w : World) (hn : cs.length = n) (hc : Cls w a cs) :
    Calls Try.prog 50 #[.agg #[.int .i64 vars, .slice a n cap]] w fun e w' => e = .returned (.int .i64 (Tru.taken vars cs)) ∧ Below w.heap.size w w' := by
  have C := hid (right41 vars a n cap cs (w.alloc (.cells #[.int .i64 vars, .slice a n cap] 24)) hn (hc.below (below_box _ _)))
  unfold Tru.taken
  generalize Cnf.right vars cs = r at C
  clear hc hn
  by_cases hr : r = 0
  · subst hr
    rw [if_pos rfl]
    by_cases h16 : 16 < vars
    · rw [if_pos h16]
      go_enter Try.func50, Try.ntmps50
      go_wp2_with (go_at_call 41; refine C.out.mono ?_; clear C; rintro e W2 ⟨rfl, hb⟩; have far := (show Far w (.int .i64 vars) (.slice a n cap) W2 from hb); have x0 := far.c0; replace far := hid far; clear hb)
      go_ret
      exact ⟨rfl, far.out.below⟩
    · rw [if_neg h16]
      go_enter Try.func50, Try.ntmps50
      go_wp2_with (go_at_call 41; refine C.out.mono ?_; clear C; rintro e W2 ⟨rfl, hb⟩; have far := (show Far w (.int .i64 vars) (.slice a n cap) W2 from hb); have x0 := far.c0; replace far := hid far; clear hb)
      go_ret
      exact ⟨rfl, far.out.below⟩
  · rw [if_neg hr]
    go_enter Try.func50, Try.ntmps50
    go_wp2_with (go_at_call 41; refine C.out.mono ?_; clear C; rintro e W2 ⟨rfl, hb⟩; have far := (show Far w (.int .i64 vars) (.slice a n cap) W2 from hb); have x0 := far.c0; replace far := hid far; clear hb)
    go_ret
    exact ⟨rfl, far.out.below⟩

end Go.Proofs.Ytjjanmgeogjngaa

/- Models by their number. -/
namespace Tru
/-- The k-th model of n variables. -/
def model (n k : Nat) : List Bool := (List.range n).map (fun i => k.testBit i)
theorem model_len (n k : Nat) : (model n k).length = n := by simp [model]
theorem model_get (n k i : Nat) (h : i < n) : (model n k).getD i false = k.testBit i := by
  simp [model, List.getD, h]
end Tru
namespace Go.Proofs.Ytjjanmgeogjngaa
open Go.RowKit
set_option linter.unusedVariables false

theorem info4 : (Try.prog.info? 4).map (fun i => (i.zero, i.size, i.bytes)) = some (some (.bool false), 1, 1) := by kernel_rfl

theorem bit_at (k j : Nat) (hk : k < 65536) : (bits .and .i64 ((k : Int) / 2 ^ j) 1 == 1) = k.testBit j := by
  have e : ((k : Int) / 2 ^ j) = ((k / 2 ^ j : Nat) : Int) := by simp
  have hl : k / 2 ^ j < 2 ^ 63 := Nat.lt_of_le_of_lt (Nat.div_le_self _ _) (by omega)
  rw [e, show (1 : Int) = ((1 : Nat) : Int) from rfl, (bits_nat .i64 63 (by decide) (fun n h0 h1 => by rw [IntKind.wrap_i64]; omega) (k / 2 ^ j) 1 hl (by decide)).1, Nat.testBit_eq_decide_div_mod_eq, Nat.and_one_is_mod]
  generalize k / 2 ^ j = x
  rw [Bool.eq_iff_iff, beq_iff_eq, decide_eq_true_eq]
  omega
/-- A model in a row, told. -/
def ModelOut (n k : Nat) (e : Ending) (w : World) : Prop := ∃ a cap, e = .returned (.slice a n cap) ∧ Bools w a (Tru.model n k)
end Go.Proofs.Ytjjanmgeogjngaa

/- The k-th model, by the document's own function. -/
namespace Tru
theorem model_on (j k : Nat) : model (j + 1) k = model j k ++ [k.testBit j] := by
  unfold model
  rw [List.range_succ, List.map_append]
  rfl
end Tru
namespace Go.Proofs.Ytjjanmgeogjngaa
open Go.RowKit
set_option linter.unusedVariables false

theorem own_bools {base : Nat} {W : World} {a : Option Addr} {cap n : Nat} {bs : List Bool} (hn : bs.length = n) (h : W.ownsRow base 4 1 (.slice a n cap) n (bs.map Value.bool)) : Bools W a bs := by
  rcases h.2 with ⟨e, h0⟩ | ⟨g, cap', cur, e, h1, h2, h3, h4, h5, h6⟩
  · left; apply List.length_eq_zero_iff.1; omega
  · injection e with e1 e2 e3
    subst e1
    right
    refine ⟨g, 0, rfl, (Array.getElem?_eq_some_iff.1 h2).1, fun j hj => ?_⟩
    rw [Nat.zero_add, row_cell h2 j, ← Array.getElem?_toList]
    have := congrArg (fun l : List Value => l[j]?) h6
    simp only [Nat.mul_one] at this
    rw [List.getElem?_take_of_lt (by omega)] at this
    rw [this]
    simp [List.getD, List.getElem?_eq_getElem hj]
theorem news4 {X : World} {u : Value} : ∀ j v, [u][j]? = some v → (X.alloc (.cells #[u] 4)).cell? ((⟨X.heap.size, 0, none⟩ : Addr).add j) = some v :=
  World.news_of_block (World.alloc_heap_new X (.cells #[u] 4))

set_option maxHeartbeats 4000000 in
theorem model29 (k n : Nat) (w : World) (hk : k < 65536) (hn : n ≤ 16) :
    Calls Try.prog 29 #[.int .i64 n, .int .i64 k] w fun e w' => ModelOut n k e w' ∧ Below w.heap.size w w' := by
  obtain ⟨i0, hi, hz⟩ := Option.map_eq_some_iff.1 info4
  simp only [Prod.mk.injEq] at hz
  obtain ⟨hz0, hz1, hz2⟩ := hz
  have HK := hid hk
  clear hk
  go_enter Try.func29, Try.ntmps29
  go_wp2
  go_loopw [5, 6] (fun m i wr => ∃ (j : Nat) (am : Option Addr) (capm : Nat), j ≤ n ∧ i = .int .i64 j ∧ m = .slice am j capm ∧ Hid (wr.ownsRow w.heap.size 4 1 (.slice am j capm) j ((Tru.model j k).map Value.bool)) ∧ Hid (Below w.heap.size w wr)) (fun _ i _ => n - (intOf i).toNat)
  case atStart => exact ⟨0, none, 0, Nat.zero_le _, rfl, rfl, hid (World.ownsRow_nil _ _ _ _), hid (Below.refl _ _)⟩
  case round =>
    obtain ⟨j, am, capm, hj, rfl, rfl, HR, HB⟩ := hrel
    by_cases hlt : j < n
    · have hlt' : (j : Int) < n := by omega
      have hj0 : (0 : Int) ≤ j := by omega
      have hbt := bit_at k j HK.out
      have hs := HB.out.size
      have HM := hid (Tru.model_on j k)
      generalize k.testBit j = b at hbt HM
      go_wp2_with (at_builtin; refine wpList_append_lies _ rfl _ _ 51 rfl w.heap.size 4 i0 (.bool false) 1 1 Try.underlying51 hi hz0 hz1 hz2 rfl (by decide) (.slice am j capm) j _ rfl (HR.out.alloc _) ⟨wr.heap.size, 0, none⟩ 1 1 [.bool b] rfl rfl news4 (by intro u hu; simp at hu; subst hu; rfl) (by decide) (by simp [maxLen]; omega) (by omega) (by simp; omega) (wr.heap.size + 1) (by simp) ?_)
      intro g8 cap8 w8 hown8 hgrow8 hat8 hlt8
      have B8 : Below w.heap.size wr w8 := ((Below.refl _ wr).alloc hs _).grown hgrow8 (by simp; omega) (fun q hq => (HR.out.lt q hq).1)
      have HB8 := hid (HB.out.trans B8)
      have HR8 := hid (show w8.ownsRow w.heap.size 4 1 (.slice (some ⟨g8, 0, none⟩) (j + 1) cap8) (j + 1) ((Tru.model (j + 1) k).map Value.bool) by rw [HM.out, List.map_append]; exact hown8)
      clear B8 hown8 hgrow8 hat8 hlt8 HR HB
      go_wp2
      go_roundw
      case rel => exact ⟨j + 1, _, _, by omega, by go_num, rfl, HR8, HB8⟩
      case measure => simp [intOf]; omega
    · have hge : ¬ (j : Int) < n := by omega
      obtain rfl : j = n := by omega
      go_wp2
      go_ret
      exact ⟨⟨_, _, rfl, own_bools (Tru.model_len _ _) HR.out⟩, HB.out⟩
end Go.Proofs.Ytjjanmgeogjngaa

/- The first model and how many there are, by the document's own functions. -/
namespace Cnf
theorem scan_zero (vars : Int) (ls : List Int) : ∀ c, scan vars c ls = 0 → c ≤ 16777216 → c + ls.length ≤ 16777216 ∧ ∀ l ∈ ls, 1 ≤ vr l ∧ vr l ≤ vars := by
  induction ls with
  | nil => intro c _ h; exact ⟨by simpa using h, fun l hl => (by cases hl)⟩
  | cons l ls ih =>
    intro c h hc
    by_cases h1 : 16777216 < c + 1
    · rw [scan_limit vars c l ls h1] at h; cases h
    · by_cases h2 : vr l < 1 ∨ vars < vr l
      · rw [scan_lit vars c l ls h1 h2] at h; cases h
      · rw [scan_on vars c l ls h1 h2] at h
        obtain ⟨q1, q2⟩ := ih (c + 1) h (by omega)
        refine ⟨by simp; omega, fun x hx => ?_⟩
        rcases List.mem_cons.1 hx with rfl | hx
        · omega
        · exact q2 x hx
end Cnf
namespace Tru
theorem taken_zero (vars : Int) (cs : List (List Int)) (h : taken vars cs = 0) : ∃ u : Nat, vars = u ∧ u ≤ 16 ∧ cs.length ≤ 1048576 ∧ cs.flatten.length ≤ 16777216 ∧ ∀ c ∈ cs, ∀ l ∈ c, 1 ≤ Cnf.vr l ∧ Cnf.vr l ≤ u := by
  unfold taken at h
  by_cases hr : Cnf.right vars cs = 0
  · rw [if_pos hr] at h
    by_cases h16 : 16 < vars
    · rw [if_pos h16] at h; cases h
    · unfold Cnf.right at hr
      split at hr
      · cases hr
      · split at hr
        · cases hr
        · obtain ⟨q1, q2⟩ := Cnf.scan_zero vars cs.flatten 0 hr (by decide)
          refine ⟨vars.toNat, by omega, by omega, by omega, by omega, fun c hc l hl => ?_⟩
          have := q2 l (List.mem_flatten.2 ⟨c, hc, hl⟩)
          omega
  · rw [if_neg hr] at h; exact absurd h hr
def sat (cs : List (List Int)) (u k : Nat) : Bool := Cnf.holds cs (model u k)
/-- How many of the first j models make the clauses true. -/
def count (cs : List (List Int)) (u : Nat) : Nat → Nat
  | 0 => 0
  | j + 1 => count cs u j + (if sat cs u j then 1 else 0)
theorem count_le (cs : List (List Int)) (u j : Nat) : count cs u j ≤ j := by
  induction j with
  | zero => exact Nat.le_refl _
  | succ j ih => rw [count]; split <;> omega
end Tru
namespace Go.Proofs.Ytjjanmgeogjngaa
open Go.RowKit
set_option linter.unusedVariables false

/-- The first model, told; or that there is none. -/
def FindOut (u : Nat) (cs : List (List Int)) (e : Ending) (w : World) : Prop :=
  (∃ k a cap, k < 2 ^ u ∧ Tru.sat cs u k = true ∧ (∀ j, j < k → Tru.sat cs u j = false) ∧ e = .returned (.tuple #[.slice a u cap, .bool true, .int .i64 0]) ∧ Bools w a (Tru.model u k)) ∨
    ((∀ j, j < 2 ^ u → Tru.sat cs u j = false) ∧ e = .returned (.tuple #[.slice none 0 0, .bool false, .int .i64 0]))
theorem pow16 (u : Nat) (h : u ≤ 16) : wrap64 ((2 : Int) ^ min u 64) = ((2 ^ u : Nat) : Int) ∧ 2 ^ u ≤ 65536 := by
  have h2 : 2 ^ u ≤ 2 ^ 16 := Nat.pow_le_pow_right (by decide) h
  have e : ((2 : Int) ^ u) = ((2 ^ u : Nat) : Int) := by simp
  rw [Nat.min_eq_left (by omega), e]
  unfold wrap64
  generalize 2 ^ u = x at h2
  constructor <;> omega
theorem clause_bnd {w : World} {a : Option Addr} {cs : List (List Int)} (hl : cs.flatten.length ≤ 16777216) : ∀ c ∈ cs, c.length ≤ 1099511627776 := by
  intro c hc
  have : c.length ≤ cs.flatten.length := by
    clear hl
    induction cs with
    | nil => cases hc
    | cons d cs ih =>
      rw [List.flatten_cons, List.length_append]
      rcases List.mem_cons.1 hc with rfl | h
      · omega
      · have := ih h; omega
  omega

set_option maxHeartbeats 2000000 in
theorem find24_err (vars : Int) (a : Option Addr) (n cap : Nat) (cs : List (List Int)) (w : World) (hn : cs.length = n) (hc : Cls w a cs) (ht : ¬ Tru.taken vars cs = 0) :
    Calls Try.prog 24 #[.agg #[.int .i64 vars, .slice a n cap]] w fun e w' => e = .returned (.tuple #[.slice none 0 0, .bool false, .int .i64 (Tru.taken vars cs)]) ∧ Below w.heap.size w w' := by
  have C := hid (taken50 vars a n cap cs (w.alloc (.cells #[.int .i64 vars, .slice a n cap] 24)) hn (hc.below (below_box _ _)))
  generalize Tru.taken vars cs = t at ht C
  clear hc hn
  go_enter Try.func24, Try.ntmps24
  go_wp2_with (go_at_call 50; refine C.out.mono ?_; clear C; rintro e W2 ⟨rfl, hb⟩; have far := hid (show Far w (.int .i64 vars) (.slice a n cap) W2 from hb); clear hb)
  refine bodyPost_ret (results_tmp3 rfl _ _ _) rfl ?_
  exact ⟨rfl, far.out.below⟩

set_option maxHeartbeats 4000000 in
theorem find24 (u : Nat) (a : Option Addr) (n cap : Nat) (cs : List (List Int)) (w : World) (hn : cs.length = n) (hc : Cls w a cs) (ht : Tru.taken u cs = 0) (hu : u ≤ 16) (hN : n ≤ 1048576) (hL : cs.flatten.length ≤ 16777216) :
    Calls Try.prog 24 #[.agg #[.int .i64 u, .slice a n cap]] w fun e w' => FindOut u cs e w' ∧ Below w.heap.size w w' := by
  have C := hid (taken50 u a n cap cs (w.alloc (.cells #[.int .i64 u, .slice a n cap] 24)) hn (hc.below (below_box _ _)))
  rw [ht] at C
  obtain ⟨hpw, hp2⟩ := pow16 u hu
  have HL := hid (clause_bnd (w := w) (a := a) hL)
  have HC := hid hc
  have HN := hid hn
  have HNN := hid hN
  have HU := hid hu
  have hfd : ∀ e W, FindOut u cs e W = FindOut u cs e W := fun _ _ => rfl
  generalize hP : 2 ^ u = P at hpw hp2
  have HP := hid hP
  clear hc hn ht hN hL hu hfd hP
  go_enter Try.func24, Try.ntmps24
  go_wp2_with (go_at_call 50; refine C.out.mono ?_; clear C; rintro e W2 ⟨rfl, hb⟩; have far := hid (show Far w (.int .i64 u) (.slice a n cap) W2 from hb); clear hb)
  go_loopw [6] (fun i wr => ∃ j : Nat, j ≤ P ∧ i = .int .i64 j ∧ Hid (∀ t, t < j → Tru.sat cs u t = false) ∧ Hid (Far w (.int .i64 u) (.slice a n cap) wr)) (fun i _ => P - (intOf i).toNat)
  case atStart => exact ⟨0, Nat.zero_le _, rfl, hid (fun t ht => absurd ht (Nat.not_lt_zero t)), far⟩
  case round =>
    clear far
    obtain ⟨j, hj, rfl, HS, far⟩ := hrel
    have x0 := far.out.c0
    have x1 := far.out.c1
    by_cases hlt : j < P
    · have hlt' : (j : Int) < P := by omega
      have C25 := hid (model29 j u wr (by omega) HU.out)
      cases hs : Tru.sat cs u j
      · have HSJ := hid hs
        go_wp2_with (first
          | (go_at_call 29; refine C25.out.mono ?_; clear C25; rintro e W4 ⟨⟨a4, cap4, rfl, hb4⟩, hw4⟩
             have far4 := far.out.on hw4
             have y0 := far4.c0
             have y1 := far4.c1
             have C26 := hid (holds30 u a a4 n cap u cap4 cs (Tru.model u j) W4 HN.out (by have := HNN.out; omega) (Tru.model_len u j) (by have := HU.out; omega) HL.out (HC.out.below far4.below) hb4)
             rw [show Cnf.holds cs (Tru.model u j) = false from hs] at C26
             replace far4 := hid far4
             clear hb4 hw4)
          | (go_at_call 30; refine C26.out.mono ?_; clear C26; rintro e W5 ⟨rfl, hw5⟩
             have far5 := hid (far4.out.on hw5)
             clear hw5))
        go_roundw
        case rel =>
          refine ⟨j + 1, by omega, by go_num, hid (fun t ht => ?_), far5⟩
          rcases Nat.lt_succ_iff_lt_or_eq.1 ht with h | rfl
          · exact HS.out t h
          · exact HSJ.out
        case measure => simp [intOf]; omega
      · have HSJ := hid hs
        go_wp2_with (first
          | (go_at_call 29; refine C25.out.mono ?_; clear C25; rintro e W4 ⟨⟨a4, cap4, rfl, hb4⟩, hw4⟩
             have far4 := far.out.on hw4
             have y0 := far4.c0
             have y1 := far4.c1
             have C26 := hid (holds30 u a a4 n cap u cap4 cs (Tru.model u j) W4 HN.out (by have := HNN.out; omega) (Tru.model_len u j) (by have := HU.out; omega) HL.out (HC.out.below far4.below) hb4)
             rw [show Cnf.holds cs (Tru.model u j) = true from hs] at C26
             replace far4 := hid far4
             replace hb4 := hid hb4
             clear hw4)
          | (go_at_call 30; refine C26.out.mono ?_; clear C26; rintro e W5 ⟨rfl, hw5⟩
             have far5 := hid (far4.out.on hw5)
             have HB5 := hid (hb4.out.below hw5)
             clear hw5))
        refine bodyPost_ret (results_tmp3 rfl _ _ _) rfl ?_
        exact ⟨.inl ⟨j, a4, cap4, by rw [HP.out]; exact hlt, HSJ.out, HS.out, rfl, HB5.out⟩, far5.out.below⟩
    · have hge : ¬ (j : Int) < P := by omega
      obtain rfl : j = P := by omega
      go_wp2
      refine bodyPost_ret (results_tmp3 rfl _ _ _) rfl ?_
      exact ⟨.inr ⟨by rw [HP.out]; exact HS.out, rfl⟩, far.out.below⟩
end Go.Proofs.Ytjjanmgeogjngaa

