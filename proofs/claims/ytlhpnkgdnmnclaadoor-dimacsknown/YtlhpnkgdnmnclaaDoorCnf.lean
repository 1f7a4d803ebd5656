/- Literals and formulas: the calls of Var; what makes a formula right. -/
import Derived.Test.YtlhpnkgdnmnclaaDoorParse9
namespace Cnf
set_option linter.unusedVariables false
def vr (l : Int) : Int := if l < 0 then -l else l
theorem vr_nonneg (l : Int) : 0 ≤ vr l := by unfold vr; split <;> omega
theorem vr_le (l : Int) (h1 : -2147483648 ≤ l) (h2 : l ≤ 2147483647) : vr l ≤ 2147483648 := by unfold vr; split <;> omega
theorem take_snoc (xs : List Int) (k : Nat) (h : k < xs.length) : xs.take (k + 1) = xs.take k ++ [xs.getD k 0] := by
  rw [List.take_succ_eq_append_getElem h]; simp [List.getD, List.getElem?_eq_getElem h]
theorem getD_mem (xs : List Int) (k : Nat) (h : k < xs.length) : xs.getD k 0 ∈ xs := by simp [List.getD, List.getElem?_eq_getElem h]

def scan (vars : Int) : Nat → List Int → Int
  | _, [] => 0
  | c, l :: ls => if 16777216 < c + 1 then 3 else if vr l < 1 ∨ vars < vr l then 4 else scan vars (c + 1) ls
def right (vars : Int) (cs : List (List Int)) : Int := if vars < 0 ∨ 1048576 < vars then 2 else if 1048576 < cs.length then 3 else scan vars 0 cs.flatten

def okc (c : Nat) : Prop := c ≤ 16777216
theorem okc_zero : okc 0 := Nat.zero_le _

theorem drop_cons (xs : List Int) (k : Nat) (h : k < xs.length) : xs.drop k = xs.getD k 0 :: xs.drop (k + 1) := by
  rw [List.drop_eq_getElem_cons h]; simp [List.getD, h]
theorem drop_flat (cs : List (List Int)) (i : Nat) (h : i < cs.length) : (cs.drop i).flatten = cs.getD i [] ++ (cs.drop (i + 1)).flatten := by
  rw [List.drop_eq_getElem_cons h, List.flatten_cons]
  congr 1
  simp [List.getD, h]
theorem take_cls (cs : List (List Int)) (k : Nat) (h : k < cs.length) : cs.take (k + 1) = cs.take k ++ [cs.getD k []] := by
  rw [List.take_succ_eq_append_getElem h]; simp [List.getD, List.getElem?_eq_getElem h]
theorem getD_cls (cs : List (List Int)) (k : Nat) (h : k < cs.length) : cs.getD k [] ∈ cs := by simp [List.getD, List.getElem?_eq_getElem h]
theorem scan_limit (vars : Int) (c : Nat) (l : Int) (ls : List Int) (h : 16777216 < c + 1) : scan vars c (l :: ls) = 3 := by simp [scan, h]
theorem scan_lit (vars : Int) (c : Nat) (l : Int) (ls : List Int) (h : ¬ 16777216 < c + 1) (h2 : vr l < 1 ∨ vars < vr l) : scan vars c (l :: ls) = 4 := by
  unfold scan; rw [if_neg h, if_pos h2]
theorem scan_on (vars : Int) (c : Nat) (l : Int) (ls : List Int) (h : ¬ 16777216 < c + 1) (h2 : ¬ (vr l < 1 ∨ vars < vr l)) : scan vars c (l :: ls) = scan vars (c + 1) ls := by
  rw [scan, if_neg h, if_neg h2]
theorem flat_len (cs : List (List Int)) (k : Nat) (h : k < cs.length) : ((cs.take (k + 1)).flatten).length = ((cs.take k).flatten).length + (cs.getD k []).length := by
  rw [take_cls cs k h]; simp

end Cnf
namespace Go.Proofs.YtlhpnkgdnmnclaaDoor
open Go.RowKit
set_option linter.unusedVariables false

theorem ret_bool {a b : Bool} (h : a = b) : Ending.returned (.bool a) = .returned (.bool b) := by rw [h]
theorem Lits.at {w : World} {a : Option Addr} {xs : List Int} (h : Lits w a xs) {k : Nat} (hk : k < xs.length) :
    ∃ b off, a = some ⟨b, off, none⟩ ∧ w.cell? ⟨b, off + k, none⟩ = some (.int .i32 (xs.getD k 0)) ∧ -2147483648 ≤ xs.getD k 0 ∧ xs.getD k 0 ≤ 2147483647 := by
  have hm : xs.getD k 0 ∈ xs := by simp [List.getD, List.getElem?_eq_getElem hk]
  rcases h.2 with rfl | ⟨b, off, e, hl, hc⟩
  · simp at hk
  · exact ⟨b, off, e, hc k hk, (h.1 _ hm).1, (h.1 _ hm).2⟩

theorem Cls.at {w : World} {a : Option Addr} {cs : List (List Int)} (h : Cls w a cs) {k : Nat} (hk : k < cs.length) :
    ∃ b off a' cap', a = some ⟨b, off, none⟩ ∧ b < w.heap.size ∧ w.cell? ⟨b, off + k, none⟩ = some (.slice a' (cs.getD k []).length cap') ∧ Lits w a' (cs.getD k []) ∧ (cs.getD k []).length ≤ 35184372088832 := by
  rcases h.2 with rfl | ⟨b, off, e, hl, hc⟩
  · simp at hk
  · obtain ⟨a', cap', h1, h2⟩ := hc k hk
    exact ⟨b, off, a', cap', e, hl, h1, h2, h.1 _ (Cnf.getD_cls cs k hk)⟩

theorem below_box (w : World) (o : Obj) : Below w.heap.size w (w.alloc o) := (Below.refl _ _).alloc (Nat.le_refl _) o

theorem ret_num {a b : Int} (h : a = b) : Ending.returned (.int .i64 a) = .returned (.int .i64 b) := by rw [h]

set_option maxHeartbeats 400000 in
theorem var35 (l : Int) (w : World) (h1 : -2147483648 ≤ l) (h2 : l ≤ 2147483647) :
    Calls Tryd.prog 35 #[.int .i32 l] w fun e w' => e = .returned (.int .i64 (Cnf.vr l)) ∧ w' = w := by
  by_cases h : l < 0
  · have e : Cnf.vr l = -l := by simp [Cnf.vr, h]
    rw [e]
    go_enter Tryd.func35, Tryd.ntmps35
    go_wp2
    go_ret
    exact ⟨rfl, rfl⟩
  · have e : Cnf.vr l = l := by simp [Cnf.vr, h]
    rw [e]
    go_enter Tryd.func35, Tryd.ntmps35
    go_wp2
    go_ret
    exact ⟨rfl, rfl⟩

set_option maxHeartbeats 400000 in
theorem var44 (l : Int) (w : World) (h1 : -2147483648 ≤ l) (h2 : l ≤ 2147483647) :
    Calls Tryd.prog 44 #[.int .i32 l] w fun e w' => e = .returned (.int .i64 (Cnf.vr l)) ∧ w' = w := by
  by_cases h : l < 0
  · have e : Cnf.vr l = -l := by simp [Cnf.vr, h]
    rw [e]
    go_enter Tryd.func44, Tryd.ntmps44
    go_wp2
    go_ret
    exact ⟨rfl, rfl⟩
  · have e : Cnf.vr l = l := by simp [Cnf.vr, h]
    rw [e]
    go_enter Tryd.func44, Tryd.ntmps44
    go_wp2
    go_ret
    exact ⟨rfl, rfl⟩

end Go.Proofs.YtlhpnkgdnmnclaaDoor
