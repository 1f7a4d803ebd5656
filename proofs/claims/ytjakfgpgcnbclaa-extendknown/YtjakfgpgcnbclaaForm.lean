/- Formulas: how they lie in memory; whether they are right; whether a model makes them true. -/
import Derived.Test.YtjakfgpgcnbclaaLeaf
namespace Cnf

def scan (vars : Int) : Nat → List Int → Int
  | _, [] => 0
  | c, l :: ls => if 16777216 < c + 1 then 3 else if vr l < 1 ∨ vars < vr l then 4 else scan vars (c + 1) ls
def right (vars : Int) (cs : List (List Int)) : Int := if vars < 0 ∨ 1048576 < vars then 2 else if 1048576 < cs.length then 3 else scan vars 0 cs.flatten
def holds (cs : List (List Int)) (m : List Bool) : Bool := cs.all (fun c => val c m)

def okc (c : Nat) : Prop := c ≤ 16777216
theorem okc_zero : okc 0 := Nat.zero_le _

theorem drop_cons (xs : List Int) (k : Nat) (h : k < xs.length) : xs.drop k = xs.getD k 0 :: xs.drop (k + 1) := by
  rw [List.drop_eq_getElem_cons h]; simp [List.getD, h]
theorem drop_flat (cs : List (List Int)) (i : Nat) (h : i < cs.length) : (cs.drop i).flatten = cs.getD i [] ++ (cs.drop (i + 1)).flatten := by
  rw [List.drop_eq_getElem_cons h, List.flatten_cons]
  congr 1
  simp [List.getD, h]
theorem take_cls (cs : List (List Int)) (k : Nat) (h : k < cs.length) : cs.take (k + 1) = cs.take k ++ [cs.getD k []] := by
  rw [List.take_succ_eq_append_getElem h]; simp [List.getD, List.getElem?_eq_getElem h]
theorem getD_cls (cs : List (List Int)) (k : Nat) (h : k < cs.length) : cs.getD k [] ∈ cs := by simp [List.getD, List.getElem?_eq_getElem h]
theorem holds_take (cs : List (List Int)) (m : List Bool) (k : Nat) (h : k < cs.length) : holds (cs.take (k + 1)) m = (holds (cs.take k) m && val (cs.getD k []) m) := by
  rw [take_cls cs k h]; simp [holds]
theorem holds_false (cs : List (List Int)) (m : List Bool) (k : Nat) (h : k < cs.length) (hf : val (cs.getD k []) m = false) : holds cs m = false := by
  cases hs : holds cs m
  · rfl
  · have := List.all_eq_true.1 hs _ (getD_cls cs k h)
    rw [hf] at this
    cases this
theorem scan_limit (vars : Int) (c : Nat) (l : Int) (ls : List Int) (h : 16777216 < c + 1) : scan vars c (l :: ls) = 3 := by simp [scan, h]
theorem scan_lit (vars : Int) (c : Nat) (l : Int) (ls : List Int) (h : ¬ 16777216 < c + 1) (h2 : vr l < 1 ∨ vars < vr l) : scan vars c (l :: ls) = 4 := by
  unfold scan; rw [if_neg h, if_pos h2]
theorem scan_on (vars : Int) (c : Nat) (l : Int) (ls : List Int) (h : ¬ 16777216 < c + 1) (h2 : ¬ (vr l < 1 ∨ vars < vr l)) : scan vars c (l :: ls) = scan vars (c + 1) ls := by
  rw [scan, if_neg h, if_neg h2]
theorem flat_len (cs : List (List Int)) (k : Nat) (h : k < cs.length) : ((cs.take (k + 1)).flatten).length = ((cs.take k).flatten).length + (cs.getD k []).length := by
  rw [take_cls cs k h]; simp

end Cnf
namespace Go.Proofs.Ytjakfgpgcnbclaa
open Go.RowKit
set_option linter.unusedVariables false

/-- A row of clauses. -/
def Cls (w : World) (a : Option Addr) (cs : List (List Int)) : Prop :=
  (∀ c ∈ cs, c.length ≤ 35184372088832) ∧ (cs = [] ∨ ∃ b off, a = some ⟨b, off, none⟩ ∧ b < w.heap.size ∧ ∀ j, j < cs.length → ∃ a' cap', w.cell? ⟨b, off + j, none⟩ = some (.slice a' (cs.getD j []).length cap') ∧ Lits w a' (cs.getD j []))

theorem Cls.below {w w' : World} {a : Option Addr} {cs : List (List Int)} (h : Cls w a cs) (hb : Below w.heap.size w w') : Cls w' a cs := by
  refine ⟨h.1, ?_⟩
  rcases h.2 with h | ⟨b, off, e, hl, hc⟩
  · exact .inl h
  · refine .inr ⟨b, off, e, Nat.lt_of_lt_of_le hl hb.size, fun j hj => ?_⟩
    obtain ⟨a', cap', h1, h2⟩ := hc j hj
    exact ⟨a', cap', (hb.cell (p := ⟨b, off + j, none⟩) hl).trans h1, h2.below hb⟩

theorem Cls.at {w : World} {a : Option Addr} {cs : List (List Int)} (h : Cls w a cs) {k : Nat} (hk : k < cs.length) :
    ∃ b off a' cap', a = some ⟨b, off, none⟩ ∧ b < w.heap.size ∧ w.cell? ⟨b, off + k, none⟩ = some (.slice a' (cs.getD k []).length cap') ∧ Lits w a' (cs.getD k []) ∧ (cs.getD k []).length ≤ 35184372088832 := by
  rcases h.2 with rfl | ⟨b, off, e, hl, hc⟩
  · simp at hk
  · obtain ⟨a', cap', h1, h2⟩ := hc k hk
    exact ⟨b, off, a', cap', e, hl, h1, h2, h.1 _ (Cnf.getD_cls cs k hk)⟩

theorem below_box (w : World) (o : Obj) : Below w.heap.size w (w.alloc o) := (Below.refl _ _).alloc (Nat.le_refl _) o

theorem ret_num {a b : Int} (h : a = b) : Ending.returned (.int .i64 a) = .returned (.int .i64 b) := by rw [h]

set_option maxHeartbeats 2000000 in
theorem holds16 (vars : Int) (a am : Option Addr) (n cap nm capm : Nat) (cs : List (List Int)) (m : List Bool) (w : World) (hn : cs.length = n) (hN : n ≤ 8796093022208) (hnm : m.length = nm) (hM : nm ≤ 35184372088832) (hb3 : ∀ c ∈ cs, c.length ≤ 35184372088832) (hc : Cls w a cs) (hm : Bools w am m) :
    Calls Try.prog 16 #[.agg #[.int .i64 vars, .slice a n cap], .slice am nm capm] w fun e w' => e = .returned (.bool (Cnf.holds cs m)) ∧ Below w.heap.size w w' := by
  have HC := hid (hc.below (below_box w (.cells #[.int .i64 vars, .slice a n cap] 34)))
  have HM := hid (hm.below (below_box w (.cells #[.int .i64 vars, .slice a n cap] 34)))
  have HN := hid hn
  have HNM := hid hnm
  have HB3 := hid hb3
  clear hc hn hm hnm hb3
  go_enter Try.func16, Try.ntmps16
  go_wp2
  go_loop [10] (fun i => ∃ k : Nat, k ≤ n ∧ i = .int .i64 k ∧ Cnf.holds (cs.take k) m = true) (fun i => n - (intOf i).toNat)
  case atStart => exact ⟨0, Nat.zero_le _, rfl, rfl⟩
  case round =>
    obtain ⟨k, hk, rfl, hv⟩ := hrel
    have HV := hid hv
    clear hv
    by_cases hlt : k < n
    · obtain ⟨b, off, a', cap', rfl, hbl, hcell, hL, hln⟩ := HC.out.at (k := k) (by rw [HN.out]; exact hlt)
      have HS := hid (Cnf.holds_take cs m k (by rw [HN.out]; exact hlt))
      have HF := hid (Cnf.holds_false cs m k (by rw [HN.out]; exact hlt))
      have C := hid (value19 a' am (cs.getD k []).length cap' nm capm (cs.getD k []) m _ rfl (HB3.out _ (Cnf.getD_cls cs k (by rw [HN.out]; exact hlt))) HNM.out hM hL HM.out)
      clear hL
      generalize Cnf.val (cs.getD k []) m = r at C HS HF
      generalize (cs.getD k []).length = ln at hcell hln C
      cases r
      · go_wp2_with (go_at_call 19; refine C.out.mono ?_; rintro e w' ⟨rfl, rfl⟩)
        go_ret
        exact ⟨ret_bool (HF.out (by simp)).symm, below_box _ _⟩
      · go_wp2_with (go_at_call 19; refine C.out.mono ?_; rintro e w' ⟨rfl, rfl⟩)
        go_round
        case rel => exact ⟨k + 1, by omega, by go_num, by rw [HS.out, HV.out]; rfl⟩
        case measure => simp [intOf]; omega
    · go_wp2
      go_ret
      have e : cs.take k = cs := List.take_of_length_le (by rw [HN.out]; omega)
      exact ⟨ret_bool (by have h := HV.out; rw [e] at h; exact h.symm), below_box _ _⟩

end Go.Proofs.Ytjakfgpgcnbclaa
