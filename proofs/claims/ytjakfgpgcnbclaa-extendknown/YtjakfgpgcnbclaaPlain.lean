/- Plain functions on lists of integers and of Booleans: what the document's words on literals, clauses and models say; nothing of the program. -/
import Init
namespace Cnf

def vr (l : Int) : Int := if l < 0 then -l else l
def tr (l : Int) (m : List Bool) : Bool := decide (1 ≤ vr l) && (decide (vr l ≤ m.length) && (m.getD (vr l - 1).toNat false == decide (0 < l)))
def val (c : List Int) (m : List Bool) : Bool := c.any (fun l => tr l m)

theorem vr_nonneg (l : Int) : 0 ≤ vr l := by unfold vr; split <;> omega
theorem vr_le (l : Int) (h1 : -2147483648 ≤ l) (h2 : l ≤ 2147483647) : vr l ≤ 2147483648 := by unfold vr; split <;> omega


theorem take_snoc (xs : List Int) (k : Nat) (h : k < xs.length) : xs.take (k + 1) = xs.take k ++ [xs.getD k 0] := by
  rw [List.take_succ_eq_append_getElem h]; simp [List.getD, List.getElem?_eq_getElem h]
theorem getD_mem (xs : List Int) (k : Nat) (h : k < xs.length) : xs.getD k 0 ∈ xs := by simp [List.getD, List.getElem?_eq_getElem h]
theorem val_take (xs : List Int) (m : List Bool) (k : Nat) (h : k < xs.length) : val (xs.take (k + 1)) m = (val (xs.take k) m || tr (xs.getD k 0) m) := by
  rw [take_snoc xs k h]; simp [val]
theorem val_true (xs : List Int) (m : List Bool) (k : Nat) (h : k < xs.length) (ht : tr (xs.getD k 0) m = true) : val xs m = true := by
  simp only [val, List.any_eq_true]; exact ⟨_, getD_mem xs k h, ht⟩


/-! ### The order of literals -/
def cmp3 (x y : Int) : Int := if x < y then -1 else if y < x then 1 else 0
def cmpL (a b : Int) : Int := if vr a < vr b then -1 else if vr b < vr a then 1 else cmp3 a b
def LtL (a b : Int) : Prop := vr a < vr b ∨ (vr a = vr b ∧ a < b)

theorem cmpL_neg (a b : Int) : cmpL a b < 0 ↔ LtL a b := by
  unfold cmpL cmp3 LtL
  split
  · constructor <;> intro <;> omega
  · split
    · constructor <;> intro <;> omega
    · split
      · constructor <;> intro <;> omega
      · split <;> constructor <;> intro <;> omega
theorem cmpL_zero (a b : Int) : cmpL a b = 0 ↔ a = b := by
  unfold cmpL cmp3
  constructor
  · intro h
    split at h
    · omega
    · split at h
      · omega
      · split at h
        · omega
        · split at h <;> omega
  · intro h
    subst h
    simp
theorem LtL.irrefl (a : Int) : ¬ LtL a a := by unfold LtL; omega
theorem LtL.trans {a b c : Int} (h1 : LtL a b) (h2 : LtL b c) : LtL a c := by unfold LtL at *; omega
theorem LtL.total {a b : Int} (h1 : ¬ LtL a b) (h2 : ¬ LtL b a) : a = b := by unfold LtL at *; omega

/-- The row ys is the set of xs in order, each once. -/
def Nrm (xs ys : List Int) : Prop := ys.Pairwise LtL ∧ ∀ x, x ∈ ys ↔ x ∈ xs

theorem sorted_eq : ∀ {ys zs : List Int}, ys.Pairwise LtL → zs.Pairwise LtL → (∀ x, x ∈ ys ↔ x ∈ zs) → ys = zs
  | [], [], _, _, _ => rfl
  | [], z :: zs, _, _, h => by have := (h z).2 (by simp); simp at this
  | y :: ys, [], _, _, h => by have := (h y).1 (by simp); simp at this
  | y :: ys, z :: zs, h1, h2, h => by
    have a1 := List.pairwise_cons.1 h1
    have a2 := List.pairwise_cons.1 h2
    have e : y = z := by
      have b1 := (h y).1 (by simp)
      have b2 := (h z).2 (by simp)
      simp only [List.mem_cons] at b1 b2
      rcases b1 with b1 | b1
      · exact b1
      · rcases b2 with b2 | b2
        · exact b2.symm
        · exact absurd ((a1.1 z b2).trans (a2.1 y b1)) (LtL.irrefl y)
    subst e
    have t : ys = zs := sorted_eq a1.2 a2.2 (fun x => by
      have hx := h x
      simp only [List.mem_cons] at hx
      constructor
      · intro m
        rcases hx.1 (Or.inr m) with e | e
        · subst e; exact absurd (a1.1 x m) (LtL.irrefl x)
        · exact e
      · intro m
        rcases hx.2 (Or.inr m) with e | e
        · subst e; exact absurd (a2.1 x m) (LtL.irrefl x)
        · exact e)
    rw [t]

theorem Nrm.unique {xs ys zs : List Int} (h1 : Nrm xs ys) (h2 : Nrm xs zs) : ys = zs := sorted_eq h1.1 h2.1 (fun x => (h1.2 x).trans (h2.2 x).symm)

/-! ### What a row has -/
def has (xs : List Int) (x : Int) : Bool := xs.any (fun y => x == y)
theorem has_iff (xs : List Int) (x : Int) : has xs x = true ↔ x ∈ xs := by simp [has]
theorem has_false (xs : List Int) (x : Int) : has xs x = false ↔ x ∉ xs := by rw [← has_iff]; simp
def but (xs : List Int) (l : Int) : List Int := xs.filter (fun x => x != l)
theorem mem_but (xs : List Int) (l x : Int) : x ∈ but xs l ↔ x ∈ xs ∧ x ≠ l := by simp [but]
theorem but_take (xs : List Int) (l : Int) (k : Nat) (h : k < xs.length) : but (xs.take (k + 1)) l = but (xs.take k) l ++ (if xs.getD k 0 != l then [xs.getD k 0] else []) := by
  rw [take_snoc xs k h]
  unfold but
  rw [List.filter_append]
  congr 1
  generalize xs.getD k 0 = y
  by_cases e : y = l <;> simp [e]
theorem but_len (xs : List Int) (l : Int) : (but xs l).length ≤ xs.length := List.length_filter_le _ _

def both (xs : List Int) : Bool := xs.any (fun x => decide (0 < x) && xs.contains (-x))

end Cnf
