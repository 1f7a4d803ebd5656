/- Plain: a sorted row, its runs of equals made one, is the set in order; and what its neighbours tell. -/
import Derived.Test.YtccbcijkahnkkaaPlain
import Derived.Lib.SlicesCompact
import Derived.Sort.Statements
import Derived.Shelf.SlSortCmp.Insertion
namespace Cnf
open Go Go.Sort Go.Lib Go.Proofs Go.Shelf

def cf32 (x y : Int32) : Int := cmpL x.toInt y.toInt
def enc32 (x : Int32) : Value := .int .i32 x.toInt
def to32 (xs : List Int) : List Int32 := xs.map Int32.ofInt

theorem lt32 (x y : Int32) : ltOf cf32 x y = true ↔ LtL x.toInt y.toInt := by
  unfold ltOf cf32; rw [decide_eq_true_iff]; exact cmpL_neg _ _
theorem lt32f (x y : Int32) : ltOf cf32 x y = false ↔ ¬ LtL x.toInt y.toInt := by
  rw [← lt32]; simp
theorem swo32 : SWO (ltOf cf32) where
  irrefl x := by rw [lt32f]; exact LtL.irrefl _
  trans x y z h1 h2 := by rw [lt32] at *; exact h1.trans h2
  ntrans x y z h1 h2 := by rw [lt32f] at *; unfold LtL at *; omega
theorem toInt_to32 (x : Int) (h1 : -2147483648 ≤ x) (h2 : x ≤ 2147483647) : (Int32.ofInt x).toInt = x :=
  Int32.toInt_ofInt_of_le (by simpa using h1) (by simp; omega)
theorem bounds32 (x : Int32) : -2147483648 ≤ x.toInt ∧ x.toInt ≤ 2147483647 := by
  have h1 := x.le_toInt
  have h2 := x.toInt_lt
  constructor <;> omega
theorem enc_to32 (xs : List Int) (h : ∀ x ∈ xs, -2147483648 ≤ x ∧ x ≤ 2147483647) : (to32 xs).map enc32 = xs.map (Value.int .i32) := by
  unfold to32
  rw [List.map_map]
  apply List.map_congr_left
  intro x hx
  simp [enc32, toInt_to32 x (h x hx).1 (h x hx).2]
theorem back_to32 (xs : List Int) (h : ∀ x ∈ xs, -2147483648 ≤ x ∧ x ≤ 2147483647) : (to32 xs).map Int32.toInt = xs := by
  unfold to32
  rw [List.map_map]
  conv => rhs; rw [← List.map_id xs]
  apply List.map_congr_left
  intro x hx
  simp [toInt_to32 x (h x hx).1 (h x hx).2]

theorem mem_compact (d : Array Int32) : ∀ (m : Nat), m ≤ d.size → ∀ x, x ∈ compactUpTo d m ↔ ∃ i, i < m ∧ d[i]! = x
  | 0, _, x => by simp [compactUpTo]
  | m + 1, hm, x => by
    rw [compactUpTo_succ, List.mem_append, mem_compact d m (by omega) x]
    constructor
    · rintro (⟨i, hi, e⟩ | h)
      · exact ⟨i, by omega, e⟩
      · split at h
        · simp at h; exact ⟨m, by omega, h.symm⟩
        · simp at h
    · rintro ⟨i, hi, e⟩
      by_cases h : i < m
      · exact Or.inl ⟨i, h, e⟩
      · have : i = m := by omega
        subst this
        by_cases hk : keeps d i = true
        · right; simp [hk, e]
        · left
          have hk' : ¬ (i = 0 ∨ d[i]! ≠ d[i - 1]!) := by simpa [keeps] using hk
          have h0 : i ≠ 0 := fun e => hk' (Or.inl e)
          have h1 : d[i]! = d[i - 1]! := Classical.byContradiction fun e => hk' (Or.inr e)
          exact ⟨i - 1, by omega, by rw [← h1]; exact e⟩

theorem pairwise_compact (d : Array Int32) (hs : SortedIn (ltOf cf32) 0 d.size d) : ∀ (m : Nat), m ≤ d.size → (compactUpTo d m).Pairwise (fun x y => LtL x.toInt y.toInt)
  | 0, _ => by simp [compactUpTo]
  | m + 1, hm => by
    rw [compactUpTo_succ, List.pairwise_append]
    refine ⟨pairwise_compact d hs m (by omega), by split <;> simp, ?_⟩
    intro a ha b hb
    split at hb
    · rename_i hk
      simp at hb
      subst hb
      obtain ⟨i, hi, rfl⟩ := (mem_compact d m (by omega) a).1 ha
      have hk' : m = 0 ∨ d[m]! ≠ d[m - 1]! := by simpa [keeps] using hk
      have hne : d[m]! ≠ d[m - 1]! := by
        rcases hk' with h | h
        · omega
        · exact h
      have h1 : ¬ LtL d[m]!.toInt d[m - 1]!.toInt := (lt32f _ _).1 (hs (m - 1) m (by omega) (by omega) (by omega))
      have h2 : LtL d[m - 1]!.toInt d[m]!.toInt := Classical.byContradiction fun h => hne (Int32.toInt_inj.1 (LtL.total h1 h))
      by_cases hi' : i = m - 1
      · rw [hi']; exact h2
      · have h3 : ¬ LtL d[m - 1]!.toInt d[i]!.toInt := (lt32f _ _).1 (hs i (m - 1) (by omega) (by omega) (by omega))
        unfold LtL at *; omega
    · simp at hb

theorem nrm_compact (xs : List Int) (hb : ∀ x ∈ xs, -2147483648 ≤ x ∧ x ≤ 2147483647) (d : Array Int32) (hp : PermIn 0 (to32 xs).toArray.size (to32 xs).toArray d) (hs : SortedIn (ltOf cf32) 0 (to32 xs).toArray.size d) :
    Nrm xs ((compactUpTo d d.size).map Int32.toInt) ∧ d.size = xs.length := by
  obtain ⟨hz, _, hperm⟩ := hp
  have hz' : d.size = xs.length := by rw [hz]; simp [to32]
  rw [← hz] at hs hperm
  refine ⟨⟨?_, ?_⟩, hz'⟩
  · rw [List.pairwise_map]
    exact pairwise_compact d hs d.size (Nat.le_refl _)
  · intro x
    have e1 : (d.extract 0 d.size).toList = d.toList := by simp
    have e2 : ((to32 xs).toArray.extract 0 d.size).toList = to32 xs := by
      simp [hz', to32]
      exact List.take_of_length_le (by simp)
    rw [e1, e2] at hperm
    have hm : ∀ y, y ∈ compactUpTo d d.size ↔ y ∈ to32 xs := by
      intro y
      rw [← hperm.mem_iff, mem_compact d d.size (Nat.le_refl _) y]
      constructor
      · rintro ⟨i, hi, rfl⟩
        simp [getElem!_pos, hi]
      · intro h
        obtain ⟨i, hi, e⟩ := List.getElem_of_mem h
        have hi' : i < d.size := by simpa using hi
        exact ⟨i, hi', by rw [getElem!_pos d i hi', ← e]; simp⟩
    constructor
    · intro h
      obtain ⟨y, hy, rfl⟩ := List.mem_map.1 h
      have := (hm y).1 hy
      have h2 : y.toInt ∈ (to32 xs).map Int32.toInt := List.mem_map.2 ⟨y, this, rfl⟩
      rw [back_to32 xs hb] at h2
      exact h2
    · intro h
      have h2 : x ∈ (to32 xs).map Int32.toInt := by rw [back_to32 xs hb]; exact h
      obtain ⟨y, hy, rfl⟩ := List.mem_map.1 h2
      exact List.mem_map.2 ⟨y, (hm y).2 hy, rfl⟩

/-- Two neighbours of one variable: a literal and its negation. -/
theorem both_of_near {xs ys : List Int} (h : Nrm xs ys) (k : Nat) (h1 : 1 ≤ k) (h2 : k < ys.length) (e : vr (ys.getD (k - 1) 0) = vr (ys.getD k 0)) : both xs = true := by
  have m1 := getD_mem ys (k - 1) (by omega)
  have m2 := getD_mem ys k h2
  have hl : LtL (ys.getD (k - 1) 0) (ys.getD k 0) := by
    have := List.pairwise_iff_getElem.1 h.1 (k - 1) k (by omega) h2 (by omega)
    simpa [List.getD, List.getElem?_eq_getElem h2, List.getElem?_eq_getElem (show k - 1 < ys.length by omega)] using this
  generalize ys.getD (k - 1) 0 = a at *
  generalize ys.getD k 0 = b at *
  have hab : a = -b ∧ 0 < b := by unfold LtL at hl; unfold vr at *; split at e <;> split at e <;> omega
  unfold both
  rw [List.any_eq_true]
  refine ⟨b, (h.2 b).1 m2, ?_⟩
  have : -b ∈ xs := by rw [← hab.1]; exact (h.2 a).1 m1
  simp [hab.2, this]

theorem near_of_both {xs ys : List Int} (h : Nrm xs ys) (hb : both xs = true) : ∃ k, 1 ≤ k ∧ k < ys.length ∧ vr (ys.getD (k - 1) 0) = vr (ys.getD k 0) := by
  unfold both at hb
  rw [List.any_eq_true] at hb
  obtain ⟨b, hb1, hb2⟩ := hb
  simp at hb2
  obtain ⟨hpos, hneg⟩ := hb2
  have m1 := (h.2 b).2 hb1
  have m2 := (h.2 (-b)).2 hneg
  obtain ⟨j, hj, ej⟩ := List.getElem_of_mem m1
  obtain ⟨i, hi, ei⟩ := List.getElem_of_mem m2
  have P := List.pairwise_iff_getElem.1 h.1
  have hij : i < j := by
    rcases Nat.lt_trichotomy i j with h | h | h
    · exact h
    · subst h; rw [ej] at ei; omega
    · have := P j i hj hi h; rw [ej, ei] at this; unfold LtL vr at this; split at this <;> split at this <;> omega
  have hk : j = i + 1 := by
    rcases Nat.lt_or_ge (i + 1) j with h' | h'
    · have a1 := P i (i + 1) hi (by omega) (by omega)
      have a2 := P (i + 1) j (by omega) hj h'
      rw [ei] at a1; rw [ej] at a2
      generalize ys[i + 1] = c at *
      unfold LtL vr at *
      split at a1 <;> split at a1 <;> split at a2 <;> omega
    · omega
  subst hk
  refine ⟨i + 1, by omega, hj, ?_⟩
  simp only [List.getD, Nat.add_sub_cancel, List.getElem?_eq_getElem hj, List.getElem?_eq_getElem hi, Option.getD_some, ei, ej]
  unfold vr; split <;> split <;> omega

theorem both_false {xs ys : List Int} (h : Nrm xs ys) (hn : ∀ k, 1 ≤ k → k < ys.length → vr (ys.getD (k - 1) 0) ≠ vr (ys.getD k 0)) : both xs = false := by
  cases hb : both xs
  · rfl
  · obtain ⟨k, h1, h2, e⟩ := near_of_both h hb
    exact absurd e (hn k h1 h2)

end Cnf
