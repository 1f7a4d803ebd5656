/- Sorting in place, plainly. -/
import Derived.Test.YtjbnkkjihcoojaaHpP
namespace Hpp
/-- In order from a to b. -/
def Sin (s : List Int) (a b : Nat) (ds : List Nat) : Prop := ∀ p q, a ≤ p → p < q → q < b → bef s (ds.getD p 0) (ds.getD q 0)
/-- Turned about between a and b alone. -/
def PI (a b : Nat) (ds' ds : List Nat) : Prop := ds'.Perm ds ∧ ∀ k, (k < a ∨ b ≤ k) → ds'.getD k 0 = ds.getD k 0
theorem PI.refl (a b : Nat) (ds : List Nat) : PI a b ds ds := ⟨.refl _, fun _ _ => rfl⟩
theorem PI.trans {a b : Nat} {x y z : List Nat} (h : PI a b x y) (k : PI a b y z) : PI a b x z := ⟨h.1.trans k.1, fun i hi => (h.2 i hi).trans (k.2 i hi)⟩
theorem PI.wide {a b a' b' : Nat} {x y : List Nat} (h : PI a b x y) (ha : a' ≤ a) (hb : b ≤ b') : PI a' b' x y := ⟨h.1, fun i hi => h.2 i (by omega)⟩
theorem PI.len {a b : Nat} {x y : List Nat} (h : PI a b x y) : x.length = y.length := h.1.length_eq
theorem PI.swp {a b i j : Nat} {ds : List Nat} (hi : a ≤ i ∧ i < b) (hj : a ≤ j ∧ j < b) (hb : b ≤ ds.length) : PI a b (swp ds i j) ds :=
  ⟨swp_perm (by omega) (by omega), fun k hk => by rw [swp_get (by omega) (by omega), if_neg (by omega), if_neg (by omega)]⟩
theorem nd_inj {ds : List Nat} (h : ds.Nodup) {i j : Nat} (hi : i < ds.length) (hj : j < ds.length) (e : ds.getD i 0 = ds.getD j 0) : i = j := by
  rw [getD_el ds hi, getD_el ds hj] at e
  have hp := List.pairwise_iff_getElem.1 (List.nodup_iff_pairwise_ne.1 h)
  rcases Nat.lt_trichotomy i j with hij | hij | hij
  · exact absurd e (hp i j hi hj hij)
  · exact hij
  · exact absurd e.symm (hp j i hj hi hij)
/-- What stands between a and b stood there. -/
theorem PI.from {a b : Nat} {x y : List Nat} (h : PI a b x y) (hd : y.Nodup) (hb : b ≤ y.length) {k : Nat} (hk : a ≤ k ∧ k < b) : ∃ j, (a ≤ j ∧ j < b) ∧ x.getD k 0 = y.getD j 0 := by
  have hl := h.len
  have hx : x.Nodup := h.1.nodup_iff.2 hd
  have hm : x.getD k 0 ∈ y := h.1.mem_iff.1 (by rw [getD_el x (by omega)]; exact List.getElem_mem _)
  obtain ⟨j, hj, e⟩ := List.getElem_of_mem hm
  refine ⟨j, ?_, by rw [getD_el y hj, e]⟩
  by_cases hjj : a ≤ j ∧ j < b
  · exact hjj
  · have h1 := h.2 j (by omega)
    rw [getD_el y hj, e] at h1
    have := nd_inj hx (by omega) (by omega) h1
    omega
/-- On the way down, insertion. -/
def InsI (s : List Int) (a i j : Nat) (ds : List Nat) : Prop :=
  (∀ p q, a ≤ p → p < q → q ≤ i → p ≠ j → q ≠ j → bef s (ds.getD p 0) (ds.getD q 0)) ∧ (∀ q, j < q → q ≤ i → bef s (ds.getD j 0) (ds.getD q 0))
theorem InsI.start {s : List Int} {a i : Nat} {ds : List Nat} (h : Sin s a i ds) : InsI s a i i ds :=
  ⟨fun p q h1 h2 h3 h4 h5 => h p q h1 h2 (by omega), fun q h1 h2 => by omega⟩
theorem InsI.step {s : List Int} {a i j : Nat} {ds : List Nat} (h : InsI s a i (j + 1) ds) (hj : a ≤ j) (hji : j + 1 ≤ i) (hi : i < ds.length) (hb : bef s (ds.getD (j + 1) 0) (ds.getD j 0)) : InsI s a i j (swp ds (j + 1) j) := by
  have G := fun k => swp_get (vs := ds) (i := j + 1) (j := j) (by omega) (by omega) k
  refine ⟨fun p q h1 h2 h3 h4 h5 => ?_, fun q h1 h2 => ?_⟩
  · rw [G, G, if_neg h4, if_neg h5]
    by_cases e1 : p = j + 1
    · rw [if_pos e1, if_neg (by omega)]
      exact h.1 j q hj (by omega) h3 (by omega) (by omega)
    · rw [if_neg e1]
      by_cases e2 : q = j + 1
      · rw [if_pos e2]
        exact h.1 p j h1 (by omega) (by omega) e1 (by omega)
      · rw [if_neg e2]
        exact h.1 p q h1 h2 h3 e1 e2
  · rw [G, G, if_pos rfl, if_neg (by omega)]
    by_cases e : q = j + 1
    · rw [if_pos e]; exact hb
    · rw [if_neg e]; exact h.2 q (by omega) h2
theorem InsI.done {s : List Int} {a i j : Nat} {ds : List Nat} (h : InsI s a i j ds) (hb : j = a ∨ bef s (ds.getD (j - 1) 0) (ds.getD j 0)) : Sin s a (i + 1) ds := by
  intro p q h1 h2 h3
  by_cases e1 : p = j
  · rw [e1]; exact h.2 q (by omega) (by omega)
  · by_cases e2 : q = j
    · rw [e2]
      rcases hb with hb | hb
      · omega
      · by_cases e3 : p = j - 1
        · rw [e3]; exact hb
        · exact bef_trans (h.1 p (j - 1) h1 (by omega) (by omega) e1 (by omega)) hb
    · exact h.1 p q h1 h2 (by omega) e1 e2
theorem Sin.one (s : List Int) (a : Nat) (ds : List Nat) : Sin s a (a + 1) ds := fun p q h1 h2 h3 => by omega
theorem Sin.nil (s : List Int) (a b : Nat) (ds : List Nat) (h : b ≤ a + 1) : Sin s a b ds := fun p q h1 h2 h3 => by omega
theorem Sin.srt {s : List Int} {ds : List Nat} (h : Sin s 0 ds.length ds) : Srt s ds := by
  rw [Srt, List.pairwise_iff_getElem]
  intro i j hi hj hij
  have := h i j (Nat.zero_le _) hij hj
  rwa [getD_el ds hi, getD_el ds hj] at this
end Hpp
