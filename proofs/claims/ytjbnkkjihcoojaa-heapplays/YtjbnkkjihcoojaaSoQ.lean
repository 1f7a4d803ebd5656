/- Sorting by a heap, plainly. -/
import Derived.Test.YtjbnkkjihcoojaaSoP
namespace Hpp
/-- The greatest first, from lo on, of m behind f. -/
def MO (s : List Int) (f lo m : Nat) (ds : List Nat) : Prop := ∀ k, 1 ≤ k → k < m → lo ≤ (k - 1) / 2 → ¬ bef s (ds.getD (f + (k - 1) / 2) 0) (ds.getD (f + k) 0)
def MD (s : List Int) (f lo m i : Nat) (ds : List Nat) : Prop :=
  (∀ k, 1 ≤ k → k < m → lo ≤ (k - 1) / 2 → (k - 1) / 2 ≠ i → ¬ bef s (ds.getD (f + (k - 1) / 2) 0) (ds.getD (f + k) 0)) ∧
  (∀ k, 1 ≤ k → k < m → (k - 1) / 2 = i → 1 ≤ i → lo ≤ (i - 1) / 2 → ¬ bef s (ds.getD (f + (i - 1) / 2) 0) (ds.getD (f + k) 0))
theorem MD.start {s : List Int} {f lo m : Nat} {ds : List Nat} (h : MO s f (lo + 1) m ds) : MD s f lo m lo ds :=
  ⟨fun k h1 h2 h3 h4 => h k h1 h2 (by omega), fun k h1 h2 h3 h4 h5 => by omega⟩
theorem MD.step {s : List Int} {f lo m i j : Nat} {ds : List Nat} (h : MD s f lo m i ds) (hlo : lo ≤ i) (hj : 1 ≤ j) (hjm : j < m) (hji : (j - 1) / 2 = i) (hm : f + m ≤ ds.length)
    (hb : bef s (ds.getD (f + i) 0) (ds.getD (f + j) 0)) (ho : ∀ k, 1 ≤ k → k < m → (k - 1) / 2 = i → ¬ bef s (ds.getD (f + j) 0) (ds.getD (f + k) 0)) : MD s f lo m j (swp ds (f + i) (f + j)) := by
  have G := fun k => swp_get (vs := ds) (i := f + i) (j := f + j) (by omega) (by omega) k
  refine ⟨fun k h1 h2 h3 h4 => ?_, fun k h1 h2 h3 h4 h5 => ?_⟩
  · rw [G, G, if_neg (by omega : ¬ f + (k - 1) / 2 = f + j)]
    by_cases e : k = j
    · subst e
      rw [if_pos (by omega), if_pos rfl]
      exact bef_asym hb
    · rw [if_neg (by omega : ¬ f + k = f + j)]
      by_cases e2 : k = i
      · subst e2
        rw [if_neg (by omega), if_pos rfl]
        exact h.2 j hj hjm hji h1 h3
      · rw [if_neg (by omega : ¬ f + k = f + i)]
        by_cases e3 : (k - 1) / 2 = i
        · rw [if_pos (by omega)]
          exact ho k h1 h2 e3
        · rw [if_neg (by omega)]
          exact h.1 k h1 h2 h3 e3
  · rw [G, G, if_neg (by omega), hji, if_pos rfl, if_neg (by omega), if_neg (by omega)]
    have := h.1 k h1 h2 (by omega) (by omega)
    rw [h3] at this
    exact this
theorem MD.done {s : List Int} {f lo m i : Nat} {ds : List Nat} (h : MD s f lo m i ds) (ho : ∀ k, 1 ≤ k → k < m → (k - 1) / 2 = i → ¬ bef s (ds.getD (f + i) 0) (ds.getD (f + k) 0)) : MO s f lo m ds := by
  intro k h1 h2 h3
  by_cases e : (k - 1) / 2 = i
  · rw [e]; exact ho k h1 h2 e
  · exact h.1 k h1 h2 h3 e
theorem MO.max {s : List Int} {f m : Nat} {ds : List Nat} (h : MO s f 0 m ds) : ∀ k, k < m → ¬ bef s (ds.getD f 0) (ds.getD (f + k) 0) := by
  intro k
  induction k using Nat.strongRecOn with
  | ind k ih =>
    intro hk
    rcases Nat.eq_zero_or_pos k with rfl | hp
    · exact bef_irr _ _
    · exact not_trans (h k hp hk (Nat.zero_le _)) (ih ((k - 1) / 2) (by omega) (by omega))
theorem MO.half (s : List Int) (f m : Nat) (ds : List Nat) : MO s f ((m - 1) / 2 + 1) m ds := fun k h1 h2 h3 => by omega
/-- Popped from c on. -/
def Pd (s : List Int) (f m c : Nat) (ds : List Nat) : Prop := MO s f 0 c ds ∧ (∀ p q, c ≤ p → p < q → q < m → bef s (ds.getD (f + p) 0) (ds.getD (f + q) 0)) ∧ (∀ p q, p < c → c ≤ q → q < m → bef s (ds.getD (f + p) 0) (ds.getD (f + q) 0))
/-- One more popped: what is left to be sifted. -/
theorem Pd.cut {s : List Int} {f m c : Nat} {ds : List Nat} (h : Pd s f m (c + 1) ds) (hc : c < m) (hm : f + m ≤ ds.length) (hd : ds.Nodup) :
    MO s f 1 c (swp ds f (f + c)) ∧ (∀ p q, c ≤ p → p < q → q < m → bef s ((swp ds f (f + c)).getD (f + p) 0) ((swp ds f (f + c)).getD (f + q) 0)) ∧ (∀ p q, p < c → c ≤ q → q < m → bef s ((swp ds f (f + c)).getD (f + p) 0) ((swp ds f (f + c)).getD (f + q) 0)) := by
  have G := fun k => swp_get (vs := ds) (i := f) (j := f + c) (by omega) (by omega) k
  have hmax : ∀ k, k < c + 1 → k ≠ 0 → bef s (ds.getD (f + k) 0) (ds.getD f 0) := fun k hk h0 => of_not (fun e => by have := nd_inj hd (by omega) (by omega) e; omega) (h.1.max k hk)
  refine ⟨fun k h1 h2 h3 => ?_, fun p q h1 h2 h3 => ?_, fun p q h1 h2 h3 => ?_⟩
  · rw [G, G, if_neg (by omega), if_neg (by omega), if_neg (by omega), if_neg (by omega)]
    exact h.1 k h1 (by omega) (by omega)
  · rw [G, G, if_neg (by omega : ¬ f + q = f + c), if_neg (by omega : ¬ f + q = f)]
    by_cases e : p = c
    · rw [if_pos (by omega)]
      have := h.2.2 0 q (by omega) (by omega) h3
      rwa [Nat.add_zero] at this
    · rw [if_neg (by omega), if_neg (by omega)]
      exact h.2.1 p q (by omega) h2 h3
  · rw [G, G, if_neg (by omega : ¬ f + p = f + c)]
    by_cases e : q = c
    · rw [if_pos (by omega : f + q = f + c)]
      by_cases e2 : p = 0
      · rw [if_pos (by omega)]
        exact hmax c (by omega) (by omega)
      · rw [if_neg (by omega)]
        exact hmax p (by omega) e2
    · rw [if_neg (by omega : ¬ f + q = f + c), if_neg (by omega : ¬ f + q = f)]
      by_cases e2 : p = 0
      · rw [if_pos (by omega)]
        exact h.2.2 c q (by omega) (by omega) h3
      · rw [if_neg (by omega)]
        exact h.2.2 p q (by omega) (by omega) h3
/-- .. and sifted. -/
theorem Pd.next {s : List Int} {f m c : Nat} {ds ds' : List Nat} (h2 : ∀ p q, c ≤ p → p < q → q < m → bef s (ds.getD (f + p) 0) (ds.getD (f + q) 0)) (h3 : ∀ p q, p < c → c ≤ q → q < m → bef s (ds.getD (f + p) 0) (ds.getD (f + q) 0)) (hp : PI f (f + c) ds' ds) (hd : ds.Nodup) (hl : f + m ≤ ds.length) (hc : c ≤ m) (ho : MO s f 0 c ds') : Pd s f m c ds' := by
  refine ⟨ho, fun p q a b d => ?_, fun p q a b d => ?_⟩
  · rw [hp.2 _ (by omega), hp.2 _ (by omega)]; exact h2 p q a b d
  · rw [hp.2 (f + q) (by omega)]
    obtain ⟨j, hj, e⟩ := hp.from hd (by omega) (k := f + p) (by omega)
    rw [e]
    have := h3 (j - f) q (by omega) b d
    rwa [show f + (j - f) = j by omega] at this
theorem Pd.start {s : List Int} {f m : Nat} {ds : List Nat} (h : MO s f 0 m ds) : Pd s f m m ds := ⟨h, fun p q a b d => by omega, fun p q a b d => by omega⟩
theorem Pd.sin {s : List Int} {f m : Nat} {ds : List Nat} (h : Pd s f m 0 ds) : Sin s f (f + m) ds := fun p q a b d => by
  have := h.2.1 (p - f) (q - f) (by omega) (by omega) (by omega)
  rwa [show f + (p - f) = p by omega, show f + (q - f) = q by omega] at this
end Hpp
