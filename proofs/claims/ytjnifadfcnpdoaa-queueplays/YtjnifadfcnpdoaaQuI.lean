/- Plain facts: what is moved, in the row's order; the stamps; a new queue's row. -/
import Derived.Test.YtjnifadfcnpdoaaMov
namespace Go.Proofs.Ytjnifadfcnpdoaa.Qp
/-- Is a variable among numbers? -/
def inL (l : List Int) (v : Nat) : Bool := decide ((v : Int) ∈ l)
def gone (l : List Int) (L : List Nat) : List Nat := L.filter (fun v => inL l v)
def stay (l : List Int) (L : List Nat) : List Nat := L.filter (fun v => !inL l v)
/-- The row behind a Bump. -/
def bmp (l : List Int) (L : List Nat) : List Nat := stay l L ++ gone l L
theorem mvs_of {L : List Nat} (hL : L.Nodup) : ∀ (n : Nat) (g : List Nat), g.length = n → g.Nodup → (∀ x ∈ g, x ∈ L) → mvs L g = L.filter (fun v => decide (v ∉ g)) ++ g := by
  intro n
  induction n with
  | zero =>
    intro g hg _ _
    have : g = [] := List.length_eq_zero_iff.1 hg
    subst this
    rw [List.filter_eq_self.2 (fun a _ => by simp)]
    simp [mvs]
  | succ n ih =>
    intro g hg hn hm
    have hne : g ≠ [] := by intro e; rw [e] at hg; cases hg
    obtain ⟨g', v, rfl⟩ : ∃ g' v, g = g' ++ [v] := ⟨g.dropLast, g.getLast hne, (List.dropLast_concat_getLast hne).symm⟩
    have hn' := List.nodup_append.1 hn
    have hv : v ∉ g' := fun h => hn'.2.2 v h v (by simp) rfl
    rw [mvs_snoc, ih g' (by simpa using hg) hn'.1 (fun x hx => hm x (by simp [hx]))]
    have hvL : v ∈ L.filter (fun x => decide (x ∉ g')) := by simp [hm v (by simp), hv]
    rw [List.erase_append_left _ hvL, (hL.sublist List.filter_sublist).erase_eq_filter, List.filter_filter, List.append_assoc]
    congr 1
    refine List.filter_congr (fun x _ => ?_)
    by_cases e1 : x = v <;> by_cases e2 : x ∈ g' <;> simp [e1, e2, hv]
theorem mvs_gone {L : List Nat} (hL : L.Nodup) (l : List Int) : mvs L (gone l L) = bmp l L := by
  rw [mvs_of hL _ (gone l L) rfl (hL.sublist List.filter_sublist) (fun x hx => (List.mem_filter.1 hx).1)]
  unfold bmp stay
  congr 1
  refine List.filter_congr (fun x hx => ?_)
  simp only [gone, List.mem_filter, hx, true_and]
  cases inL l x <;> simp
theorem sts_len (st : List Int) (s : Int) (g : List Nat) : (sts st s g).length = st.length := by
  induction g generalizing st with
  | nil => rfl
  | cons v g ih => show (sts (st.set v s) s g).length = _; rw [ih, List.length_set]
theorem sts_at (st : List Int) (s : Int) (g : List Nat) (x : Nat) (hg : ∀ v ∈ g, v < st.length) : (sts st s g).getD x 0 = if x ∈ g then s else st.getD x 0 := by
  induction g generalizing st with
  | nil => simp [sts]
  | cons v g ih =>
    show (sts (st.set v s) s g).getD x 0 = _
    rw [ih _ (fun y hy => by rw [List.length_set]; exact hg y (.tail _ hy)), setI _ _ _ (hg v (.head _))]
    by_cases e1 : x ∈ g
    · simp [e1]
    · by_cases e2 : x = v <;> simp [e1, e2]
theorem bmp_mem {l : List Int} {L : List Nat} {x : Nat} : x ∈ bmp l L ↔ x ∈ L := by
  simp only [bmp, stay, gone, List.mem_append, List.mem_filter]
  cases inL l x <;> simp
theorem bmp_perm (l : List Int) (L : List Nat) : (bmp l L).Perm L := by
  unfold bmp stay gone
  refine List.perm_append_comm.trans ?_
  exact List.filter_append_perm _ _
theorem bmp_nodup {l : List Int} {L : List Nat} (h : L.Nodup) : (bmp l L).Nodup := (bmp_perm l L).nodup_iff.2 h
/-- What comes out of a sort by ranks that are unlike. -/
theorem sorted_gone {rk : Nat → Int} {L : List Nat} (hr : L.Pairwise (fun a b => rk a < rk b)) (l : List Int) {ss : List Nat} (hp : ss.Perm (gone l L)) (hs : ss.Pairwise (fun a b => rk a ≤ rk b)) : ss = gone l L := by
  have hg : (gone l L).Pairwise (fun a b => rk a < rk b) := hr.sublist List.filter_sublist
  have hinj : ∀ {M : List Nat}, M.Pairwise (fun a b => rk a < rk b) → ∀ a ∈ M, ∀ b ∈ M, rk a = rk b → a = b := by
    intro M hM
    induction hM with
    | nil => intro a ha; cases ha
    | cons h _ ih =>
      intro a ha b hb e
      rcases List.mem_cons.1 ha with ea | ha' <;> rcases List.mem_cons.1 hb with eb | hb'
      · rw [ea, eb]
      · have := h b hb'; rw [ea] at e; omega
      · have := h a ha'; rw [eb] at e; omega
      · exact ih a ha' b hb' e
  refine hp.eq_of_pairwise (le := fun a b => rk a ≤ rk b) (fun a b ha hb h1 h2 => ?_) hs (hg.imp (fun h => by omega))
  exact hinj hg a (hp.mem_iff.1 ha) b hb (by omega)
/-- A new queue's stamps behind k steps. -/
def stN (n k : Nat) : List Int := (List.range (n + 1)).map (fun v => if v ≤ k then (v : Int) else 0)
def rowN (k : Nat) : List Nat := List.range' 1 k
theorem stN_len (n k : Nat) : (stN n k).length = n + 1 := by simp [stN]
theorem stN_zero (n : Nat) : stN n 0 = List.replicate (n + 1) 0 := by
  apply List.ext_getElem
  · simp [stN]
  · intro i h1 h2
    simp only [stN, List.getElem_map, List.getElem_range, List.getElem_replicate]
    split <;> omega
theorem stN_set (n k : Nat) : (stN n k).set (k + 1) ((k + 1 : Nat) : Int) = stN n (k + 1) := by
  apply List.ext_getElem
  · simp [stN]
  · intro i h1 h2
    rw [List.getElem_set]
    simp only [stN, List.getElem_map, List.getElem_range]
    split
    · rename_i e; subst e; simp
    · split <;> split <;> omega
theorem stN_at (n x : Nat) : (stN n n).getD x 0 = if x ≤ n then (x : Int) else 0 := by
  rw [List.getD_eq_getElem?_getD]
  unfold stN
  rw [List.getElem?_map]
  by_cases h : x ≤ n
  · rw [List.getElem?_range (by omega)]; simp [h]
  · rw [List.getElem?_eq_none (by simp; omega)]; simp [h]
theorem rowN_snoc (k : Nat) : rowN (k + 1) = rowN k ++ [k + 1] := by
  unfold rowN
  rw [List.range'_concat]
  simp [Nat.add_comm]
theorem rowN_mem {k x : Nat} : x ∈ rowN k ↔ 1 ≤ x ∧ x ≤ k := by
  unfold rowN
  rw [List.mem_range'_1]; omega
end Go.Proofs.Ytjnifadfcnpdoaa.Qp
