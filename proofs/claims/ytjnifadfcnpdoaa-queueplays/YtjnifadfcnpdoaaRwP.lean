/- Plain facts: the row behind Bumps; places in it. -/
import Derived.Test.YtjnifadfcnpdoaaBpd
namespace Go.Proofs.Ytjnifadfcnpdoaa.Qp
/-- A queue's row and stamps, as they stand behind any Bumps. -/
structure Good (m : Nat) (p : Qst) : Prop where
  perm : p.1.Perm (rowN m)
  mono : p.1.Pairwise (fun a b => p.2.getD a 0 ≤ p.2.getD b 0)
  len : p.2.length = m + 1
theorem rowN_len (k : Nat) : (rowN k).length = k := by simp [rowN]
theorem rowN_nodup (k : Nat) : (rowN k).Nodup := List.nodup_range'
theorem Good.nodup {m : Nat} {p : Qst} (h : Good m p) : p.1.Nodup := h.perm.nodup_iff.2 (rowN_nodup m)
theorem Good.length {m : Nat} {p : Qst} (h : Good m p) : p.1.length = m := by rw [h.perm.length_eq, rowN_len]
theorem Good.mem {m : Nat} {p : Qst} (h : Good m p) {x : Nat} : x ∈ p.1 ↔ 1 ≤ x ∧ x ≤ m := by rw [h.perm.mem_iff, rowN_mem]
theorem good_new (m : Nat) : Good m (rowN m, stN m m) := by
  refine ⟨List.Perm.refl _, ?_, stN_len m m⟩
  have : (rowN m).Pairwise (fun a b => a < b) := List.pairwise_lt_range'
  refine this.imp_of_mem (fun {a b} ha hb h => ?_)
  rw [stN_at, stN_at, if_pos (rowN_mem.1 ha).2, if_pos (rowN_mem.1 hb).2]
  omega
theorem pw_last {st : List Int} : ∀ {L : List Nat} {a : Nat}, (a :: L).Pairwise (fun a b => st.getD a 0 ≤ st.getD b 0) → ∀ x ∈ a :: L, st.getD x 0 ≤ st.getD (L.getLastD a) 0
  | [], a, h, x, hx => by
    rcases List.mem_cons.1 hx with rfl | hx
    · exact Int.le_refl _
    · cases hx
  | y :: L, a, h, x, hx => by
    rw [List.getLastD_cons]
    obtain ⟨h1, h2⟩ := List.pairwise_cons.1 h
    rcases List.mem_cons.1 hx with rfl | hx
    · have := h1 y (.head _)
      have := pw_last h2 y (.head _)
      omega
    · exact pw_last h2 x hx
theorem good_bmp {m : Nat} {p : Qst} (h : Good m p) (l : List Int) : Good m (bL m l p.1, bS m l p.1 p.2) := by
  unfold bL bS
  by_cases hok : okB m l = true
  · rw [if_pos hok, if_pos hok]
    obtain ⟨L, st⟩ := p
    have hst : ∀ v ∈ gone l L, v < st.length := fun v hv => by
      have := h.mem.1 (List.mem_filter.1 hv).1
      have := h.len
      simp only at this
      omega
    have hmax : ∀ x ∈ L, st.getD x 0 ≤ st.getD (L.getLastD 0) 0 := by
      cases L with
      | nil => intro x hx; cases hx
      | cons y L => rw [List.getLastD_cons]; exact pw_last h.mono
    refine ⟨(bmp_perm l L).trans h.perm, ?_, by rw [sts_len]; exact h.len⟩
    have hat : ∀ x, (sts st (st.getD (L.getLastD 0) 0 + 1) (gone l L)).getD x 0 = if x ∈ gone l L then st.getD (L.getLastD 0) 0 + 1 else st.getD x 0 := fun x => sts_at st _ _ x hst
    have hns : ∀ x ∈ stay l L, x ∉ gone l L := fun x hx hg => by
      have h1 := (List.mem_filter.1 hx).2
      have h2 := (List.mem_filter.1 hg).2
      rw [h2] at h1
      cases h1
    show (stay l L ++ gone l L).Pairwise _
    refine List.pairwise_append.2 ⟨?_, ?_, ?_⟩
    · refine ((h.mono.sublist List.filter_sublist) : (stay l L).Pairwise _).imp_of_mem (fun {a b} ha hb hab => ?_)
      rw [hat, hat, if_neg (hns a ha), if_neg (hns b hb)]
      exact hab
    · refine ((h.mono.sublist List.filter_sublist) : (gone l L).Pairwise _).imp_of_mem (fun {a b} ha hb hab => ?_)
      rw [hat, hat, if_pos ha, if_pos hb]
      omega
    · intro a ha b hb
      rw [hat, hat, if_neg (hns a ha), if_pos hb]
      have := hmax a (List.mem_filter.1 ha).1
      omega
  · rw [if_neg hok, if_neg hok]
    exact h
/-- Where a variable stands in a row, one counted on, as far as k. -/
def atL (m : Nat) (M : List Nat) (k : Nat) : List Int := (List.range (m + 1)).map (fun x => if M.idxOf x < k then ((M.idxOf x + 1 : Nat) : Int) else 0)
theorem atL_len (m : Nat) (M : List Nat) (k : Nat) : (atL m M k).length = m + 1 := by simp [atL]
theorem atL_at {m : Nat} {M : List Nat} {k x : Nat} (hx : x ≤ m) : (atL m M k).getD x 0 = if M.idxOf x < k then ((M.idxOf x + 1 : Nat) : Int) else 0 := by
  rw [List.getD_eq_getElem?_getD]
  unfold atL
  rw [List.getElem?_map, List.getElem?_range (by omega)]
  rfl
theorem atL_zero (m : Nat) (M : List Nat) : atL m M 0 = List.replicate (m + 1) 0 := by
  apply List.ext_getElem
  · simp [atL]
  · intro i h1 h2
    simp [atL]
theorem idx_at {M : List Nat} (hM : M.Nodup) {k : Nat} (hk : k < M.length) : M.idxOf (M.getD k 0) = k := by
  rw [List.getD_eq_getElem?_getD, List.getElem?_eq_getElem hk]
  exact hM.idxOf_getElem k hk
theorem atL_set {m : Nat} {M : List Nat} (hM : M.Nodup) {k : Nat} (hk : k < M.length) : (atL m M k).set (M.getD k 0) ((k + 1 : Nat) : Int) = atL m M (k + 1) := by
  apply List.ext_getElem
  · simp [atL]
  · intro i h1 h2
    rw [List.getElem_set]
    simp only [atL, List.getElem_map, List.getElem_range]
    split
    · rename_i e
      rw [← e, idx_at hM hk]
      simp
    · rename_i e
      have hne : M.idxOf i ≠ k := fun h => e (by
        have hi : M.idxOf i < M.length := by omega
        have := List.getElem_idxOf hi
        rw [List.getD_eq_getElem?_getD, List.getElem?_eq_getElem hk]
        simp only [h] at this
        exact this)
      split <;> split <;> omega
theorem idx_ne {x y : Nat} (M : List Nat) (h : x ≠ y) : (x :: M).idxOf y = M.idxOf y + 1 := by
  rw [List.idxOf_cons, beq_false_of_ne h]; rfl
theorem idx_lt_of_sub : ∀ {M : List Nat} {a b : Nat}, [a, b].Sublist M → M.Nodup → M.idxOf a < M.idxOf b := by
  intro M a b h hM
  induction M with
  | nil => cases h
  | cons x M ih =>
    obtain ⟨h1, h2⟩ := List.nodup_cons.1 hM
    rcases List.sublist_cons_iff.1 h with h3 | ⟨r, h3, h4⟩
    · have ha : a ∈ M := h3.subset (by simp)
      have hb : b ∈ M := h3.subset (by simp)
      have := ih h3 h2
      rw [idx_ne (x := x) (y := a) M (fun e => h1 (by rw [e]; exact ha)), idx_ne (x := x) (y := b) M (fun e => h1 (by rw [e]; exact hb))]
      omega
    · injection h3 with h3 h5
      subst h3 h5
      have hb : b ∈ M := h4.subset (by simp)
      rw [List.idxOf_cons_self, idx_ne (x := a) (y := b) M (fun e => h1 (by rw [e]; exact hb))]
      omega
/-- What keeps its order. -/
theorem bmp_order {l : List Int} {L : List Nat} {k : Nat} (hk : k + 1 < L.length) (h : inL l (L.getD k 0) = true → inL l (L.getD (k + 1) 0) = true) : [L.getD k 0, L.getD (k + 1) 0].Sublist (bmp l L) := by
  have hs : [L.getD k 0, L.getD (k + 1) 0].Sublist L := by
    have e1 : L.drop k = L.getD k 0 :: L.getD (k + 1) 0 :: L.drop (k + 2) := by
      rw [List.drop_eq_getElem_cons (by omega : k < L.length), List.drop_eq_getElem_cons hk]
      simp [List.getD_eq_getElem?_getD, List.getElem?_eq_getElem (show k < L.length by omega), List.getElem?_eq_getElem hk]
    have : [L.getD k 0, L.getD (k + 1) 0].Sublist (L.drop k) := by rw [e1]; simp
    exact this.trans (List.drop_sublist k L)
  generalize L.getD k 0 = a at *
  generalize L.getD (k + 1) 0 = b at *
  have hm : a ∈ L ∧ b ∈ L := ⟨hs.subset (by simp), hs.subset (by simp)⟩
  cases ha : inL l a <;> cases hb : inL l b
  · have := hs.filter (fun v => !inL l v)
    simp only [List.filter_cons, ha, hb, Bool.not_false, if_true, List.filter_nil] at this
    exact this.trans (List.sublist_append_left _ _)
  · have h1 : [a].Sublist (stay l L) := List.singleton_sublist.2 (List.mem_filter.2 ⟨hm.1, by simp [ha]⟩)
    have h2 : [b].Sublist (gone l L) := List.singleton_sublist.2 (List.mem_filter.2 ⟨hm.2, hb⟩)
    exact h1.append h2
  · rw [h ha] at hb; cases hb
  · have := hs.filter (fun v => inL l v)
    simp only [List.filter_cons, ha, hb, if_true, List.filter_nil] at this
    exact this.trans (List.sublist_append_right _ _)
end Go.Proofs.Ytjnifadfcnpdoaa.Qp
