/- Collect: the row put together, plainly. -/
import Derived.Test.YtblogmelmpkfhaaRfs
namespace Arn
theorem collect_append (A B : List It) : collect (A ++ B) = collect A ++ collect B := by simp [collect]
theorem refs_append (A B : List It) (o : Int) : refs (A ++ B) o = refs A o ++ refs B (o + size A) := by
  induction A generalizing o with
  | nil => simp [refs, size]
  | cons x A ih =>
    have e : o + (size (x :: A) : Nat) = o + x.room + size A := by simp [size]; omega
    rw [List.cons_append, refs_cons, refs_cons, ih, e]
    split <;> rfl
def Dead (D : List It) : Prop := ∀ x ∈ D, x.dead = true
theorem collect_dead {D : List It} (h : Dead D) : collect D = [] := by
  unfold collect
  rw [List.filter_eq_nil_iff.2 (fun x hx => by simp [h x hx])]
  rfl
theorem refs_dead {D : List It} (h : Dead D) (o : Int) : refs D o = [] := by
  induction D generalizing o with
  | nil => rfl
  | cons x D ih => rw [refs_cons, if_pos (h x (by simp))]; exact ih (fun y hy => h y (by simp [hy])) _
theorem collect_live (x : It) (h : x.dead = false) : collect [x] = [x.tight] := by simp [collect, h]
/-- The next one that lives. -/
theorem next_live (B : List It) (o : Int) (h : 0 < (refs B o).length) : ∃ D x C, B = D ++ x :: C ∧ Dead D ∧ x.dead = false := by
  induction B generalizing o with
  | nil => simp [refs] at h
  | cons y B ih =>
    cases hd : y.dead
    · exact ⟨[], y, B, rfl, (fun x hx => by cases hx), hd⟩
    · rw [refs_cons, if_pos hd] at h
      obtain ⟨D, x, C, rfl, h1, h2⟩ := ih _ h
      exact ⟨y :: D, x, C, rfl, (fun z hz => by rcases List.mem_cons.1 hz with rfl | hz; exact hd; exact h1 z hz), h2⟩
theorem rest_dead (B : List It) (o : Int) (h : (refs B o).length = 0) : Dead B := by
  induction B generalizing o with
  | nil => intro x hx; cases hx
  | cons y B ih =>
    cases hd : y.dead
    · rw [refs_cons, if_neg (by simp [hd])] at h; simp at h
    · rw [refs_cons, if_pos hd] at h
      intro z hz
      rcases List.mem_cons.1 hz with rfl | hz
      · exact hd
      · exact ih _ h z hz
theorem tight_ok {x : It} (h : x.ok) : x.tight.ok := ⟨Nat.le_refl _, h.id1, h.id2, h.lbd1, h.lbd2, h.used1, h.used2, h.lits⟩
theorem tight_cells {x : It} (_ : x.ok) : x.tight.cells = x.cells.take (4 + x.lits.length) := by
  rw [show 4 + x.lits.length = x.lits.length + 4 by omega]
  simp only [It.cells, It.tight, List.take_succ_cons]
  rw [show 4 + x.lits.length - 4 - x.lits.length = 0 by omega, List.replicate_zero, List.append_nil, List.take_append_of_le_length (by simp), List.take_of_length_le (by simp)]
  rfl
theorem collect_ok {M : List It} (h : Oks M) : Oks (collect M) := by
  intro y hy
  obtain ⟨x, hx, rfl⟩ := List.mem_map.1 hy
  exact tight_ok (h x (List.mem_filter.1 hx).1)
theorem collect_waste (M : List It) : waste (collect M) = 0 := by
  induction M with
  | nil => rfl
  | cons x M ih =>
    rw [show x :: M = [x] ++ M from rfl, collect_append, waste_append, ih]
    cases hd : x.dead
    · rw [collect_live x hd]; simp [waste, It.lost, It.tight, hd]
    · rw [collect_dead (fun y hy => by rw [List.mem_singleton.1 hy]; exact hd)]; rfl
theorem collect_size {M : List It} (h : Oks M) : size (collect M) ≤ size M := by
  induction M with
  | nil => exact Nat.le_refl _
  | cons x M ih =>
    have hf := h.cons.1.fits
    have := ih h.cons.2
    rw [show x :: M = [x] ++ M from rfl, collect_append, size_append, size_append]
    cases hd : x.dead
    · rw [collect_live x hd]; simp [size, It.tight]; omega
    · rw [collect_dead (fun y hy => by rw [List.mem_singleton.1 hy]; exact hd)]; simp [size]; omega
theorem refs_collect_len (M : List It) (o o' : Int) : (refs (collect M) o').length = (refs M o).length := by
  induction M generalizing o o' with
  | nil => rfl
  | cons x M ih =>
    rw [show x :: M = [x] ++ M from rfl, collect_append, refs_append, refs_append]
    cases hd : x.dead
    · rw [collect_live x hd]
      have : x.tight.dead = false := hd
      simp only [refs_cons, this, hd, Bool.false_eq_true, if_false, List.length_append]
      rw [ih]
      rfl
    · rw [collect_dead (fun y hy => by rw [List.mem_singleton.1 hy]; exact hd)]
      simp only [refs_cons, hd, if_true, List.length_append]
      rw [ih]
      rfl
/-- The row while it is put together: A is done, B is not. -/
def Mid (M A B : List It) (ws : List Int) : Prop := M = A ++ B ∧ ∃ J : List Int, ws = row (collect A) ++ (J ++ row B) ∧ J.length + size (collect A) = size A
theorem mid_start (M : List It) : Mid M [] M (row M) := ⟨rfl, [], rfl, rfl⟩
theorem mid_step {M A D C : List It} {x : It} {ws : List Int} (hM : Oks M) (h : Mid M A (D ++ x :: C) ws) (hD : Dead D) (hx : x.dead = false) :
    Mid M (A ++ D ++ [x]) C (ws.take (size (collect A)) ++ x.cells.take (4 + x.lits.length) ++ ws.drop (size (collect A) + (4 + x.lits.length))) := by
  obtain ⟨e, J, hws, hJ⟩ := h
  have hA : Oks A := fun y hy => hM y (by rw [e]; simp [hy])
  have hDo : Oks D := fun y hy => hM y (by rw [e]; simp [hy])
  have hxo : x.ok := hM x (by rw [e]; simp)
  have hf := hxo.fits
  refine ⟨by rw [e]; simp, (J ++ (row D ++ x.cells)).drop (4 + x.lits.length), ?_, ?_⟩
  · have hl : (row (collect A)).length = size (collect A) := row_len (collect_ok hA)
    have e1 : ws = row (collect A) ++ ((J ++ (row D ++ x.cells)) ++ row C) := by rw [hws, row_append, row]; simp
    rw [e1, ← hl, List.take_left, List.drop_append, List.drop_eq_nil_of_le (by omega), List.nil_append, show (row (collect A)).length + (4 + x.lits.length) - (row (collect A)).length = 4 + x.lits.length by omega]
    rw [collect_append, collect_append, collect_dead hD, collect_live x hx, List.append_nil, row_append, ← tight_cells hxo]
    rw [List.drop_append_of_le_length (by simp [hxo.len]; omega)]
    simp [row]
  · rw [List.length_drop, List.length_append, List.length_append, row_len hDo, hxo.len, collect_append, collect_append, collect_dead hD, collect_live x hx, List.append_nil, size_append, size_append, size_append]
    simp only [size, It.tight]
    omega
theorem mid_words {M A D C : List It} {x : It} {ws : List Int} (hM : Oks M) (h : Mid M A (D ++ x :: C) ws) (j : Nat) (hj : j < x.room) : ws.getD (size (A ++ D) + j) 0 = x.cells.getD j 0 := by
  obtain ⟨e, J, hws, hJ⟩ := h
  have hA : Oks A := fun y hy => hM y (by rw [e]; simp [hy])
  have hDo : Oks D := fun y hy => hM y (by rw [e]; simp [hy])
  have hxo : x.ok := hM x (by rw [e]; simp)
  have hl : (row (collect A)).length = size (collect A) := row_len (collect_ok hA)
  have e1 : ws = (row (collect A) ++ J ++ row D) ++ (x.cells ++ row C) := by rw [hws, row_append, row]; simp
  have hl2 : (row (collect A) ++ J ++ row D).length = size (A ++ D) := by simp [hl, row_len hDo, size_append]; omega
  rw [e1]
  simp only [List.getD]
  rw [List.getElem?_append_right (by rw [hl2]; omega), hl2, show size (A ++ D) + j - size (A ++ D) = j by omega, List.getElem?_append_left (by rw [hxo.len]; exact hj)]
theorem mid_len {M A B : List It} {ws : List Int} (hM : Oks M) (h : Mid M A B ws) : ws.length = size M := by
  obtain ⟨e, J, hws, hJ⟩ := h
  have hA : Oks A := fun y hy => hM y (by rw [e]; simp [hy])
  have hB : Oks B := fun y hy => hM y (by rw [e]; simp [hy])
  rw [hws, e, size_append]
  simp only [List.length_append]
  rw [row_len (collect_ok hA), row_len hB]
  omega
theorem mid_end {M A B : List It} {ws : List Int} (hM : Oks M) (h : Mid M A B ws) (hB : Dead B) : collect M = collect A ∧ ws.take (size (collect A)) = row (collect M) := by
  obtain ⟨e, J, hws, hJ⟩ := h
  have hA : Oks A := fun y hy => hM y (by rw [e]; simp [hy])
  have e2 : collect M = collect A := by rw [e, collect_append, collect_dead hB, List.append_nil]
  refine ⟨e2, ?_⟩
  rw [e2, hws, ← row_len (collect_ok hA), List.take_left]
end Arn
