/- What was put is found again: plainly. -/
import Derived.Test.YtblogmelmpkfhaaWrk
namespace Arn
def live (M : List It) : List It := M.filter (fun x => !x.dead)
theorem live_cons (x : It) (M : List It) : live (x :: M) = if x.dead then live M else x :: live M := by
  unfold live
  cases hd : x.dead <;> simp [hd]
theorem live_append (A B : List It) : live (A ++ B) = live A ++ live B := by simp [live]
theorem live_len (M : List It) (o : Int) : (refs M o).length = (live M).length := by
  induction M generalizing o with
  | nil => rfl
  | cons x M ih =>
    rw [refs_cons, live_cons]
    split
    · exact ih _
    · simp [ih]
/-- The j-th that lives is found at its place. -/
theorem live_at {M : List It} (hM : Oks M) {o : Int} {j : Nat} {x : It} (h : (live M)[j]? = some x) : ∃ r, (refs M o)[j]? = some r ∧ find M (r - o) = some x := by
  induction M generalizing o j with
  | nil => simp [live] at h
  | cons y M ih =>
    have hy := hM.cons.1.fits
    have step : ∀ {r : Int} {z : It} {o' : Int}, o' = o + y.room → o' ≤ r → find M (r - o') = some z → find (y :: M) (r - o) = some z := by
      intro r z o' ho' hr hf
      subst ho'
      unfold find at hf ⊢
      rw [at_cons, if_neg (by omega), show r - o - y.room = r - (o + y.room) by omega]
      exact hf
    rw [live_cons] at h
    rw [refs_cons]
    cases hd : y.dead
    · rw [hd, if_neg (by simp)] at h
      rw [if_neg (by simp)]
      cases j with
      | zero =>
        simp only [List.getElem?_cons_zero, Option.some.injEq] at h
        subst h
        exact ⟨o, rfl, by rw [Int.sub_self]; exact find_some.2 ⟨rfl, hd⟩⟩
      | succ j =>
        rw [List.getElem?_cons_succ] at h
        obtain ⟨r, h1, h2⟩ := ih hM.cons.2 (o := o + y.room) h
        exact ⟨r, by rw [List.getElem?_cons_succ]; exact h1, step rfl (refs_ge (List.mem_of_getElem? h1)) h2⟩
    · rw [hd, if_pos rfl] at h
      rw [if_pos rfl]
      obtain ⟨r, h1, h2⟩ := ih hM.cons.2 (o := o + y.room) h
      exact ⟨r, h1, step rfl (refs_ge (List.mem_of_getElem? h1)) h2⟩
/-- One killed. -/
theorem kill_at {M : List It} (hM : Oks M) {o : Int} {j : Nat} {r : Int} (h : (refs M o)[j]? = some r) : ∃ x, find M (r - o) = some x ∧ refs (kill M (r - o)) o = (refs M o).eraseIdx j ∧ live (kill M (r - o)) = (live M).eraseIdx j ∧ size (kill M (r - o)) = size M := by
  have hj : j < (live M).length := by
    rw [← live_len M o]
    exact (List.getElem?_eq_some_iff.1 h).1
  obtain ⟨x, hx⟩ : ∃ x, (live M)[j]? = some x := ⟨_, List.getElem?_eq_getElem hj⟩
  obtain ⟨r', h1, h2⟩ := live_at hM (o := o) hx
  obtain rfl : r = r' := by rw [h] at h1; cases h1; rfl
  refine ⟨_, h2, ?_⟩
  obtain ⟨ha, hd⟩ := find_some.1 h2
  unfold kill
  rw [h2]
  simp only []
  refine ⟨?_, ?_, size_upd hM ha rfl⟩
  · clear hj h1 h2 hd hx
    induction M generalizing o j with
    | nil => simp [refs] at h
    | cons y M ih =>
      have hy := hM.cons.1.fits
      rw [refs_cons] at h
      rw [at_cons] at ha
      cases hdy : y.dead
      · rw [hdy, if_neg (by simp)] at h
        cases j with
        | zero =>
          simp only [List.getElem?_cons_zero, Option.some.injEq] at h
          rw [h, Int.sub_self] at ha ⊢
          rw [if_pos rfl] at ha
          cases ha
          rw [upd, if_pos rfl, refs_cons, if_pos rfl, refs_cons, if_neg (by simp [hdy])]
          rfl
        | succ j =>
          rw [List.getElem?_cons_succ] at h
          have hge := refs_ge (List.mem_of_getElem? h)
          rw [if_neg (by omega), show r - o - y.room = r - (o + y.room) by omega] at ha
          rw [upd, if_neg (by omega), refs_cons, refs_cons, if_neg (by simp [hdy]), if_neg (by simp [hdy]), show r - o - y.room = r - (o + y.room) by omega, ih hM.cons.2 h ha]
          rfl
      · rw [hdy, if_pos rfl] at h
        have hge := refs_ge (List.mem_of_getElem? h)
        rw [if_neg (by omega), show r - o - y.room = r - (o + y.room) by omega] at ha
        rw [upd, if_neg (by omega), refs_cons, refs_cons, if_pos hdy, if_pos hdy, show r - o - y.room = r - (o + y.room) by omega, ih hM.cons.2 h ha]
  · clear hj h1 h2 hd hx
    induction M generalizing o j with
    | nil => simp [refs] at h
    | cons y M ih =>
      have hy := hM.cons.1.fits
      rw [refs_cons] at h
      rw [at_cons] at ha
      cases hdy : y.dead
      · rw [hdy, if_neg (by simp)] at h
        cases j with
        | zero =>
          simp only [List.getElem?_cons_zero, Option.some.injEq] at h
          rw [h, Int.sub_self] at ha ⊢
          rw [if_pos rfl] at ha
          cases ha
          rw [upd, if_pos rfl, live_cons, if_pos rfl, live_cons, if_neg (by simp [hdy])]
          rfl
        | succ j =>
          rw [List.getElem?_cons_succ] at h
          have hge := refs_ge (List.mem_of_getElem? h)
          rw [if_neg (by omega), show r - o - y.room = r - (o + y.room) by omega] at ha
          rw [upd, if_neg (by omega), live_cons, live_cons, if_neg (by simp [hdy]), if_neg (by simp [hdy]), show r - o - y.room = r - (o + y.room) by omega, ih hM.cons.2 h ha]
          rfl
      · rw [hdy, if_pos rfl] at h
        have hge := refs_ge (List.mem_of_getElem? h)
        rw [if_neg (by omega), show r - o - y.room = r - (o + y.room) by omega] at ha
        rw [upd, if_neg (by omega), live_cons, live_cons, if_pos hdy, if_pos hdy, show r - o - y.room = r - (o + y.room) by omega, ih hM.cons.2 h ha]
theorem erase_map {α β : Type} (f : α → β) : ∀ (l : List α) (j : Nat), (l.map f).eraseIdx j = (l.eraseIdx j).map f
  | [], _ => rfl
  | _ :: _, 0 => rfl
  | x :: l, j + 1 => by rw [List.map_cons, List.eraseIdx_cons_succ, List.eraseIdx_cons_succ, List.map_cons, erase_map f l j]
def Tight (M : List It) : Prop := ∀ x ∈ M, x.room = 4 + x.lits.length
theorem tight_eq {x : It} (h : x.room = 4 + x.lits.length) : x.tight = x := by unfold It.tight; rw [← h]
theorem live_collect {M : List It} (h : Tight M) : live (collect M) = live M ∧ collect M = live M := by
  have e : collect M = live M := by
    unfold collect live
    conv => rhs; rw [← List.map_id (M.filter fun x => !x.dead)]
    exact List.map_congr_left (fun x hx => tight_eq (h x (List.mem_filter.1 hx).1))
  refine ⟨?_, e⟩
  rw [e]
  unfold live
  rw [List.filter_filter]
  simp
theorem words_live {M : List It} (h : Tight M) : size M = waste M + size (live M) := by
  induction M with
  | nil => rfl
  | cons x M ih =>
    have hx := h x (by simp)
    have := ih (fun y hy => h y (by simp [hy]))
    rw [size, waste, live_cons]
    unfold It.lost
    cases hd : x.dead
    · simp [size]; omega
    · simp; omega
/-- What was put at i. -/
def item (cs : List (List Int)) (t : Nat) : It := newIt ((t : Int) * 8589934592 + 1) (cs.getD t []) (decide (t % 2 = 0)) t
/-- The clauses that live are those that the list names. -/
structure Lst (cs : List (List Int)) (i : Nat) (M : List It) (ids : List Nat) : Prop where
  live : live M = ids.map (item cs)
  tight : Tight M
  lt : ∀ t ∈ ids, t < i
  size : size M ≤ 4 * i + (cs.take i).flatten.length
theorem lst_start (cs : List (List Int)) : Lst cs 0 [] [] := ⟨rfl, (fun x h => by cases h), (fun x h => by cases h), Nat.zero_le _⟩
theorem take_cls (cs : List (List Int)) (k : Nat) (h : k < cs.length) : cs.take (k + 1) = cs.take k ++ [cs.getD k []] := by
  rw [List.take_succ_eq_append_getElem h]; simp [List.getD, List.getElem?_eq_getElem h]
theorem Lst.put {cs : List (List Int)} {i : Nat} {M : List It} {ids : List Nat} (h : Lst cs i M ids) (hi : i < cs.length) : Lst cs (i + 1) (M ++ [item cs i]) (ids ++ [i]) := by
  refine ⟨?_, ?_, ?_, ?_⟩
  · rw [live_append, h.live, List.map_append]; rfl
  · intro x hx
    rcases List.mem_append.1 hx with hx | hx
    · exact h.tight x hx
    · rw [List.mem_singleton.1 hx]; rfl
  · intro t ht
    rcases List.mem_append.1 ht with ht | ht
    · have := h.lt t ht; omega
    · rw [List.mem_singleton.1 ht]; omega
  · rw [size_append, take_cls cs i hi, List.flatten_append, List.length_append]
    have := h.size
    have e : Arn.size [item cs i] = 4 + (cs.getD i []).length := rfl
    rw [e]
    simp only [List.flatten_cons, List.flatten_nil, List.append_nil]
    omega
theorem kill_mem {M : List It} {r : Int} {x z : It} (hx : find M r = some x) (hz : z ∈ kill M r) : z ∈ M ∨ z = { x with dead := true } := by
  unfold kill at hz
  rw [hx] at hz
  rcases upd_mem hz with h | h
  · exact .inr h
  · exact .inl h
theorem Lst.kill {cs : List (List Int)} {i : Nat} {M : List It} {ids : List Nat} (h : Lst cs i M ids) (hM : Oks M) {j : Nat} {r : Int} (hr : (refs M 0)[j]? = some r) : (find M r).isSome = true ∧ Lst cs i (Arn.kill M r) (ids.eraseIdx j) ∧ refs (Arn.kill M r) 0 = (refs M 0).eraseIdx j := by
  obtain ⟨x, h1, h2, h3, h4⟩ := kill_at hM hr
  rw [Int.sub_zero] at h1 h2 h3 h4
  refine ⟨by rw [h1]; rfl, ⟨?_, ?_, ?_, by rw [h4]; exact h.size⟩, h2⟩
  · rw [h3, h.live, erase_map]
  · intro z hz
    rcases kill_mem h1 hz with hz | rfl
    · exact h.tight z hz
    · obtain ⟨ha, _⟩ := find_some.1 h1
      obtain ⟨A, B, e, _⟩ := at_split ha
      exact h.tight x (by rw [e]; simp)
  · exact fun t ht => h.lt t (List.mem_of_mem_eraseIdx ht)
theorem Lst.collect {cs : List (List Int)} {i : Nat} {M : List It} {ids : List Nat} (h : Lst cs i M ids) (hM : Oks M) : Lst cs i (Arn.collect M) ids := by
  obtain ⟨h1, h2⟩ := live_collect h.tight
  refine ⟨by rw [h1]; exact h.live, ?_, h.lt, Nat.le_trans (collect_size hM) h.size⟩
  rw [h2]
  exact fun x hx => h.tight x (List.mem_filter.1 hx).1
theorem Lst.len {cs : List (List Int)} {i : Nat} {M : List It} {ids : List Nat} (h : Lst cs i M ids) : (refs M 0).length = ids.length := by rw [live_len, h.live, List.length_map]
theorem Lst.find {cs : List (List Int)} {i : Nat} {M : List It} {ids : List Nat} (h : Lst cs i M ids) (hM : Oks M) {j : Nat} (hj : j < ids.length) : ∃ r, (refs M 0)[j]? = some r ∧ Arn.find M r = some (item cs (ids.getD j 0)) := by
  obtain ⟨r, h1, h2⟩ := live_at hM (o := 0) (j := j) (x := item cs (ids.getD j 0)) (by rw [h.live, List.getElem?_map, List.getD, List.getElem?_eq_getElem hj]; rfl)
  rw [Int.sub_zero] at h2
  exact ⟨r, h1, h2⟩
def sum4 (cs : List (List Int)) : List Nat → Nat
  | [] => 0
  | t :: ids => 4 + (cs.getD t []).length + sum4 cs ids
theorem sum4_size (cs : List (List Int)) (ids : List Nat) : size (ids.map (item cs)) = sum4 cs ids := by
  induction ids with
  | nil => rfl
  | cons t ids ih => rw [List.map_cons, size, ih, sum4]; rfl
theorem sum4_snoc (cs : List (List Int)) (ids : List Nat) (t : Nat) : sum4 cs (ids ++ [t]) = sum4 cs ids + (4 + (cs.getD t []).length) := by
  induction ids with
  | nil => simp [sum4]
  | cons u ids ih => rw [List.cons_append, sum4, ih, sum4]; omega
theorem Lst.words {cs : List (List Int)} {i : Nat} {M : List It} {ids : List Nat} (h : Lst cs i M ids) : Arn.size M = waste M + sum4 cs ids := by
  rw [words_live h.tight, h.live, sum4_size]
end Arn
