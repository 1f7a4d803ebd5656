/- The queue, plainly: a ring laid in two rows, and a row. -/
namespace Go.Proofs.Ytjnifadfcnpdoaa.Qp
set_option linter.unusedVariables false

theorem setN (l : List Nat) (u x : Nat) (hu : u < l.length) (k : Nat) : (l.set u x).getD k 0 = if k = u then x else l.getD k 0 := by
  rw [List.getD_eq_getElem?_getD, List.getD_eq_getElem?_getD, List.getElem?_set]
  by_cases h : k = u
  · subst h; simp [hu]
  · simp [h, Ne.symm h]
theorem setI (l : List Int) (u : Nat) (x : Int) (hu : u < l.length) (k : Nat) : (l.set u x).getD k 0 = if k = u then x else l.getD k 0 := by
  rw [List.getD_eq_getElem?_getD, List.getD_eq_getElem?_getD, List.getElem?_set]
  by_cases h : k = u
  · subst h; simp [hu]
  · simp [h, Ne.symm h]
/-- A chain from a through l to b. -/
def Ch (bh ah : List Nat) : Nat → List Nat → Nat → Prop
  | a, [], b => bh.getD a 0 = b ∧ ah.getD b 0 = a
  | a, x :: l, b => (bh.getD a 0 = x ∧ ah.getD x 0 = a) ∧ Ch bh ah x l b
theorem Ch.split {bh ah : List Nat} {b x : Nat} {l2 : List Nat} : ∀ {l1 : List Nat} {a : Nat}, Ch bh ah a (l1 ++ x :: l2) b ↔ Ch bh ah a l1 x ∧ Ch bh ah x l2 b
  | [], a => by simp [Ch]
  | y :: l1, a => by
    have := Ch.split (bh := bh) (ah := ah) (b := b) (x := x) (l2 := l2) (l1 := l1) (a := y)
    simp only [List.cons_append, Ch, this, and_assoc]
theorem Ch.congr {bh ah bh' ah' : List Nat} {b : Nat} : ∀ {l : List Nat} {a : Nat}, Ch bh ah a l b → (∀ x, x = a ∨ x ∈ l → bh'.getD x 0 = bh.getD x 0) → (∀ x, x = b ∨ x ∈ l → ah'.getD x 0 = ah.getD x 0) → Ch bh' ah' a l b
  | [], a, h, h1, h2 => ⟨(h1 a (.inl rfl)).trans h.1, (h2 b (.inl rfl)).trans h.2⟩
  | y :: l, a, h, h1, h2 => ⟨⟨(h1 a (.inl rfl)).trans h.1.1, (h2 y (.inr (.head _))).trans h.1.2⟩, Ch.congr h.2 (fun x hx => h1 x (.inr (by rcases hx with rfl | hx; exact .head _; exact .tail _ hx))) (fun x hx => h2 x (hx.imp id (.tail _)))⟩
theorem Ch.last {bh ah : List Nat} {b : Nat} : ∀ {l : List Nat} {a : Nat}, Ch bh ah a l b → ah.getD b 0 = l.getLastD a
  | [], a, h => h.2
  | y :: l, a, h => by rw [List.getLastD_cons]; exact h.2.last
theorem Ch.first {bh ah : List Nat} {b : Nat} {l : List Nat} {a : Nat} (h : Ch bh ah a l b) : bh.getD a 0 = l.headD b := by
  cases l with
  | nil => exact h.1
  | cons y l => exact h.1.1
theorem lastD_mem : ∀ (l : List Nat) (a : Nat), l.getLastD a = a ∨ l.getLastD a ∈ l
  | [], a => .inl rfl
  | y :: l, a => by
    rw [List.getLastD_cons]
    rcases lastD_mem l y with h | h
    · rw [h]; exact .inr (.head _)
    · exact .inr (.tail _ h)
theorem headD_mem (l : List Nat) (b : Nat) : l.headD b = b ∨ l.headD b ∈ l := by
  cases l with
  | nil => exact .inl rfl
  | cons y l => exact .inr (.head _)
/-- One taken out. -/
theorem Ch.out {bh ah : List Nat} {v b N : Nat} {l2 : List Nat} (hbl : bh.length = N) (hal : ah.length = N) : ∀ {l1 : List Nat} {a : Nat}, Ch bh ah a l1 v → Ch bh ah v l2 b → a < N → b < N → (∀ x ∈ l1, x < N) → (∀ x ∈ l2, x < N) → a ∉ l1 → a ∉ l2 → (l1 ++ l2).Nodup → b ∉ l1 → b ∉ l2 →
    Ch (bh.set (l1.getLastD a) (l2.headD b)) (ah.set (l2.headD b) (l1.getLastD a)) a (l1 ++ l2) b
  | [], a, h1, h2, ha, hb, hl1, hl2, a1, a2, hd, b1, b2 => by
    show Ch (bh.set a (l2.headD b)) (ah.set (l2.headD b) a) a l2 b
    cases l2 with
    | nil =>
      refine ⟨?_, ?_⟩
      · show (bh.set a b).getD a 0 = b
        rw [setN _ _ _ (by omega), if_pos rfl]
      · show (ah.set b a).getD b 0 = a
        rw [setN _ _ _ (by omega), if_pos rfl]
    | cons y l =>
      have hy : y < N := hl2 y (.head _)
      refine ⟨⟨?_, ?_⟩, h2.2.congr (fun x hx => ?_) (fun x hx => ?_)⟩
      · show (bh.set a y).getD a 0 = y
        rw [setN _ _ _ (by omega), if_pos rfl]
      · show (ah.set y a).getD y 0 = a
        rw [setN _ _ _ (by omega), if_pos rfl]
      · show (bh.set a y).getD x 0 = _
        rw [setN _ _ _ (by omega), if_neg]
        rintro rfl
        exact a2 (by rcases hx with rfl | hx; exact .head _; exact .tail _ hx)
      · show (ah.set y a).getD x 0 = _
        rw [setN _ _ _ (by omega), if_neg]
        rintro rfl
        rcases hx with rfl | hx
        · exact b2 (.head _)
        · exact (List.nodup_cons.1 hd).1 hx
  | y :: l1, a, h1, h2, ha, hb, hl1, hl2, a1, a2, hd, b1, b2 => by
    rw [List.getLastD_cons]
    have hd' : y ∉ l1 ++ l2 ∧ (l1 ++ l2).Nodup := List.nodup_cons.1 hd
    have ih := Ch.out (v := v) hbl hal (l1 := l1) (a := y) h1.2 h2 (hl1 y (.head _)) hb (fun x hx => hl1 x (.tail _ hx)) hl2 (fun h => hd'.1 (List.mem_append.2 (.inl h))) (fun h => hd'.1 (List.mem_append.2 (.inr h))) hd'.2 (fun h => b1 (.tail _ h)) b2
    have hp : l1.getLastD y < N := by rcases lastD_mem l1 y with h | h; rw [h]; exact hl1 y (.head _); exact hl1 _ (.tail _ h)
    have hs : l2.headD b < N := by rcases headD_mem l2 b with h | h; rw [h]; exact hb; exact hl2 _ h
    refine ⟨⟨?_, ?_⟩, ih⟩
    · rw [setN _ _ _ (by omega), if_neg]
      · exact h1.1.1
      · intro e
        rcases lastD_mem l1 y with h | h
        · exact a1 (by rw [e, h]; exact .head _)
        · exact a1 (by rw [e]; exact .tail _ h)
    · rw [setN _ _ _ (by omega), if_neg]
      · exact h1.1.2
      · intro e
        rcases headD_mem l2 b with h | h
        · exact b1 (by rw [← h, ← e]; exact .head _)
        · exact hd'.1 (List.mem_append.2 (.inr (by rw [e]; exact h)))
/-- One put behind all. -/
theorem Ch.put {bh ah : List Nat} {v b N : Nat} (hbl : bh.length = N) (hal : ah.length = N) (hv : v < N) (hb : b < N) (hvb : v ≠ b) : ∀ {l : List Nat} {a : Nat}, Ch bh ah a l b → a < N → (∀ x ∈ l, x < N) → a ∉ l → l.Nodup → v ≠ a → v ∉ l → b ∉ l →
    Ch ((bh.set (l.getLastD a) v).set v b) ((ah.set v (l.getLastD a)).set b v) a (l ++ [v]) b
  | [], a, h, ha, hl, a1, hd, va, vl, bl => by
    refine ⟨⟨?_, ?_⟩, ?_, ?_⟩
    · show ((bh.set a v).set v b).getD a 0 = v
      rw [setN _ _ _ (by simp; omega), if_neg (fun e => va e.symm), setN _ _ _ (by omega), if_pos rfl]
    · show ((ah.set v a).set b v).getD v 0 = a
      rw [setN _ _ _ (by simp; omega), if_neg hvb, setN _ _ _ (by omega), if_pos rfl]
    · rw [setN _ _ _ (by simp; omega), if_pos rfl]
    · rw [setN _ _ _ (by simp; omega), if_pos rfl]
  | y :: l, a, h, ha, hl, a1, hd, va, vl, bl => by
    rw [List.getLastD_cons]
    have hd' := List.nodup_cons.1 hd
    have ih := Ch.put hbl hal hv hb hvb (l := l) (a := y) h.2 (hl y (.head _)) (fun x hx => hl x (.tail _ hx)) hd'.1 hd'.2 (fun e => vl (by rw [e]; exact .head _)) (fun h => vl (.tail _ h)) (fun h => bl (.tail _ h))
    have hp : l.getLastD y < N := by rcases lastD_mem l y with h | h; rw [h]; exact hl y (.head _); exact hl _ (.tail _ h)
    refine ⟨⟨?_, ?_⟩, ih⟩
    · rw [setN _ _ _ (by simp; omega), if_neg (fun e => va e.symm), setN _ _ _ (by omega), if_neg]
      · exact h.1.1
      · intro e
        rcases lastD_mem l y with h | h
        · exact a1 (by rw [e, h]; exact .head _)
        · exact a1 (by rw [e]; exact .tail _ h)
    · rw [setN _ _ _ (by simp; omega), if_neg (fun e => bl (by rw [← e]; exact .head _)), setN _ _ _ (by omega), if_neg (fun e => vl (by rw [← e]; exact .head _))]
      exact h.1.2
end Go.Proofs.Ytjnifadfcnpdoaa.Qp
