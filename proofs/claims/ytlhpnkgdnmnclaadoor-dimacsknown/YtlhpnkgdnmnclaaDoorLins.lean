/- The lines of a text, by the document's own function, and the first one that counts. -/
import Derived.Test.YtlhpnkgdnmnclaaDoorLine
import Derived.Maps.AppendAt
namespace Dim
set_option linter.unusedVariables false
theorem drop_cur (xs : List Int) (f i : Nat) (h : f ≤ i) : xs.drop f = cur xs f i ++ xs.drop i := by
  unfold cur
  conv => lhs; rw [← List.take_append_drop (i - f) (xs.drop f)]
  rw [List.drop_drop, show f + (i - f) = i by omega]
theorem lines_step (xs : List Int) (f i : Nat) (hi : i < xs.length) (hf : f ≤ i) (h10 : xs.getD i 0 = 10) (hno : ∀ c ∈ cur xs f i, c ≠ 10) : lines (xs.drop f) = cur xs f i :: lines (xs.drop (i + 1)) := by
  have e : xs.drop f = cur xs f i ++ 10 :: xs.drop (i + 1) := by rw [drop_cur xs f i hf, drop_at xs i hi, h10]
  rw [lines_cons _ (by rw [e]; simp), e, cutL_line _ _ hno, cutR_line _ _ hno]
theorem cur_all (xs : List Int) (f : Nat) : cur xs f xs.length = xs.drop f := by
  unfold cur
  exact List.take_of_length_le (by rw [List.length_drop]; exact Nat.le_refl _)
theorem lines_last (xs : List Int) (f : Nat) (hf : f < xs.length) (hno : ∀ c ∈ cur xs f xs.length, c ≠ 10) : lines (xs.drop f) = [cur xs f xs.length] := by
  rw [cur_all] at *
  have h := cut_without (xs.drop f) (fun h => hno 10 h rfl)
  rw [lines_cons _ (fun e => by have := congrArg List.length e; simp at this; omega), h.1, h.2, lines_nil]
theorem cur_no (xs : List Int) (f i : Nat) (hi : i < xs.length) (hf : f ≤ i) (h : xs.getD i 0 ≠ 10) (hno : ∀ c ∈ cur xs f i, c ≠ 10) : ∀ c ∈ cur xs f (i + 1), c ≠ 10 := by
  rw [cur_snoc xs f i hi hf]
  intro c hc
  rcases List.mem_append.1 hc with h' | h'
  · exact hno c h'
  · rw [List.mem_singleton] at h'; rw [h']; exact h
/-- The first line that counts. -/
def first : List (List Int) → Option Nat
  | [] => none
  | l :: ls => if words l = [] then (first ls).map (· + 1) else some 0
theorem first_at (ls : List (List Int)) (k : Nat) (hk : k < ls.length) (h0 : ∀ j, j < k → words (ls.getD j []) = []) (h : words (ls.getD k []) ≠ []) : first ls = some k := by
  induction ls generalizing k with
  | nil => simp at hk
  | cons l ls ih =>
    cases k with
    | zero => rw [first, if_neg (by simpa using h)]
    | succ k =>
      rw [first, if_pos (by simpa using h0 0 (by omega)), ih k (by simpa using hk) (fun j hj => by simpa using h0 (j + 1) (by omega)) (by simpa using h)]
      rfl
theorem first_none (ls : List (List Int)) (h0 : ∀ j, j < ls.length → words (ls.getD j []) = []) : first ls = none := by
  induction ls with
  | nil => rfl
  | cons l ls ih =>
    rw [first, if_pos (by simpa using h0 0 (by simp)), ih (fun j hj => by simpa using h0 (j + 1) (by simpa using hj))]
    rfl
theorem first_lt (ls : List (List Int)) : ∀ k, first ls = some k → k < ls.length ∧ words (ls.getD k []) ≠ [] := by
  induction ls with
  | nil => intro k h; cases h
  | cons l ls ih =>
    intro k h
    rw [first] at h
    split at h
    · obtain ⟨k', h1, rfl⟩ := Option.map_eq_some_iff.1 h
      have := ih k' h1
      simpa using this
    · rename_i hne
      cases h
      simpa using hne
/-- The head by the lines. -/
theorem headT_first (b : List Int) : ∀ n, headT n b = match first (lines b) with | none => ([], [], n + (lines b).length + 1) | some k => ((lines b).getD k [], (headT n b).2.1, n + k + 1) := by
  generalize hm : b.length = m
  induction m using Nat.strongRecOn generalizing b with
  | _ m ih =>
    intro n
    by_cases hb : b = []
    · rw [hb, headT_nil, lines_nil]; rfl
    · rw [lines_cons b hb]
      by_cases hw : words (cutL b) = []
      · rw [headT_skip n b hb hw, first, if_pos hw, ih (cutR b).length (by have := cut_lt b hb; omega) (cutR b) rfl (n + 1)]
        cases h : first (lines (cutR b)) with
        | none => simp; omega
        | some k => simp; omega
      · rw [headT_stop n b hb hw, first, if_neg hw]
        simp
theorem headT_rest (b : List Int) : ∀ n, ∀ k, first (lines b) = some k → lines (headT n b).2.1 = (lines b).drop (k + 1) := by
  generalize hm : b.length = m
  induction m using Nat.strongRecOn generalizing b with
  | _ m ih =>
    intro n k hk
    by_cases hb : b = []
    · rw [hb, lines_nil] at hk; cases hk
    · rw [lines_cons b hb] at hk ⊢
      by_cases hw : words (cutL b) = []
      · rw [first, if_pos hw] at hk
        obtain ⟨k', h1, rfl⟩ := Option.map_eq_some_iff.1 hk
        rw [headT_skip n b hb hw, ih (cutR b).length (by have := cut_lt b hb; omega) (cutR b) rfl (n + 1) k' h1]
        simp
      · rw [first, if_neg hw] at hk
        cases hk
        rw [headT_stop n b hb hw]
        simp
end Dim
namespace Go.Proofs.YtlhpnkgdnmnclaaDoor
open Go.RowKit
set_option linter.unusedVariables false
set_option linter.unusedSimpArgs false

theorem info69 : (Tryd.prog.info? 69).map (fun i => (i.zero, i.size, i.bytes)) = some (some (.agg #[.slice none 0 0, .bool false]), 2, 32) := by kernel_rfl

/-- A row of words. -/
def StrV (W : World) (v : Value) (ws : List (List Int)) : Prop :=
  ∃ a cap, v = .slice a ws.length cap ∧ (ws = [] ∨ ∃ g cs, a = some ⟨g, 0, none⟩ ∧ W.heap[g]? = some (.cells cs 9 (0, 0)) ∧ ∀ i, i < ws.length → cs[i]? = some (.string (Dim.bs (ws.getD i []))))
theorem StrV.kept {W W' : World} {v : Value} {ws : List (List Int)} (h : StrV W v ws) (hk : ∀ (g : Nat) (cs : Array Value), W.heap[g]? = some (.cells cs 9 (0, 0)) → W'.heap[g]? = W.heap[g]?) : StrV W' v ws := by
  obtain ⟨a, cap, e, h⟩ := h
  refine ⟨a, cap, e, h.imp id ?_⟩
  rintro ⟨g, cs, e1, e2, e3⟩
  exact ⟨g, cs, e1, (hk g cs e2).trans e2, e3⟩
theorem StrV.below {W W' : World} {v : Value} {ws : List (List Int)} (h : StrV W v ws) (hb : Below W.heap.size W W') : StrV W' v ws := h.kept fun g cs hg => hb.block g (Array.getElem?_eq_some_iff.1 hg).1
theorem StrV.of_own {W : World} {base : Nat} {v : Value} {ws : List (List Int)} (h : W.ownsRow base 9 1 v ws.length (strs ws)) : StrV W v ws := by
  rcases h.2 with ⟨e, h0⟩ | ⟨g, c, cur, e, h1, h2, h3, h4, h5, h6⟩
  · exact ⟨none, 0, by rw [e, h0], .inl (List.eq_nil_of_length_eq_zero h0)⟩
  · refine ⟨_, _, e, .inr ⟨g, cur, rfl, h2, fun i hi => ?_⟩⟩
    have := congrArg (fun l : List Value => l[i]?) h6
    simp only [Nat.mul_one] at this
    rw [List.getElem?_take_of_lt hi, Array.getElem?_toList] at this
    rw [this]
    simp [strs, List.getD, List.getElem?_eq_getElem hi]
theorem StrV.at {W : World} {v : Value} {ws : List (List Int)} (h : StrV W v ws) {i : Nat} (hi : i < ws.length) : ∃ g cap, v = .slice (some ⟨g, 0, none⟩) ws.length cap ∧ W.cell? ⟨g, i, none⟩ = some (.string (Dim.bs (ws.getD i []))) := by
  obtain ⟨a, cap, e, h⟩ := h
  rcases h with rfl | ⟨g, cs, rfl, h2, h3⟩
  · simp at hi
  · exact ⟨g, cap, e, by rw [row_cell h2 i]; exact h3 i hi⟩

def flat2 : List (Value × Value) → List Value
  | [] => []
  | p :: ps => p.1 :: p.2 :: flat2 ps
theorem flat2_len (ps : List (Value × Value)) : (flat2 ps).length = ps.length * 2 := by
  induction ps with
  | nil => rfl
  | cons p ps ih => rw [flat2, List.length_cons, List.length_cons, ih, List.length_cons]; omega
theorem flat2_app (ps qs : List (Value × Value)) : flat2 (ps ++ qs) = flat2 ps ++ flat2 qs := by
  induction ps with
  | nil => rfl
  | cons p ps ih => simp [flat2, ih]
theorem flat2_at (ps : List (Value × Value)) (j : Nat) (h : j < ps.length) : (flat2 ps)[2 * j]? = some ps[j].1 ∧ (flat2 ps)[2 * j + 1]? = some ps[j].2 := by
  induction ps generalizing j with
  | nil => simp at h
  | cons p ps ih =>
    cases j with
    | zero => exact ⟨rfl, rfl⟩
    | succ j =>
      have := ih j (by simpa using h)
      rw [show 2 * (j + 1) = 2 * j + 1 + 1 by omega, flat2]
      simpa using this

theorem own_below {W W' : World} {base e size : Nat} {v : Value} {n : Nat} {xs : List Value} (h : W.ownsRow base e size v n xs) (hb : Below W.heap.size W W') : W'.ownsRow base e size v n xs := by
  refine ⟨h.1, h.2.imp id ?_⟩
  rintro ⟨g, c, cur, e1, h1, h2, h3⟩
  exact ⟨g, c, cur, e1, h1, (hb.block g (Array.getElem?_eq_some_iff.1 h2).1).trans h2, h3⟩

/-- A row of lines, each its words and whether it is a remark. -/
structure Lns (base : Nat) (W : World) (ov : Value) (ls : List (List Int)) (ps : List (Value × Value)) : Prop where
  len : ps.length = ls.length
  own : W.ownsRow base 69 2 ov ls.length (flat2 ps)
  ea : ∀ j (h : j < ps.length), StrV W ps[j].1 (Dim.words (ls.getD j [])) ∧ ps[j].2 = .bool (Dim.remark (ls.getD j []))
theorem Lns.below {base : Nat} {W W' : World} {ov : Value} {ls : List (List Int)} {ps : List (Value × Value)} (h : Lns base W ov ls ps) (hb : Below W.heap.size W W') : Lns base W' ov ls ps :=
  ⟨h.len, own_below h.own hb, fun j hj => ⟨(h.ea j hj).1.below hb, (h.ea j hj).2⟩⟩
theorem Lns.at {base : Nat} {W : World} {ov : Value} {ls : List (List Int)} {ps : List (Value × Value)} (h : Lns base W ov ls ps) {j : Nat} (hj : j < ls.length) :
    ∃ g cap v, ov = .slice (some ⟨g, 0, none⟩) ls.length cap ∧ W.cell? ⟨g, j * 2, none⟩ = some v ∧ W.cell? ⟨g, j * 2 + 1, none⟩ = some (.bool (Dim.remark (ls.getD j []))) ∧ StrV W v (Dim.words (ls.getD j [])) := by
  have hj' : j < ps.length := by rw [h.len]; exact hj
  obtain ⟨e1, e2⟩ := h.ea j hj'
  obtain ⟨f1, f2⟩ := flat2_at ps j hj'
  rcases h.own.2 with ⟨e, h0⟩ | ⟨g, c, cur, e, h1, h2, h3, h4, h5, h6⟩
  · omega
  · have k : ∀ i, i < ls.length * 2 → cur[i]? = (flat2 ps)[i]? := fun i hi => by
      have := congrArg (fun l : List Value => l[i]?) h6
      rw [List.getElem?_take_of_lt hi, Array.getElem?_toList] at this
      exact this
    refine ⟨g, c, ps[j].1, e, ?_, ?_, e1⟩
    · rw [row_cell h2, k _ (by omega), Nat.mul_comm, f1]
    · rw [row_cell h2, k _ (by omega), Nat.mul_comm, f2, e2]

/-- One more line. -/
theorem Lns.put {base : Nat} {W : World} {o : Option Addr} {cp : Nat} {ls : List (List Int)} {ps : List (Value × Value)} (h : Lns base W (.slice o ls.length cp) ls ps) (hb : base ≤ W.heap.size) (l : List Int) (v : Value) (hv : StrV W v (Dim.words l)) (hl : ls.length ≤ 200000) (h1 : v.oneCell' = true) :
    ∃ o' cp' B ps', (Builtin.append_ #[65, 65] 65 #[.slice o ls.length cp, .slice (some ⟨W.heap.size, 0, none⟩) 1 1]).run Tryd.prog (W.alloc (.cells #[v, .bool (Dim.remark l)] 69)) = .ok (.slice o' (ls.length + 1) cp') B ∧
      Lns base B (.slice o' (ls ++ [l]).length cp') (ls ++ [l]) ps' ∧ Below base W B := by
  obtain ⟨i0, hi, hz⟩ := Option.map_eq_some_iff.1 info69
  simp only [Prod.mk.injEq] at hz
  obtain ⟨hz0, hz1, hz2⟩ := hz
  obtain ⟨W1, hW1⟩ : ∃ W1, W.alloc (.cells #[v, .bool (Dim.remark l)] 69) = W1 := ⟨_, rfl⟩
  have hM : W1.heap[W.heap.size]? = some (.cells #[v, .bool (Dim.remark l)] 69 (0, 0)) := by rw [← hW1]; exact World.alloc_heap_new _ _
  have h01 : Below W.heap.size W W1 := by rw [← hW1]; exact below_box _ _
  have hs1 : W1.heap.size = W.heap.size + 1 := by rw [← hW1]; simp
  have hL1 := h.below h01
  rw [hW1]
  obtain ⟨v2, B, hr, ho2, hg, _, hat⟩ := run_append_own_at (P := Tryd.prog) W1 base 65 65 69 i0 _ 2 32 Tryd.underlying65 hi hz0 hz1 hz2 rfl (by decide) (.slice o ls.length cp) ls.length (flat2 ps) hL1.own ⟨W.heap.size, 0, none⟩ 1 1 [v, .bool (Dim.remark l)] rfl (fun j u hu => by
    match j, hu with
    | 0, hu => simp at hu; subst hu; rw [show (⟨W.heap.size, 0, none⟩ : Addr).add 0 = ⟨W.heap.size, 0, none⟩ from rfl, row_cell hM 0]; rfl
    | 1, hu => simp at hu; subst hu; rw [show (⟨W.heap.size, 0, none⟩ : Addr).add 1 = ⟨W.heap.size, 1, none⟩ from rfl, row_cell hM 1]; rfl
    | j + 2, hu => simp at hu) (fun u hu => by rcases List.mem_cons.1 hu with rfl | hu; exact h1; rw [List.mem_singleton.1 hu]; rfl) (by simp [maxLen]; omega) (by omega) (by omega)
  obtain ⟨o', cp', rfl⟩ := own_slc ho2
  have hkeep : ∀ (g : Nat) (cs : Array Value), W1.heap[g]? = some (.cells cs 9 (0, 0)) → B.heap[g]? = W1.heap[g]? := fun g cs hgc => hg.block g (Array.getElem?_eq_some_iff.1 hgc).1 (fun e => by
    rcases hL1.own.2 with ⟨e1, _⟩ | ⟨g1, c1, cur1, e1, _, h2, _⟩
    · rw [e1] at e; simp [Value.ownBlock] at e
    · rw [e1] at e; simp [Value.ownBlock] at e; subst e; rw [hgc] at h2; cases h2)
  refine ⟨o', cp', B, ps ++ [(v, .bool (Dim.remark l))], hr, ⟨by simp [h.len], ?_, fun j hj => ?_⟩, ?_⟩
  · rw [List.length_append, flat2_app]
    exact ho2
  · rw [List.length_append, List.length_singleton] at hj
    by_cases hj' : j < ps.length
    · obtain ⟨q1, q2⟩ := hL1.ea j hj'
      rw [List.getElem_append_left hj', show (ls ++ [l]).getD j [] = ls.getD j [] by simp [List.getD, List.getElem?_append_left (show j < ls.length by rw [← h.len]; exact hj')]]
      exact ⟨q1.kept hkeep, q2⟩
    · obtain rfl : j = ps.length := by omega
      rw [List.getElem_append_right (Nat.le_refl _)]
      simp only [Nat.sub_self, List.getElem_cons_zero]
      rw [show (ls ++ [l]).getD ps.length [] = l by rw [h.len]; simp [List.getD]]
      exact ⟨(hv.below h01).kept hkeep, rfl⟩
  · have hvn : ∀ k, (Value.slice o ls.length cp).ownBlock = some k → base ≤ k := fun k hk => by
      rcases hL1.own.2 with ⟨e, _⟩ | ⟨g, cp1, cur1, e1, h1, _⟩
      · rw [e] at hk; simp [Value.ownBlock] at hk
      · rw [e1] at hk; simp [Value.ownBlock] at hk; omega
    exact ((Below.refl _ W).trans (h01.mono hb)).grown hg (by omega) hvn
end Go.Proofs.YtlhpnkgdnmnclaaDoor
