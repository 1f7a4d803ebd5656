/- The document's own Parse: what it has read, and what that is in plain words. -/
import Derived.Test.YtlhpnkgdnmnclaaDoorLins
import Derived.Test.YtlhpnkgdnmnclaaDoorBack
namespace Dim
set_option linter.unusedVariables false
/-- What a word of a clause says, by the document's number. -/
theorem refNum_signed (w : List Int) (v : Nat) : refNum w true v = match signed w with | none => (0, false, false) | some (m, n) => if v < n then (0, true, false) else ((if m then -(n : Int) else n), true, true) := by
  unfold signed
  by_cases h45 : w.head? = some 45
  · rw [if_pos h45]
    obtain ⟨t, rfl⟩ : ∃ t, w = 45 :: t := by
      cases w with
      | nil => cases h45
      | cons c cs => simp at h45; exact ⟨cs, by rw [h45]⟩
    have hbad : ∀ s : List Int, isNum (45 :: s) = false := fun s => isNum_digit (k := 0) (by simp) (by simp [digit])
    by_cases h1 : t = []
    · subst h1
      rw [refNum_same _ _ _ (by simp), refOf_bad _ _ _ (hbad _)]
      rfl
    by_cases h2 : t = [48]
    · subst h2
      rw [refNum_same _ _ _ (by simp), refOf_bad _ _ _ (hbad _)]
      rfl
    · have hl : 0 < t.length := List.length_pos_iff.2 h1
      rw [refNum_tail _ _ (by simp; omega) rfl (by simpa using h2)]
      simp only [List.tail_cons]
      unfold refOf number
      cases hn : isNum t
      · simp
      · simp only [if_true]
        have hz : ¬ valGo 0 t = 0 := by
          intro hz
          apply h2
          match t, h1 with
          | [c], _ =>
            have hd : digit c = true := by
              unfold isNum at hn
              simp at hn
              exact hn
            unfold digit at hd
            simp at hd
            simp [valGo] at hz
            have : c = 48 := by omega
            rw [this]
          | c :: d :: r, _ =>
            have h48 : c ≠ 48 := by
              intro h
              rw [isNum_lead (w := c :: d :: r) (by simp) (by simp [h])] at hn
              cases hn
            have hd : digit c = true := by
              unfold isNum at hn
              simp only [Bool.and_eq_true, List.all_cons] at hn
              exact hn.2.1
            unfold digit at hd
            simp at hd
            have := valGo_ge (d :: r) (10 * 0 + (c - 48).toNat)
            rw [valGo] at hz
            omega
        rw [if_neg hz]
        rfl
  · rw [if_neg h45, refNum_same _ _ _ (fun h => by
      apply h45
      cases w with
      | nil => simp at h
      | cons c cs => simpa using h.2.2.1)]
    unfold refOf number
    cases hn : isNum w <;> simp
/-- A text without a head. -/
theorem parse_none (b : List Int) (h : first (lines b) = none) : parse b = ⟨20, (lines b).length + 1, 0, []⟩ := by
  have e := headT_first b 0
  rw [h] at e
  unfold parse
  rw [e]
  simp [readHead, words, remark, wordsGo]
theorem parse_head (b : List Int) (k : Nat) (h : first (lines b) = some k) : parse b = match readHead ((lines b).getD k []) with
    | none => ⟨20, k + 1, 0, []⟩
    | some (v, c) => if 1048576 < v ∨ 1048576 < c then ⟨22, k + 1, 0, []⟩
      else match play v c ⟨[], [], 0⟩ (items (k + 1) ((lines b).drop (k + 1))) with
        | .error (e, j) => ⟨e, j, 0, []⟩
        | .ok st => if st.cls.length < c then ⟨23, (lines b).length + 1, 0, []⟩ else ⟨0, 0, v, st.cls⟩ := by
  have e := headT_first b 0
  have r := headT_rest b 0 k h
  have hk := (first_lt _ k h).1
  rw [h] at e
  simp only [Nat.zero_add] at e
  have e1 : (headT 0 b).1 = (lines b).getD k [] := by rw [e]
  have e2 : (headT 0 b).2.2 = k + 1 := by rw [e]
  unfold parse
  rw [e1, e2, r]
  have : k + 1 + ((lines b).drop (k + 1)).length + 1 = (lines b).length + 1 := by rw [List.length_drop]; omega
  rw [this]
  rfl
/-- What is still to be read at line i, word k. -/
def todo (L : List (List Int)) (i k : Nat) : List (Nat × List Int) := ((words (L.getD i [])).drop k).map (fun w => (i + 1, w)) ++ items (i + 1) (L.drop (i + 1))
theorem todo_begin (L : List (List Int)) (i : Nat) (h : i < L.length) : items i (L.drop i) = todo L i 0 := by
  rw [List.drop_eq_getElem_cons h, items]
  unfold todo
  simp [List.getD, List.getElem?_eq_getElem h]
theorem todo_line (L : List (List Int)) (i k : Nat) (h : (words (L.getD i [])).length ≤ k) : todo L i k = items (i + 1) (L.drop (i + 1)) := by
  unfold todo
  rw [List.drop_eq_nil_of_le h]
  rfl
theorem todo_word (L : List (List Int)) (i k : Nat) (h : k < (words (L.getD i [])).length) : todo L i k = (i + 1, (words (L.getD i [])).getD k []) :: todo L i (k + 1) := by
  unfold todo
  generalize words (L.getD i []) = ws at h
  have e : ws.drop k = ws.getD k [] :: ws.drop (k + 1) := by
    rw [List.drop_eq_getElem_cons h]
    simp [List.getD, List.getElem?_eq_getElem h]
  rw [e]
  rfl
theorem items_end (L : List (List Int)) (i : Nat) (h : L.length ≤ i) : items i (L.drop i) = [] := by
  rw [List.drop_eq_nil_of_le h]
  rfl
end Dim
namespace Go.Proofs.YtlhpnkgdnmnclaaDoor
open Go.RowKit
set_option linter.unusedVariables false
set_option linter.unusedSimpArgs false

/-- What has been read. -/
structure RdR (base clauses : Nat) (W : World) (st : Dim.St) (cv ov : Value) (vals : List Value) : Prop where
  cl : W.ownsRow base 52 1 cv st.cls.length vals
  op : W.ownsRow base 50 1 ov st.opn.length (st.opn.map (Value.int .i32))
  ea : ∀ j, j < st.cls.length → ClV base W ov.ownBlock (vals.getD j undef) (st.cls.getD j [])
  bo : (∀ c ∈ st.cls, ∀ x ∈ c, -1048576 ≤ x ∧ x ≤ 1048576) ∧ (∀ x ∈ st.opn, -1048576 ≤ x ∧ x ≤ 1048576)
  li : st.lits ≤ 16777216 ∧ st.opn.length ≤ st.lits ∧ st.cls.length ≤ clauses ∧ clauses ≤ 1048576 ∧ ∀ c ∈ st.cls, c.length ≤ 16777216
  no : st.opn ≠ [] → st.cls.length < clauses

theorem RdR.start (base clauses : Nat) (W : World) (hc : clauses ≤ 1048576) : RdR base clauses W ⟨[], [], 0⟩ (.slice none 0 0) (.slice none 0 0) [] :=
  ⟨World.ownsRow_nil _ _ _ _, World.ownsRow_nil _ _ _ _, (fun j h => by simp at h), ⟨(fun c h => by cases h), (fun c h => by cases h)⟩, ⟨by simp, by simp, by simp, hc, (fun c h => by cases h)⟩, fun h => absurd rfl h⟩

theorem RdR.lit {base clauses : Nat} {W : World} {st : Dim.St} {cv ov : Value} {vals : List Value} (h : RdR base clauses W st cv ov vals) (hbs : base ≤ W.heap.size) (l : Int) (hl : -1048576 ≤ l ∧ l ≤ 1048576) (hlit : st.lits < 16777216) (hcl : st.cls.length < clauses) :
    ∃ o' cp' B, (Builtin.append_ #[52, 52] 52 #[ov, .slice (some ⟨W.heap.size, 0, none⟩) 1 1]).run Tryd.prog (W.alloc (.cells #[.int .i32 l] 50)) = .ok (.slice o' (st.opn.length + 1) cp') B ∧
      RdR base clauses B ⟨st.cls, st.opn ++ [l], st.lits + 1⟩ cv (.slice o' (st.opn.length + 1) cp') vals ∧ Below base W B := by
  obtain ⟨i0, hi, hz⟩ := Option.map_eq_some_iff.1 info50
  simp only [Prod.mk.injEq] at hz
  obtain ⟨hz0, hz1, hz2⟩ := hz
  obtain ⟨W1, hW1⟩ : ∃ W1, W.alloc (.cells #[.int .i32 l] 50) = W1 := ⟨_, rfl⟩
  have hM : W1.heap[W.heap.size]? = some (.cells #[.int .i32 l] 50 (0, 0)) := by rw [← hW1]; exact World.alloc_heap_new _ _
  have h01 : Below W.heap.size W W1 := by rw [← hW1]; exact below_box _ _
  have hs1 : W1.heap.size = W.heap.size + 1 := by rw [← hW1]; simp
  have hop := own_below h.op h01
  have hol : st.opn.length ≤ 16777216 := by have := h.li.1; have := h.li.2.1; omega
  rw [hW1]
  obtain ⟨v2, B, hr, ho2, hg, _, hat⟩ := run_append_own_at (P := Tryd.prog) W1 base 52 52 50 i0 _ 1 4 Tryd.underlying52 hi hz0 hz1 hz2 rfl (by decide) ov st.opn.length _ hop ⟨W.heap.size, 0, none⟩ 1 1 [.int .i32 l] rfl (fun j u hu => by
    match j, hu with
    | 0, hu => simp at hu; subst hu; rw [show (⟨W.heap.size, 0, none⟩ : Addr).add 0 = ⟨W.heap.size, 0, none⟩ from rfl, row_cell hM 0]; rfl
    | j + 1, hu => simp at hu) (by simp [Value.oneCell']) (by simp [maxLen]; omega) (by omega) (by omega)
  obtain ⟨o', cp', rfl⟩ := own_slc ho2
  have keep : ∀ {k : Nat} {cs : Array Value} {t : TypeId} {fr : Nat × Nat}, W.heap[k]? = some (.cells cs t fr) → ov.ownBlock ≠ some k → B.heap[k]? = W.heap[k]? := fun hk hne => by
    have hkl := (Array.getElem?_eq_some_iff.1 hk).1
    exact (hg.block _ (by omega) (fun e => hne e.symm)).trans (h01.block _ hkl)
  refine ⟨o', cp', B, hr, ⟨?_, ?_, ?_, ⟨h.bo.1, ?_⟩, ?_, fun _ => hcl⟩, ?_⟩
  · exact row_same h.cl (fun k cs hk hkk => keep hkk (fun e => row_ne (v := ov) hkk h.op (by decide) e.symm))
  · rw [show (st.opn ++ [l]).length = st.opn.length + 1 by simp, List.map_append]
    exact ho2
  · intro j hj
    refine (h.ea j hj).next (fun k cs fr hk hne => ⟨keep hk hne, ?_⟩)
    have hkl := (Array.getElem?_eq_some_iff.1 hk).1
    rcases hat with hat | hat
    · rw [hat]; exact hne
    · rw [hat]; intro e; cases e; omega
  · intro x hx
    rcases List.mem_append.1 hx with hx | hx
    · exact h.bo.2 x hx
    · rw [List.mem_singleton.1 hx]; exact hl
  · obtain ⟨l1, l2, l3, l4, l5⟩ := h.li
    exact ⟨by show st.lits + 1 ≤ 16777216; omega, by simp; omega, l3, l4, l5⟩
  · have hvn : ∀ k, ov.ownBlock = some k → base ≤ k := fun k hk => by
      rcases hop.2 with ⟨e, _⟩ | ⟨g, cp1, cur1, e1, h1, _⟩
      · rw [e] at hk; simp [Value.ownBlock] at hk
      · rw [e1] at hk; simp [Value.ownBlock] at hk; omega
    exact ((Below.refl _ W).trans (h01.mono hbs)).grown hg (by omega) hvn

theorem RdR.push {base clauses : Nat} {W : World} {st : Dim.St} {cv ov : Value} {vals : List Value} (h : RdR base clauses W st cv ov vals) (hbs : base ≤ W.heap.size) (hcl : st.cls.length < clauses) :
    ∃ o' cp' B, (Builtin.append_ #[23, 23] 23 #[cv, .slice (some ⟨W.heap.size, 0, none⟩) 1 1]).run Tryd.prog (W.alloc (.cells #[ov] 52)) = .ok (.slice o' (st.cls.length + 1) cp') B ∧
      RdR base clauses B ⟨st.cls ++ [st.opn], [], st.lits⟩ (.slice o' (st.cls.length + 1) cp') (.slice none 0 0) (vals ++ [ov]) ∧ Below base W B := by
  obtain ⟨i0, hi, hz⟩ := Option.map_eq_some_iff.1 info52
  simp only [Prod.mk.injEq] at hz
  obtain ⟨hz0, hz1, hz2⟩ := hz
  obtain ⟨W1, hW1⟩ : ∃ W1, W.alloc (.cells #[ov] 52) = W1 := ⟨_, rfl⟩
  have hM : W1.heap[W.heap.size]? = some (.cells #[ov] 52 (0, 0)) := by rw [← hW1]; exact World.alloc_heap_new _ _
  have h01 : Below W.heap.size W W1 := by rw [← hW1]; exact below_box _ _
  have hs1 : W1.heap.size = W.heap.size + 1 := by rw [← hW1]; simp
  have hcv := own_below h.cl h01
  have hvl : vals.length = st.cls.length := by have := h.cl.1; omega
  have hov1 : ov.oneCell' = true := by obtain ⟨a, b, rfl⟩ := own_slc h.op; rfl
  have hlb : st.cls.length ≤ 1048576 := by have := h.li.2.2; omega
  rw [hW1]
  obtain ⟨v2, B, hr, ho2, hg, _, hat⟩ := run_append_own_at (P := Tryd.prog) W1 base 23 23 52 i0 _ 1 24 Tryd.underlying23 hi hz0 hz1 hz2 rfl (by decide) cv st.cls.length _ hcv ⟨W.heap.size, 0, none⟩ 1 1 [ov] rfl (fun j u hu => by
    match j, hu with
    | 0, hu => simp at hu; subst hu; rw [show (⟨W.heap.size, 0, none⟩ : Addr).add 0 = ⟨W.heap.size, 0, none⟩ from rfl, row_cell hM 0]; rfl
    | j + 1, hu => simp at hu) (by simp [hov1]) (by simp [maxLen]; omega) (by omega) (by omega)
  obtain ⟨o', cp', rfl⟩ := own_slc ho2
  have keep : ∀ {k : Nat} {cs : Array Value} {fr : Nat × Nat}, W.heap[k]? = some (.cells cs 50 fr) → B.heap[k]? = W.heap[k]? := fun {k cs fr} hk => by
    have hkl := (Array.getElem?_eq_some_iff.1 hk).1
    have hk1 := (h01.block _ hkl).trans hk
    exact (hg.block _ (by omega) (row_ne hk1 hcv (by decide))).trans (h01.block _ hkl)
  refine ⟨o', cp', B, hr, ⟨?_, World.ownsRow_nil _ _ _ _, ?_, ⟨?_, fun x hx => by cases hx⟩, ?_, fun hh => absurd rfl hh⟩, ?_⟩
  · rw [show (st.cls ++ [st.opn]).length = st.cls.length + 1 by simp]
    exact ho2
  · intro j hj
    rcases Nat.lt_or_ge j st.cls.length with hj' | hj'
    · have e1 : (vals ++ [ov]).getD j undef = vals.getD j undef := by simp [List.getD, List.getElem?_append_left (show j < vals.length by omega)]
      have e2 : (st.cls ++ [st.opn]).getD j [] = st.cls.getD j [] := by simp [List.getD, List.getElem?_append_left hj']
      rw [e1, e2]
      exact (h.ea j hj').next (fun k cs fr hk hne => ⟨keep hk, by simp [Value.ownBlock]⟩)
    · have hje : j = st.cls.length := by
        have : j < st.cls.length + 1 := by simpa using hj
        omega
      subst hje
      have e1 : (vals ++ [ov]).getD st.cls.length undef = ov := by rw [← hvl]; simp [List.getD]
      have e2 : (st.cls ++ [st.opn]).getD st.cls.length [] = st.opn := by simp [List.getD]
      rw [e1, e2]
      rcases h.op.2 with ⟨e, h0⟩ | ⟨g, cap, cur, e, h1, h2, h3, h4, h5, h6⟩
      · exact ⟨none, 0, by rw [e, h0], .inl (List.eq_nil_of_length_eq_zero h0)⟩
      · refine ⟨some ⟨g, 0, none⟩, cap, e, .inr ⟨g, cur, (0, 0), rfl, h1, by simp [Value.ownBlock], (keep h2).trans h2, fun i hi => ?_⟩⟩
        have := congrArg (fun l : List Value => l[i]?) h6
        simp only [Nat.mul_one, List.getElem?_take, hi, if_true, List.getElem?_map] at this
        rw [← Array.getElem?_toList, this]
        simp [List.getD, List.getElem?_eq_getElem hi]
  · intro c hc
    rcases List.mem_append.1 hc with hc | hc
    · exact h.bo.1 c hc
    · rw [List.mem_singleton.1 hc]; exact h.bo.2
  · obtain ⟨l1, l2, l3, l4, l5⟩ := h.li
    refine ⟨l1, Nat.zero_le _, by simp; omega, l4, fun c hc => ?_⟩
    rcases List.mem_append.1 hc with hc | hc
    · exact l5 c hc
    · rw [List.mem_singleton.1 hc]; omega
  · have hvn : ∀ k, cv.ownBlock = some k → base ≤ k := fun k hk => by
      rcases hcv.2 with ⟨e, _⟩ | ⟨g, cp1, cur1, e1, h1, _⟩
      · rw [e] at hk; simp [Value.ownBlock] at hk
      · rw [e1] at hk; simp [Value.ownBlock] at hk; omega
    exact ((Below.refl _ W).trans (h01.mono hbs)).grown hg (by omega) hvn

theorem RdR.below {base clauses : Nat} {W W' : World} {st : Dim.St} {cv ov : Value} {vals : List Value} (h : RdR base clauses W st cv ov vals) (hb : Below W.heap.size W W') : RdR base clauses W' st cv ov vals := by
  have k : ∀ {g : Nat} {o : Obj}, W.heap[g]? = some o → W'.heap[g]? = W.heap[g]? := fun hg => hb.block _ (Array.getElem?_eq_some_iff.1 hg).1
  exact ⟨row_same h.cl (fun g cs _ hg => k hg), row_same h.op (fun g cs _ hg => k hg), fun j hj => (h.ea j hj).next (fun g cs fr hg hne => ⟨k hg, hne⟩), h.bo, h.li, h.no⟩

theorem RdR.set {base clauses : Nat} {W : World} {st : Dim.St} {cv ov : Value} {vals : List Value} (h : RdR base clauses W st cv ov vals) {b k : Nat} (hb : b < base) (u : Value) : RdR base clauses (W.setCell ⟨b, k, none⟩ u) st cv ov vals := by
  refine ⟨own_set h.cl hb u, own_set h.op hb u, fun j hj => ?_, h.bo, h.li, h.no⟩
  obtain ⟨a, cap, e, h⟩ := h.ea j hj
  refine ⟨a, cap, e, h.imp id ?_⟩
  rintro ⟨g, cs, fr, h1, h2, h3, h4, h5⟩
  exact ⟨g, cs, fr, h1, h2, h3, (heap_other _ _ (by omega)).trans h4, h5⟩
theorem RdR.cls {base clauses : Nat} {W : World} {st : Dim.St} {cv ov : Value} {vals : List Value} (h : RdR base clauses W st cv ov vals) : ∃ a cap, cv = .slice a st.cls.length cap ∧ Cls W a st.cls := by
  have hvl : vals.length = st.cls.length := by have := h.cl.1; omega
  rcases h.cl.2 with ⟨e, h0⟩ | ⟨g, cap, cur, e, h1, h2, h3, h4, h5, h6⟩
  · have : st.cls = [] := List.eq_nil_of_length_eq_zero h0
    exact ⟨none, 0, by rw [e, h0], by rw [this]; exact Cls.nil _ _⟩
  · refine ⟨some ⟨g, 0, none⟩, cap, e, fun c hc => by have := h.li.2.2.2.2 c hc; omega, .inr ⟨g, 0, rfl, (Array.getElem?_eq_some_iff.1 h2).1, fun j hj => ?_⟩⟩
    obtain ⟨a, capj, ej, hl⟩ := h.ea j hj
    refine ⟨a, capj, ?_, ?_, ?_⟩
    · rw [← ej, Nat.zero_add, row_cell h2 j, ← Array.getElem?_toList]
      have := congrArg (fun l : List Value => l[j]?) h6
      simp only [Nat.mul_one] at this
      rw [List.getElem?_take_of_lt hj] at this
      rw [this]
      simp [List.getD, List.getElem?_eq_getElem (show j < vals.length by omega)]
    · have hm : st.cls.getD j [] ∈ st.cls := by simp [List.getD, List.getElem?_eq_getElem hj]
      intro x hx
      have := h.bo.1 _ hm x hx
      omega
    · rcases hl with hl | ⟨g', cs, fr, q1, q2, q3, q4, q5⟩
      · exact .inl hl
      · exact .inr ⟨g', 0, q1, (Array.getElem?_eq_some_iff.1 q4).1, fun i hi => by rw [Nat.zero_add, row_cell q4 i]; exact q5 i hi⟩
end Go.Proofs.YtlhpnkgdnmnclaaDoor
