/- The reader of a formula: how it lies in memory, and what a word does to it. -/
import Derived.Test.YtlhpnkgdnmnclaaDoorLines
import Derived.Deep.AppendLies
import Derived.Deep.RegionHeld3
import Derived.Laws.AppendOwnNone
import Derived.Deep.RegionLaw
namespace Go.Proofs.YtlhpnkgdnmnclaaDoor
open Go.RowKit
set_option linter.unusedVariables false

/-- What the reader's calls leave: all but its own variable, its row of clauses and its row of literals. -/
def NotR : Obj → Prop
  | .cells _ t _ => t ≠ 60 ∧ t ≠ 52 ∧ t ≠ 50
  | _ => True
structure KeepR (base : Nat) (W W' : World) : Prop where
  below : Below base W W'
  same : ∀ (k : Nat) (o : Obj), W.heap[k]? = some o → NotR o → W'.heap[k]? = some o

theorem KeepR.refl (base : Nat) (W : World) : KeepR base W W := ⟨Below.refl _ _, fun _ _ h _ => h⟩
theorem KeepR.trans {base : Nat} {A B C : World} (h : KeepR base A B) (k : KeepR base B C) : KeepR base A C := ⟨h.below.trans k.below, fun i o hi ho => k.same i o (h.same i o hi ho) ho⟩
theorem KeepR.of_below {base : Nat} {A B : World} (h : Below A.heap.size A B) (hb : base ≤ A.heap.size) : KeepR base A B := ⟨h.mono hb, fun k o hk _ => (h.block k (Array.getElem?_eq_some_iff.1 hk).1).trans hk⟩
theorem KeepR.set {base b k : Nat} {A : World} {cs : Array Value} {t : TypeId} {fr : Nat × Nat} (hb : base ≤ b) (h : A.heap[b]? = some (.cells cs t fr)) (ht : t = 60 ∨ t = 52 ∨ t = 50) (u : Value) : KeepR base A (A.setCell ⟨b, k, none⟩ u) := by
  refine ⟨(Below.refl _ _).setCell (p := ⟨b, k, none⟩) hb u, fun i o hi ho => (heap_other _ _ ?_).trans hi⟩
  rintro rfl
  rw [h] at hi
  cases hi
  obtain ⟨h1, h2, h3⟩ := ho
  rcases ht with h | h | h
  · exact h1 h
  · exact h2 h
  · exact h3 h
theorem KeepR.grown {base : Nat} {A A' : World} {e : TypeId} {v : Value} {n : Nat} {xs : List Value} (hr : A.ownsRow base e 1 v n xs) (he : e = 52 ∨ e = 50) (hg : A.grownBy A' v.ownBlock) (hb : base ≤ A.heap.size) : KeepR base A A' := by
  have hown : ∀ k, v.ownBlock = some k → base ≤ k ∧ ∃ cs, A.heap[k]? = some (.cells cs e (0, 0)) := fun k hk => by
    rcases hr.2 with ⟨rfl, _⟩ | ⟨g, cap, cur, rfl, h1, h2, _⟩
    · simp [Value.ownBlock] at hk
    · simp [Value.ownBlock] at hk; subst hk; exact ⟨h1, _, h2⟩
  refine ⟨(Below.refl _ _).grown hg hb (fun k hk => (hown k hk).1), fun k o hk ho => (hg.block k (Array.getElem?_eq_some_iff.1 hk).1 (fun e' => ?_)).trans hk⟩
  obtain ⟨_, cs, h⟩ := hown k e'.symm
  rw [h] at hk
  cases hk
  obtain ⟨_, h2, h3⟩ := ho
  rcases he with h | h
  · exact h2 h
  · exact h3 h
theorem KeepR.keepS {base l : Nat} {A A' : World} (h : KeepR base A A') : KeepS l A A' :=
  ⟨h.below.size, fun k o hk ho _ => h.same k o hk (by cases o <;> first | trivial | cases ho), fun k cs t fr hk ht => h.same k _ hk (by rcases ht with h | h | h | h | h <;> (rw [h]; exact ⟨by decide, by decide, by decide⟩))⟩
theorem KeepR.from {base B : Nat} {A A' : World} (h : KeepR base A A') : KeepsFrom B A A' :=
  ⟨h.below.size, fun k o _ hk ho => h.same k o hk (by cases o <;> first | trivial | cases ho)⟩
theorem KeepR.boxed {base b : Nat} {A A' : World} {t : TypeId} {v : Value} (h : KeepR base A A') (hb : Boxed A b t v) (ht : t ≠ 60 ∧ t ≠ 52 ∧ t ≠ 50) : Boxed A' b t v := h.same b _ hb ht
theorem KeepR.text {base tb : Nat} {A A' : World} (h : KeepR base A A') (hb : TB tb A) : A'.heap[tb]? = A.heap[tb]? := by
  obtain ⟨cs, fr, hb⟩ := hb
  rw [hb]
  exact h.same tb _ hb ⟨by decide, by decide, by decide⟩

/-- A clause that was read: nil, or a row of its own, which is not block go. -/
def ClV (base : Nat) (W : World) (go : Option Nat) (v : Value) (xs : List Int) : Prop :=
  ∃ a cap, v = .slice a xs.length cap ∧ (xs = [] ∨ ∃ g cs fr, a = some ⟨g, 0, none⟩ ∧ base ≤ g ∧ go ≠ some g ∧ W.heap[g]? = some (.cells cs 50 fr) ∧ ∀ i, i < xs.length → cs[i]? = some (.int .i32 (xs.getD i 0)))

/-- The reader in block rb. -/
structure Rd (base rb vars clauses : Nat) (W : World) (st : Dim.St) (cv ov : Value) (vals : List Value) : Prop where
  blk : W.heap[rb]? = some (.cells #[.int .i64 vars, cv, .int .i64 clauses, .int .i64 st.lits, ov] 60 (0, 0))
  hb : base ≤ rb
  cl : W.ownsRow base 52 1 cv st.cls.length vals
  op : W.ownsRow base 50 1 ov st.opn.length (st.opn.map (Value.int .i32))
  ea : ∀ j, j < st.cls.length → ClV base W ov.ownBlock (vals.getD j undef) (st.cls.getD j [])
  bo : (∀ c ∈ st.cls, ∀ x ∈ c, -1048576 ≤ x ∧ x ≤ 1048576) ∧ (∀ x ∈ st.opn, -1048576 ≤ x ∧ x ≤ 1048576)
  li : st.lits ≤ 16777216 ∧ st.opn.length ≤ st.lits ∧ st.cls.length ≤ clauses ∧ clauses ≤ 1048576 ∧ vars ≤ 1048576 ∧ ∀ c ∈ st.cls, c.length ≤ 16777216

theorem info50 : (Tryd.prog.info? 50).map (fun i => (i.zero, i.size, i.bytes)) = some (some (.int .i32 0), 1, 4) := by kernel_rfl
theorem info52 : (Tryd.prog.info? 52).map (fun i => (i.zero, i.size, i.bytes)) = some (some (.slice none 0 0), 1, 24) := by kernel_rfl

theorem row_ne {W : World} {b base n : Nat} {cs : Array Value} {t e : TypeId} {fr : Nat × Nat} {v : Value} {xs : List Value} (h : W.heap[b]? = some (.cells cs t fr)) (hr : W.ownsRow base e 1 v n xs) (hne : t ≠ e) : some b ≠ v.ownBlock := by
  rcases hr.2 with ⟨rfl, _⟩ | ⟨g, cap, cur, rfl, _, hgb, _⟩
  · simp [Value.ownBlock]
  · intro e'
    obtain rfl : b = g := by simpa [Value.ownBlock] using e'
    rw [h] at hgb
    cases hgb
    exact hne rfl
theorem row_same {W W' : World} {base n : Nat} {e : TypeId} {v : Value} {xs : List Value} (h : W.ownsRow base e 1 v n xs) (hk : ∀ g cs, v.ownBlock = some g → W.heap[g]? = some (.cells cs e (0, 0)) → W'.heap[g]? = W.heap[g]?) : W'.ownsRow base e 1 v n xs := by
  refine ⟨h.1, ?_⟩
  rcases h.2 with h' | ⟨g, cap, cur, rfl, h1, h2, h3⟩
  · exact .inl h'
  · exact .inr ⟨g, cap, cur, rfl, h1, (hk g cur rfl h2).trans h2, h3⟩
theorem row_own {W : World} {base n g : Nat} {e : TypeId} {v : Value} {xs : List Value} (h : W.ownsRow base e 1 v n xs) (hg : v.ownBlock = some g) : ∃ cs, W.heap[g]? = some (.cells cs e (0, 0)) := by
  rcases h.2 with ⟨rfl, _⟩ | ⟨g', cap, cur, rfl, _, hgb, _⟩
  · simp [Value.ownBlock] at hg
  · simp [Value.ownBlock] at hg; subst hg; exact ⟨_, hgb⟩
theorem ClV.next {base : Nat} {W W' : World} {go go' : Option Nat} {v : Value} {xs : List Int} (h : ClV base W go v xs) (hk : ∀ g cs fr, W.heap[g]? = some (.cells cs 50 fr) → go ≠ some g → W'.heap[g]? = W.heap[g]? ∧ go' ≠ some g) : ClV base W' go' v xs := by
  obtain ⟨a, cap, e, h⟩ := h
  refine ⟨a, cap, e, ?_⟩
  rcases h with h | ⟨g, cs, fr, h1, h2, h3, h4, h5⟩
  · exact .inl h
  · exact .inr ⟨g, cs, fr, h1, h2, (hk g cs fr h4 h3).2, ((hk g cs fr h4 h3).1).trans h4, h5⟩

theorem Rd.below {base rb vars clauses : Nat} {W W' : World} {st : Dim.St} {cv ov : Value} {vals : List Value} (h : Rd base rb vars clauses W st cv ov vals) (hb : Below W.heap.size W W') : Rd base rb vars clauses W' st cv ov vals := by
  have k : ∀ {g : Nat} {o : Obj}, W.heap[g]? = some o → W'.heap[g]? = W.heap[g]? := fun hg => hb.block _ (Array.getElem?_eq_some_iff.1 hg).1
  exact ⟨(k h.blk).trans h.blk, h.hb, row_same h.cl (fun g cs _ hg => k hg), row_same h.op (fun g cs _ hg => k hg), fun j hj => (h.ea j hj).next (fun g cs fr hg hne => ⟨k hg, hne⟩), h.bo, h.li⟩

theorem Rd.lit {base rb vars clauses : Nat} {W w1 : World} {st : Dim.St} {cv ov : Value} {vals : List Value} {g cap : Nat} {l : Int} {o : Value} (hbs : base ≤ W.heap.size) (h : Rd base rb vars clauses W st cv ov vals)
    (hgrow : (W.alloc (.cells #[o] 50)).grownBy w1 ov.ownBlock) (hown : w1.ownsRow base 50 1 (.slice (some ⟨g, 0, none⟩) (st.opn.length + 1) cap) (st.opn.length + 1) (st.opn.map (Value.int .i32) ++ [.int .i32 l]))
    (hat : ov.ownBlock = some g ∨ g = W.heap.size + 1) (hl : -1048576 ≤ l ∧ l ≤ 1048576) (hlit : st.lits < 16777216) :
    w1.heap[rb]? = some (.cells #[.int .i64 vars, cv, .int .i64 clauses, .int .i64 st.lits, ov] 60 (0, 0)) ∧
    Rd base rb vars clauses ((w1.setCell ⟨rb, 4, none⟩ (.slice (some ⟨g, 0, none⟩) (st.opn.length + 1) cap)).setCell ⟨rb, 3, none⟩ (.int .i64 (st.lits + 1 : Nat))) ⟨st.cls, st.opn ++ [l], st.lits + 1⟩ cv (.slice (some ⟨g, 0, none⟩) (st.opn.length + 1) cap) vals ∧
    KeepR base W ((w1.setCell ⟨rb, 4, none⟩ (.slice (some ⟨g, 0, none⟩) (st.opn.length + 1) cap)).setCell ⟨rb, 3, none⟩ (.int .i64 (st.lits + 1 : Nat))) := by
  have hlt : rb < W.heap.size := (Array.getElem?_eq_some_iff.1 h.blk).1
  have hop1 : (W.alloc (.cells #[o] 50)).ownsRow base 50 1 ov st.opn.length (st.opn.map (Value.int .i32)) := h.op.alloc _
  have hblk1 : (W.alloc (.cells #[o] 50)).heap[rb]? = _ := (Below.heap_alloc W _ rb hlt).trans h.blk
  have hb1 : w1.heap[rb]? = some (.cells #[.int .i64 vars, cv, .int .i64 clauses, .int .i64 st.lits, ov] 60 (0, 0)) :=
    (hgrow.block rb (by simp; omega) (row_ne hblk1 hop1 (by decide))).trans hblk1
  have keep : ∀ {k : Nat} {cs : Array Value} {t : TypeId} {fr : Nat × Nat}, W.heap[k]? = some (.cells cs t fr) → t ≠ 60 → ov.ownBlock ≠ some k → ((w1.setCell ⟨rb, 4, none⟩ (.slice (some ⟨g, 0, none⟩) (st.opn.length + 1) cap)).setCell ⟨rb, 3, none⟩ (.int .i64 (st.lits + 1 : Nat))).heap[k]? = W.heap[k]? := by
    intro k cs t fr hk ht hne
    have hkl : k < W.heap.size := (Array.getElem?_eq_some_iff.1 hk).1
    have hkr : k ≠ rb := by
      rintro rfl
      rw [h.blk] at hk
      cases hk
      exact ht rfl
    refine (heap_other _ _ hkr).trans ((heap_other _ _ hkr).trans ((hgrow.block k (by simp; omega) (fun e => hne e.symm)).trans (Below.heap_alloc W _ k hkl)))
  refine ⟨hb1, ⟨?_, h.hb, ?_, ?_, ?_, ⟨h.bo.1, ?_⟩, ?_⟩, ?_⟩
  · exact heap_set_row (heap_set_row hb1 _) _
  · refine row_same h.cl (fun k cs hk hkk => keep hkk (by decide) ?_)
    intro e
    have := row_ne (v := ov) hkk h.op (by decide)
    exact this e.symm
  · have : (st.opn ++ [l]).length = st.opn.length + 1 := by simp
    rw [this, List.map_append]
    refine row_same hown (fun k cs hk hkk => ?_)
    have hkr : k ≠ rb := by
      rintro rfl
      rw [hb1] at hkk
      cases hkk
    exact (heap_other _ _ hkr).trans (heap_other _ _ hkr)
  · intro j hj
    refine (h.ea j hj).next (fun k cs fr hk hne => ⟨keep hk (by decide) hne, ?_⟩)
    show some g ≠ some k
    intro e
    cases e
    rcases hat with hat | hat
    · exact hne hat
    · have := (Array.getElem?_eq_some_iff.1 hk).1; omega
  · intro x hx
    rcases List.mem_append.1 hx with hx | hx
    · exact h.bo.2 x hx
    · rw [List.mem_singleton.1 hx]; exact hl
  · obtain ⟨l1, l2, l3, l4, l5, l6⟩ := h.li
    exact ⟨by show st.lits + 1 ≤ 16777216; omega, by simp; omega, l3, l4, l5, l6⟩
  · have k1 : KeepR base W (W.alloc (.cells #[o] 50)) := .of_below ((Below.refl _ W).alloc (Nat.le_refl _) _) hbs
    have k2 : KeepR base (W.alloc (.cells #[o] 50)) w1 := KeepR.grown hop1 (.inr rfl) hgrow (by simp; omega)
    exact k1.trans (k2.trans ((KeepR.set h.hb hb1 (.inl rfl) _).trans (KeepR.set h.hb (heap_set_row hb1 _) (.inl rfl) _)))

theorem Rd.push {base rb vars clauses : Nat} {W w1 w2 : World} {st : Dim.St} {cv v1 v2 : Value} {vals : List Value} {ao : Option Addr} {capo : Nat} (hbs : base ≤ W.heap.size) (h : Rd base rb vars clauses W st cv (.slice ao st.opn.length capo) vals)
    (hgrow1 : W.grownBy w1 none) (hown1 : w1.ownsRow W.heap.size 50 1 v1 st.opn.length (st.opn.map (Value.int .i32))) (hgrow2 : (w1.alloc (.cells #[v1] 52)).grownBy w2 cv.ownBlock)
    (hown2 : w2.ownsRow base 52 1 v2 (st.cls.length + 1) (vals ++ [v1])) (hcl : st.cls.length < clauses) :
    w2.heap[rb]? = some (.cells #[.int .i64 vars, cv, .int .i64 clauses, .int .i64 st.lits, .slice ao st.opn.length capo] 60 (0, 0)) ∧
    Rd base rb vars clauses ((w2.setCell ⟨rb, 1, none⟩ v2).setCell ⟨rb, 4, none⟩ (.slice ao 0 capo)) ⟨st.cls ++ [st.opn], [], st.lits⟩ v2 (.slice ao 0 capo) (vals ++ [v1]) ∧
    KeepR base W ((w2.setCell ⟨rb, 1, none⟩ v2).setCell ⟨rb, 4, none⟩ (.slice ao 0 capo)) := by
  have hlt : rb < W.heap.size := (Array.getElem?_eq_some_iff.1 h.blk).1
  have hs1 := hgrow1.size
  have k1 : ∀ {k : Nat}, k < W.heap.size → (w1.alloc (.cells #[v1] 52)).heap[k]? = W.heap[k]? := fun hk => (Below.heap_alloc w1 _ _ (by omega)).trans (hgrow1.block _ hk (by simp))
  have hcv1 : (w1.alloc (.cells #[v1] 52)).ownsRow base 52 1 cv st.cls.length vals := row_same h.cl (fun g cs _ hg => k1 (Array.getElem?_eq_some_iff.1 hg).1)
  have hblk1 := (k1 hlt).trans h.blk
  have hb2 : w2.heap[rb]? = some (.cells #[.int .i64 vars, cv, .int .i64 clauses, .int .i64 st.lits, .slice ao st.opn.length capo] 60 (0, 0)) :=
    (hgrow2.block rb (by simp; omega) (row_ne hblk1 hcv1 (by decide))).trans hblk1
  have keep2 : ∀ {k : Nat} {cs : Array Value} {t : TypeId} {fr : Nat × Nat}, (w1.alloc (.cells #[v1] 52)).heap[k]? = some (.cells cs t fr) → t ≠ 60 → t ≠ 52 → ((w2.setCell ⟨rb, 1, none⟩ v2).setCell ⟨rb, 4, none⟩ (.slice ao 0 capo)).heap[k]? = (w1.alloc (.cells #[v1] 52)).heap[k]? := by
    intro k cs t fr hk ht ht2
    have hkr : k ≠ rb := by
      rintro rfl
      rw [hblk1] at hk
      cases hk
      exact ht rfl
    exact (heap_other _ _ hkr).trans ((heap_other _ _ hkr).trans (hgrow2.block k (Array.getElem?_eq_some_iff.1 hk).1 (row_ne hk hcv1 ht2)))
  have keep : ∀ {k : Nat} {cs : Array Value} {fr : Nat × Nat}, W.heap[k]? = some (.cells cs 50 fr) → ((w2.setCell ⟨rb, 1, none⟩ v2).setCell ⟨rb, 4, none⟩ (.slice ao 0 capo)).heap[k]? = W.heap[k]? := by
    intro k cs fr hk
    have := k1 (Array.getElem?_eq_some_iff.1 hk).1
    exact (keep2 (this.trans hk) (by decide) (by decide)).trans this
  have hvl : vals.length = st.cls.length := by have := h.cl.1; omega
  refine ⟨hb2, ⟨heap_set_row (heap_set_row hb2 _) _, h.hb, ?_, ?_, ?_, ⟨?_, fun x hx => by cases hx⟩, ?_⟩, ?_⟩
  · have : (st.cls ++ [st.opn]).length = st.cls.length + 1 := by simp
    rw [this]
    refine row_same hown2 (fun k cs hk hkk => ?_)
    have hkr : k ≠ rb := by
      rintro rfl
      rw [hb2] at hkk
      cases hkk
    exact (heap_other _ _ hkr).trans (heap_other _ _ hkr)
  · refine ⟨rfl, ?_⟩
    rcases h.op.2 with ⟨e, _⟩ | ⟨g, cap, cur, e, h1, h2, h3, h4, h5, h6⟩
    · injection e with e1 e2 e3
      subst e1 e3
      exact .inl ⟨rfl, rfl⟩
    · injection e with e1 e2 e3
      subst e1 e3
      exact .inr ⟨g, capo, cur, rfl, h1, (keep h2).trans h2, Nat.zero_le _, h4, h5, by simp⟩
  · intro j hj
    rcases Nat.lt_or_ge j st.cls.length with hj' | hj'
    · have e1 : (vals ++ [v1]).getD j undef = vals.getD j undef := by simp [List.getD, List.getElem?_append_left (show j < vals.length by omega)]
      have e2 : (st.cls ++ [st.opn]).getD j [] = st.cls.getD j [] := by simp [List.getD, List.getElem?_append_left hj']
      rw [e1, e2]
      refine (h.ea j hj').next (fun k cs fr hk hne => ⟨keep hk, ?_⟩)
      cases ao <;> exact hne
    · have hje : j = st.cls.length := by
        have : j < st.cls.length + 1 := by simpa using hj
        omega
      subst hje
      have e1 : (vals ++ [v1]).getD st.cls.length undef = v1 := by rw [← hvl]; simp [List.getD]
      have e2 : (st.cls ++ [st.opn]).getD st.cls.length [] = st.opn := by simp [List.getD]
      rw [e1, e2]
      rcases hown1.2 with ⟨e, h0⟩ | ⟨g, cap, cur, e, h1, h2, h3, h4, h5, h6⟩
      · exact ⟨none, 0, by rw [e, h0], .inl (List.eq_nil_of_length_eq_zero h0)⟩
      · have hgl : g < w1.heap.size := (Array.getElem?_eq_some_iff.1 h2).1
        have hg1 : (w1.alloc (.cells #[v1] 52)).heap[g]? = some (.cells cur 50 (0, 0)) := (Below.heap_alloc w1 _ g hgl).trans h2
        refine ⟨some ⟨g, 0, none⟩, cap, e, .inr ⟨g, cur, (0, 0), rfl, by omega, ?_, (keep2 hg1 (by decide) (by decide)).trans hg1, fun i hi => ?_⟩⟩
        · intro eo
          cases ao with
          | none => cases eo
          | some a =>
            have := row_own h.op (g := g) eo
            obtain ⟨cs, hcs⟩ := this
            have := (Array.getElem?_eq_some_iff.1 hcs).1
            omega
        · have := congrArg (fun l : List Value => l[i]?) h6
          simp only [Nat.mul_one, List.getElem?_take, hi, if_true, List.getElem?_map] at this
          rw [← Array.getElem?_toList, this]
          simp [List.getD, List.getElem?_eq_getElem hi]
  · intro c hc
    rcases List.mem_append.1 hc with hc | hc
    · exact h.bo.1 c hc
    · rw [List.mem_singleton.1 hc]; exact h.bo.2
  · obtain ⟨l1, l2, l3, l4, l5, l6⟩ := h.li
    refine ⟨l1, Nat.zero_le _, by simp; omega, l4, l5, fun c hc => ?_⟩
    rcases List.mem_append.1 hc with hc | hc
    · exact l6 c hc
    · rw [List.mem_singleton.1 hc]; omega
  · have a1 : KeepR base W w1 := ⟨(Below.refl _ W).grown hgrow1 hbs (by simp), fun k o hk _ => (hgrow1.block k (Array.getElem?_eq_some_iff.1 hk).1 (by simp)).trans hk⟩
    have a2 : KeepR base w1 (w1.alloc (.cells #[v1] 52)) := .of_below ((Below.refl _ w1).alloc (Nat.le_refl _) _) (by omega)
    have a3 : KeepR base (w1.alloc (.cells #[v1] 52)) w2 := KeepR.grown hcv1 (.inl rfl) hgrow2 (by simp; omega)
    exact a1.trans (a2.trans (a3.trans ((KeepR.set h.hb hb2 (.inl rfl) _).trans (KeepR.set h.hb (heap_set_row hb2 _) (.inl rfl) _))))

set_option maxRecDepth 100000 in
set_option maxHeartbeats 4000000 in
theorem take26 (base rb tb vars clauses : Nat) (p : Option Addr) (n c : Nat) (xs : List Int) (W : World) (st : Dim.St) (cv ov : Value) (vals : List Value) (hbs : base ≤ W.heap.size) (hrd : Rd base rb vars clauses W st cv ov vals) (htb : TB tb W) (hn : xs.length = n) (hx : Txt tb W p c xs) :
    Calls Tryd.prog 26 #[.pointer (some ⟨rb, 0, none⟩), .slice p n c] W fun e W' => ∃ en : Nat, e = .returned (.int .i64 en) ∧ KeepR base W W' ∧ (∀ k, Dim.take vars clauses st xs = .error k → en = k ∧ k ≠ 0) ∧ (∀ st', Dim.take vars clauses st xs = .ok st' → en = 0 ∧ ∃ cv' ov' vals', Rd base rb vars clauses W' st' cv' ov' vals') := by
  have C41 := hid (signed41 tb p n c xs W hn hx)
  have hlt : rb < W.heap.size := (Array.getElem?_eq_some_iff.1 hrd.blk).1
  have hK1 : KeepR base W (W.alloc (.cells #[.int .u8 45] 5)) := .of_below ((Below.refl _ W).alloc (Nat.le_refl _) _) hbs
  have HRD := hid hrd
  have hblk1 : (W.alloc (.cells #[.int .u8 45] 5)).heap[rb]? = _ := (Below.heap_alloc W _ rb hlt).trans hrd.blk
  have HK1 := hid hK1
  have HSV := hid (Dim.sgV_le xs)
  cases hB : Dim.sgB xs
  · have hs : Dim.take vars clauses st xs = .error 21 := by unfold Dim.take; rw [Dim.signed_no hB]
    rw [hs]
    clear hx hrd hK1 hblk1 htb hn
    go_enter Tryd.func26, Tryd.ntmps26
    go_wp2_with (go_at_call 41; refine C41.out.mono ?_; rintro e w' ⟨rfl, rfl⟩; rw [hB])
    go_ret
    exact ⟨21, rfl, HK1.out, fun k h => by cases h; exact ⟨rfl, by decide⟩, fun st' h => by cases h⟩
  · obtain ⟨m, hs1, hs2⟩ := Dim.signed_yes hB
    have hsl : ∀ (e : TypeId) (v : Value) (q : Nat) (ys : List Value), W.ownsRow base e 1 v q ys → ∃ a cap, v = .slice a q cap := fun e v q ys h => by
      rcases h.2 with ⟨rfl, rfl⟩ | ⟨g, cap, cur, rfl, _⟩
      · exact ⟨_, _, rfl⟩
      · exact ⟨_, _, rfl⟩
    obtain ⟨ac, capc, rfl⟩ := hsl _ _ _ _ hrd.cl
    obtain ⟨ao, capo, rfl⟩ := hsl _ _ _ _ hrd.op
    obtain ⟨li1, li2, li3, li4, li5, li6⟩ := hrd.li
    have c0 := row_cell hblk1 0
    have c1 := row_cell hblk1 1
    have c2 := row_cell hblk1 2
    have c3 := row_cell hblk1 3
    have c4 := row_cell hblk1 4
    simp only [List.getElem?_toArray, List.getElem?_cons_zero, List.getElem?_cons_succ] at c0 c1 c2 c3 c4
    have f1 := row_frozen hblk1 1
    have f3 := row_frozen hblk1 3
    have f4 := row_frozen hblk1 4
    have HBLK := hid hblk1
    have hsv := HSV.out
    generalize Dim.sgV xs = sv at hs2 hsv C41
    generalize Dim.sgM xs = sm at hs1 C41
    have HS2 := hid hs2
    have HS1 := hid hs1
    clear hx hrd hK1 hblk1 htb hn hs1 hs2 HSV
    obtain ⟨cl, hcl⟩ : ∃ cl, st.cls.length = cl := ⟨_, rfl⟩
    have HCL := hid hcl
    rw [hcl] at c1 li3
    clear hcl
    by_cases h1 : cl = clauses
    · subst h1
      have hs : Dim.take vars cl st xs = .error 24 := by unfold Dim.take; rw [HS1.out]; simp only [HCL.out, if_true]
      rw [hs]
      go_enter Tryd.func26, Tryd.ntmps26
      go_wp2_with (go_at_call 41; refine C41.out.mono ?_; rintro e w' ⟨rfl, rfl⟩; rw [hB])
      go_quiet (fail)
      go_wp2
      go_ret
      exact ⟨24, rfl, HK1.out.trans (.of_below (below_drewN _ _ _) (Nat.le_trans hbs (by simp))), fun k h => by cases h; exact ⟨rfl, by decide⟩, fun st' h => by cases h⟩
    · have h1' : ¬ (cl : Int) = clauses := by omega
      by_cases h2 : m = 0
      · subst h2
        have hs : Dim.take vars clauses st xs = .ok ⟨st.cls ++ [st.opn], [], st.lits⟩ := by
          unfold Dim.take
          rw [HS1.out]
          simp only [HCL.out, if_neg h1, if_true]
        rw [hs]
        have hsv2 : sv = 0 := by have := HS2.out; simp [Dim.sat] at this; omega
        subst hsv2
        obtain ⟨i0, hi, hz0, hz1, hz2⟩ := info_parts info50
        obtain ⟨i1, hj, hy0, hy1, hy2⟩ := info_parts info52
        have hR2 : ∀ q, Rd base rb vars clauses ((W.alloc (.cells #[.int .u8 45] 5)).drewN q) st (.slice ac st.cls.length capc) (.slice ao st.opn.length capo) vals := fun q => HRD.out.below (((Below.refl _ W).alloc (Nat.le_refl _) _).trans (below_drewN _ _ _))
        have hK2 : ∀ q, KeepR base W ((W.alloc (.cells #[.int .u8 45] 5)).drewN q) := fun q => .of_below (((Below.refl _ W).alloc (Nat.le_refl _) _).trans (below_drewN _ _ _)) hbs
        have HR2 := hid hR2
        have HK2 := hid hK2
        have LI := hid (And.intro li1 (And.intro li2 (And.intro li3 (And.intro li4 li5))))
        clear hR2 hK2 li1 li2 li6
        generalize hol : st.opn.length = ol at c4 LI HR2
        have HOL := hid hol
        clear hol
        go_enter Tryd.func26, Tryd.ntmps26
        go_wp2_with (go_at_call 41; refine C41.out.mono ?_; rintro e w' ⟨rfl, rfl⟩; rw [hB])
        go_quiet (fail)
        have R2 := hid (HR2.out nq)
        have K2 := hid (HK2.out nq)
        clear c0 c1 c2 c3 c4 f1 f3 f4 HBLK HR2 HK2 C41 HRD HK1
        generalize (W.alloc (.cells #[.int .u8 45] 5)).drewN nq = W2 at R2 K2 ⊢
        have c1 := row_cell R2.out.blk 1
        have c4 := row_cell R2.out.blk 4
        simp only [List.getElem?_toArray, List.getElem?_cons_zero, List.getElem?_cons_succ] at c1 c4
        have f1 := row_frozen R2.out.blk 1
        have f4 := row_frozen R2.out.blk 4
        rw [HCL.out] at c1
        have hr2 : rb < W2.heap.size := Nat.lt_of_lt_of_le hlt K2.out.below.size
        have hbs2 : base ≤ W2.heap.size := Nat.le_trans hbs K2.out.below.size
        have hol : ol ≤ 16777216 := by have := LI.out; omega
        go_wp2
        have HCV := hid (fun (w1 : World) (hg : W2.drew.grownBy w1 none) (o : Obj) => (row_same R2.out.cl (fun g cs _ hh => (Below.heap_alloc w1 o g (Nat.lt_of_lt_of_le (Array.getElem?_eq_some_iff.1 hh).1 hg.size)).trans (hg.block g (Array.getElem?_eq_some_iff.1 hh).1 (by simp))) : (w1.alloc o).ownsRow base 52 1 (.slice ac st.cls.length capc) st.cls.length vals))
        rw [HCL.out] at HCV
        have HNW := hid (fun (w1 : World) (u : Value) => (by simp [World.cell?_alloc_new] : (w1.alloc (.cells #[u] 52)).cell? ⟨w1.heap.size, 0, none⟩ = some u))
        have h24 : (cl + 1) * 24 ≤ 140737488355328 := by omega
        have hml : cl + 1 ≤ maxLen := by simp [maxLen]; omega
        have HN2 := hid (fun (w1 : World) (u : Value) (j : Nat) (u' : Value) (hu : [u][j]? = some u') => (by
          obtain rfl : j = 0 := by
            cases j with
            | zero => rfl
            | succ j => simp at hu
          simp at hu
          subst hu
          exact HNW.out w1 u : (w1.alloc (.cells #[u] 52)).cell? ((⟨w1.heap.size, 0, none⟩ : Addr).add j) = some u'))
        rcases Nat.eq_zero_or_pos ol with hol0 | hol0
        · subst hol0
          have hg0 : W2.drew.grownBy W2.drew none := ⟨rfl, rfl, rfl, Nat.le_refl _, fun _ _ _ => rfl⟩
          have hao : (ao = none ∧ capo = 0) ∨ ∃ go, ao = some ⟨go, 0, none⟩ := by
            rcases R2.out.op.2 with ⟨e, _⟩ | ⟨g', cap', cur, e, _⟩
            · injection e with e1 e2 e3; exact .inl ⟨e1, e3⟩
            · injection e with e1 e2 e3; exact .inr ⟨g', e1⟩
          have PUSH := hid (show ∀ (g2 cap2 : Nat) (w2 : World), (W2.drew.alloc (.cells #[.slice none 0 0] 52)).grownBy w2 (Value.slice ac cl capc).ownBlock → w2.ownsRow base 52 1 (.slice (some ⟨g2, 0, none⟩) (cl + 1) cap2) (cl + 1) (vals ++ [.slice none 0 0]) →
            w2.heap[rb]? = some (.cells #[.int .i64 vars, .slice ac cl capc, .int .i64 clauses, .int .i64 st.lits, .slice ao 0 capo] 60 (0, 0)) ∧
            Rd base rb vars clauses ((w2.setCell ⟨rb, 1, none⟩ (.slice (some ⟨g2, 0, none⟩) (cl + 1) cap2)).setCell ⟨rb, 4, none⟩ (.slice ao 0 capo)) ⟨st.cls ++ [st.opn], [], st.lits⟩ (.slice (some ⟨g2, 0, none⟩) (cl + 1) cap2) (.slice ao 0 capo) (vals ++ [.slice none 0 0]) ∧
            KeepR base W2 ((w2.setCell ⟨rb, 1, none⟩ (.slice (some ⟨g2, 0, none⟩) (cl + 1) cap2)).setCell ⟨rb, 4, none⟩ (.slice ao 0 capo)) from by
            intro g2 cap2 w2 a3 a4
            have R3 : Rd base rb vars clauses W2 st (.slice ac st.cls.length capc) (.slice ao st.opn.length capo) vals := by rw [HOL.out]; exact R2.out
            have hopn : st.opn = [] := List.eq_nil_of_length_eq_zero HOL.out
            rw [← HCL.out] at a3 a4
            have := Rd.push (v1 := .slice none 0 0) hbs2 R3 (w1 := W2.drew) ⟨rfl, rfl, rfl, Nat.le_refl _, fun _ _ _ => rfl⟩ (by rw [hopn]; exact World.ownsRow_nil _ _ _ _) a3 a4 (by rw [HCL.out]; omega)
            rw [HOL.out, HCL.out] at this
            exact this)
          rcases hao with ⟨rfl, rfl⟩ | ⟨go, rfl⟩
          all_goals
            go_region_law (
              (refine step_append_lies _ (by rfl) _ _ 23 (by rfl) base 52 i1 (.slice none 0 0) 1 24 Tryd.underlying23 hj hy0 hy1 hy2 (by rfl) (by decide) (.slice ac cl capc) cl vals (by rfl) (HCV.out W2.drew hg0 _) ⟨W2.heap.size, 0, none⟩ 1 1 [.slice none 0 0] (by rfl) (by rfl) (HN2.out W2.drew _) (by intro u hu; simp at hu; subst hu; rfl) (by decide) hml h24 (by simp; omega) (W2.heap.size + 1) (by simp) ?_
               intro g2 cap2 w2 hown2 hgrow2 hat2 hlt2
               have FIN := hid (PUSH.out g2 cap2 w2 hgrow2 hown2)
               have e1 := row_cell FIN.out.1 1
               have e4 := row_cell FIN.out.1 4
               simp only [List.getElem?_toArray, List.getElem?_cons_zero, List.getElem?_cons_succ] at e1 e4
               have g1 := row_frozen FIN.out.1 1
               have g4 := row_frozen FIN.out.1 4))
            all_goals
              go_wp2
              go_ret
              first | exact ⟨0, rfl, K2.out.trans FIN.out.2.2, rfl, _, _, _, FIN.out.2.1⟩ | exact ⟨0, rfl, K2.out.trans FIN.out.2.2, fun k h => (by cases h), fun st' h => (by cases h; exact ⟨rfl, _, _, _, FIN.out.2.1⟩)⟩
        · obtain ⟨go, capo', eo, _, hgo⟩ : ∃ go cap, (Value.slice ao ol capo) = .slice (some ⟨go, 0, none⟩) ol cap ∧ base ≤ go ∧ go < W2.heap.size := by
            have := R2.out.op
            rw [HOL.out] at this
            exact this.form hol0
          injection eo with eo1 _ eo3
          subst eo1 eo3
          have HN1 := hid (show ∀ (j : Nat) (u : Value), (st.opn.map (Value.int .i32))[j]? = some u → W2.drew.cell? ((⟨go, 0, none⟩ : Addr).add j) = some u from by
            have hop := R2.out.op
            rcases hop.2 with ⟨e, _⟩ | ⟨g', cap', cur, e, q1, q2, q3, q4, q5, q6⟩
            · injection e with e1; cases e1
            · injection e with e1 e2 e3
              cases e1
              intro j u hu
              have : (⟨go, 0, none⟩ : Addr).add j = ⟨go, j, none⟩ := by rw [Go.WideShapes.add_plain]; simp
              rw [this]
              show W2.cell? ⟨go, j, none⟩ = some u
              rw [row_cell q2 j, ← Array.getElem?_toList]
              rw [← q6] at hu
              have hj : j < st.opn.length := by
                have h1 := (List.getElem?_eq_some_iff.1 hu).1
                rw [List.length_take] at h1
                omega
              rw [List.getElem?_take_of_lt (by omega)] at hu
              exact hu)
          have hlen : (st.opn.map (Value.int .i32)).length = ol * 1 := by simp [HOL.out]
          have hone : ∀ u ∈ st.opn.map (Value.int .i32), u.oneCell' = true := by
            intro u hu
            obtain ⟨x, _, rfl⟩ := List.mem_map.1 hu
            rfl
          have PUSH := hid (show ∀ (g cap : Nat) (w1 : World) (g2 cap2 : Nat) (w2 : World), W2.drew.grownBy w1 none → w1.ownsRow W2.heap.size 50 1 (.slice (some ⟨g, 0, none⟩) (0 + ol) cap) (0 + ol) ([] ++ st.opn.map (Value.int .i32)) → (w1.alloc (.cells #[.slice (some ⟨g, 0, none⟩) ol cap] 52)).grownBy w2 (Value.slice ac cl capc).ownBlock → w2.ownsRow base 52 1 (.slice (some ⟨g2, 0, none⟩) (cl + 1) cap2) (cl + 1) (vals ++ [.slice (some ⟨g, 0, none⟩) ol cap]) →
            w2.heap[rb]? = some (.cells #[.int .i64 vars, .slice ac cl capc, .int .i64 clauses, .int .i64 st.lits, .slice (some ⟨go, 0, none⟩) ol capo] 60 (0, 0)) ∧
            Rd base rb vars clauses ((w2.setCell ⟨rb, 1, none⟩ (.slice (some ⟨g2, 0, none⟩) (cl + 1) cap2)).setCell ⟨rb, 4, none⟩ (.slice (some ⟨go, 0, none⟩) 0 capo)) ⟨st.cls ++ [st.opn], [], st.lits⟩ (.slice (some ⟨g2, 0, none⟩) (cl + 1) cap2) (.slice (some ⟨go, 0, none⟩) 0 capo) (vals ++ [.slice (some ⟨g, 0, none⟩) ol cap]) ∧
            KeepR base W2 ((w2.setCell ⟨rb, 1, none⟩ (.slice (some ⟨g2, 0, none⟩) (cl + 1) cap2)).setCell ⟨rb, 4, none⟩ (.slice (some ⟨go, 0, none⟩) 0 capo)) from by
            intro g cap w1 g2 cap2 w2 a1 a2 a3 a4
            have R3 : Rd base rb vars clauses W2 st (.slice ac st.cls.length capc) (.slice (some ⟨go, 0, none⟩) st.opn.length capo) vals := by rw [HOL.out]; exact R2.out
            rw [Nat.zero_add, List.nil_append] at a2
            rw [← HOL.out] at a2
            rw [← HCL.out] at a3 a4
            have := Rd.push hbs2 R3 ⟨a1.os, a1.tape, a1.output, a1.size, a1.block⟩ a2 (by rw [HOL.out]; exact a3) (by rw [HOL.out]; exact a4) (by rw [HCL.out]; omega)
            rw [HOL.out, HCL.out] at this
            exact this)
          go_region_law (first
            | (refine step_append_lies _ (by rfl) _ _ 52 (by rfl) W2.heap.size 50 i0 (.int .i32 0) 1 4 Tryd.underlying52 hi hz0 hz1 hz2 (by rfl) (by decide) (.slice none 0 0) 0 [] (by rfl) (World.ownsRow_nil _ _ _ _) ⟨go, 0, none⟩ ol capo (st.opn.map (Value.int .i32)) (by rfl) hlen HN1.out hone hol0 (by simp [maxLen]; omega) (by omega) (Nat.le_refl _) W2.heap.size rfl ?_
               intro g cap w1 hown1 hgrow1 hat1 hlt1
               have x1 : w1.cell? ⟨rb, 1, none⟩ = some (.slice ac cl capc) := (hgrow1.cell_far ⟨rb, 1, none⟩ hr2 (by simp [Value.ownBlock])).trans c1
               have x2 : ∀ u, (w1.alloc (.cells #[u] 52)).cell? ⟨rb, 1, none⟩ = some (.slice ac cl capc) := fun u => (Book.alloc none 0 w1 _).cell x1 (by simp))
            | (refine step_append_lies _ (by rfl) _ _ 23 (by rfl) base 52 i1 (.slice none 0 0) 1 24 Tryd.underlying23 hj hy0 hy1 hy2 (by rfl) (by decide) (.slice ac cl capc) cl vals (by rfl) (HCV.out w1 hgrow1 _) ⟨w1.heap.size, 0, none⟩ 1 1 [.slice (some ⟨g, 0, none⟩) ol cap] (by rfl) (by rfl) (HN2.out w1 _) (by intro u hu; simp at hu; subst hu; rfl) (by decide) hml h24 (by have h9 : W2.heap.size ≤ w1.heap.size := hgrow1.size; simp; omega) (w1.heap.size + 1) (by simp) ?_
               intro g2 cap2 w2 hown2 hgrow2 hat2 hlt2
               have FIN := hid (PUSH.out g cap w1 g2 cap2 w2 hgrow1 hown1 hgrow2 hown2)
               have e1 := row_cell FIN.out.1 1
               have e4 := row_cell FIN.out.1 4
               simp only [List.getElem?_toArray, List.getElem?_cons_zero, List.getElem?_cons_succ] at e1 e4
               have g1 := row_frozen FIN.out.1 1
               have g4 := row_frozen FIN.out.1 4))
          all_goals
            go_wp2
            go_ret
            first | exact ⟨0, rfl, K2.out.trans FIN.out.2.2, rfl, _, _, _, FIN.out.2.1⟩ | exact ⟨0, rfl, K2.out.trans FIN.out.2.2, fun k h => (by cases h), fun st' h => (by cases h; exact ⟨rfl, _, _, _, FIN.out.2.1⟩)⟩
      · have hsz : sv ≠ 0 := by have := HS2.out; have := (Dim.sat_zero m); omega
        have hsz' : ¬ sv = 0 := hsz
        by_cases h3 : vars < m ∨ st.lits = 16777216
        · have hs : Dim.take vars clauses st xs = .error 22 := by
            unfold Dim.take
            rw [HS1.out]
            simp only [HCL.out, if_neg h1, if_neg h2, if_pos h3]
          rw [hs]
          have h3' : (vars : Int) < sv ∨ ((st.lits : Int) = 16777216) := by
            rcases h3 with h | h
            · left; have := (Dim.sat_gt m vars li5).2 h; have := HS2.out; omega
            · right; omega
          have h3'' : ((vars : Int) < sv) ∨ (¬ (vars : Int) < sv ∧ ((st.lits : Int) = 16777216)) := by
            by_cases hh : (vars : Int) < sv
            · exact .inl hh
            · exact .inr ⟨hh, by omega⟩
          clear h3 h3'
          generalize st.lits = lits at c3 h3'' li1 li2
          rcases h3'' with h3 | ⟨h3, h4⟩
          · go_enter Tryd.func26, Tryd.ntmps26
            go_wp2_with (go_at_call 41; refine C41.out.mono ?_; rintro e w' ⟨rfl, rfl⟩; rw [hB])
            go_quiet (fail)
            go_wp2
            go_ret
            exact ⟨22, rfl, HK1.out.trans (.of_below (below_drewN _ _ _) (Nat.le_trans hbs (by simp))), fun k h => by cases h; exact ⟨rfl, by decide⟩, fun st' h => by cases h⟩
          · rw [h4] at c3
            go_enter Tryd.func26, Tryd.ntmps26
            go_wp2_with (go_at_call 41; refine C41.out.mono ?_; rintro e w' ⟨rfl, rfl⟩; rw [hB])
            go_quiet (fail)
            go_wp2
            go_ret
            exact ⟨22, rfl, HK1.out.trans (.of_below (below_drewN _ _ _) (Nat.le_trans hbs (by simp))), fun k h => by cases h; exact ⟨rfl, by decide⟩, fun st' h => by cases h⟩
        · have hs : Dim.take vars clauses st xs = .ok ⟨st.cls, st.opn ++ [if sm then -(m : Int) else m], st.lits + 1⟩ := by
            unfold Dim.take
            rw [HS1.out]
            simp only [HCL.out, if_neg h1, if_neg h2, if_neg h3]
          rw [hs]
          have hsv2 : sv = m := by have := HS2.out; have := Dim.sat_of_le m (by omega); omega
          subst hsv2
          have h4 : ¬ (vars : Int) < m := by omega
          have h5 : ((st.lits : Int) == 16777216) = false := by rw [beq_eq_false_iff_ne]; omega
          have hll : (st.lits : Int) ≤ 33554432 := by omega
          have LI := hid (And.intro li1 (And.intro li2 (And.intro li3 (And.intro li4 (And.intro li5 (And.intro li6 h3))))))
          clear li1 li2 li6 h3
          obtain ⟨i0, hi, hz0, hz1, hz2⟩ := info_parts info50
          have hR2 : ∀ q, Rd base rb vars clauses ((W.alloc (.cells #[.int .u8 45] 5)).drewN q) st (.slice ac st.cls.length capc) (.slice ao st.opn.length capo) vals := fun q => HRD.out.below (((Below.refl _ W).alloc (Nat.le_refl _) _).trans (below_drewN _ _ _))
          have hK2 : ∀ q, KeepR base W ((W.alloc (.cells #[.int .u8 45] 5)).drewN q) := fun q => .of_below (((Below.refl _ W).alloc (Nat.le_refl _) _).trans (below_drewN _ _ _)) hbs
          have HR2 := hid hR2
          have HK2 := hid hK2
          clear hR2 hK2
          cases sm
          case false =>
            generalize hlt2 : st.lits = lits at c3 h4 h5 hll LI
            have HLT := hid hlt2
            clear hlt2
            generalize hol : st.opn.length = ol at c4 LI HR2
            have HOL := hid hol
            clear hol
            go_enter Tryd.func26, Tryd.ntmps26
            go_wp2_with (go_at_call 41; refine C41.out.mono ?_; rintro e w' ⟨rfl, rfl⟩; rw [hB])
            go_quiet (fail)
            have R2 := hid (HR2.out nq)
            have K2 := hid (HK2.out nq)
            clear c0 c1 c2 c3 c4 f1 f3 f4 HBLK HR2 HK2 C41 HRD HK1
            generalize (W.alloc (.cells #[.int .u8 45] 5)).drewN nq = W2 at R2 K2 ⊢
            have c0 := row_cell R2.out.blk 0
            have c3 := row_cell R2.out.blk 3
            have c4 := row_cell R2.out.blk 4
            simp only [List.getElem?_toArray, List.getElem?_cons_zero, List.getElem?_cons_succ] at c0 c3 c4
            have f3 := row_frozen R2.out.blk 3
            have f4 := row_frozen R2.out.blk 4
            rw [HLT.out] at c3
            have hr2 : rb < W2.heap.size := Nat.lt_of_lt_of_le hlt K2.out.below.size
            have RO := hid R2.out.op
            rw [HOL.out] at RO
            have hbs2 : base ≤ W2.heap.size := Nat.le_trans hbs K2.out.below.size
            have hol : ol ≤ 16777216 := by have := LI.out; omega
            have HNW := hid (fun u : Value => (by simp [World.cell?_alloc_new] : (W2.alloc (.cells #[u] 50)).cell? ⟨W2.heap.size, 0, none⟩ = some u))
            go_wp2_with (at_builtin; refine wpList_append_lies _ rfl _ _ 52 rfl base 50 i0 (.int .i32 0) 1 4 Tryd.underlying52 hi hz0 hz1 hz2 rfl (by decide) _ ol (st.opn.map (Value.int .i32)) rfl (RO.out.alloc _) ⟨W2.heap.size, 0, none⟩ 1 1 [.int .i32 ((m : Int))] rfl rfl ?c1 ?c2 (by decide) ?c3 ?c4 ?c5 (W2.heap.size + 1) ?c6 ?_)
            case c1 =>
              intro j u hu
              obtain rfl : j = 0 := by
                cases j with
                | zero => rfl
                | succ j => simp at hu
              have := HNW.out (.int .i32 ((m : Int)))
              simp at hu
              subst hu
              exact this
            case c2 => intro u hu; simp at hu; subst hu; rfl
            case c3 => simp [maxLen]; omega
            case c4 => omega
            case c5 => simp; omega
            case c6 => simp
            intro g cap w1 hown1 hgrow hat hlt1
            rw [← HOL.out] at hown1
            have FIN := hid (Rd.lit hbs2 R2.out hgrow hown1 hat (by constructor <;> omega) (by have := LI.out; have := HLT.out; omega))
            rw [HOL.out] at FIN
            rw [HLT.out] at FIN
            have e3 := row_cell FIN.out.1 3
            have e4 := row_cell FIN.out.1 4
            simp only [List.getElem?_toArray, List.getElem?_cons_zero, List.getElem?_cons_succ] at e3 e4
            have g3 := row_frozen FIN.out.1 3
            have g4 := row_frozen FIN.out.1 4
            clear hown1 hgrow hat hlt1 c0 c3 c4 f3 f4
            go_wp2
            go_ret
            exact ⟨0, rfl, K2.out.trans FIN.out.2.2, rfl, _, _, _, FIN.out.2.1⟩
          case true =>
            generalize hlt2 : st.lits = lits at c3 h4 h5 hll LI
            have HLT := hid hlt2
            clear hlt2
            generalize hol : st.opn.length = ol at c4 LI HR2
            have HOL := hid hol
            clear hol
            go_enter Tryd.func26, Tryd.ntmps26
            go_wp2_with (go_at_call 41; refine C41.out.mono ?_; rintro e w' ⟨rfl, rfl⟩; rw [hB])
            go_quiet (fail)
            have R2 := hid (HR2.out nq)
            have K2 := hid (HK2.out nq)
            clear c0 c1 c2 c3 c4 f1 f3 f4 HBLK HR2 HK2 C41 HRD HK1
            generalize (W.alloc (.cells #[.int .u8 45] 5)).drewN nq = W2 at R2 K2 ⊢
            have c0 := row_cell R2.out.blk 0
            have c3 := row_cell R2.out.blk 3
            have c4 := row_cell R2.out.blk 4
            simp only [List.getElem?_toArray, List.getElem?_cons_zero, List.getElem?_cons_succ] at c0 c3 c4
            have f3 := row_frozen R2.out.blk 3
            have f4 := row_frozen R2.out.blk 4
            rw [HLT.out] at c3
            have hr2 : rb < W2.heap.size := Nat.lt_of_lt_of_le hlt K2.out.below.size
            have RO := hid R2.out.op
            rw [HOL.out] at RO
            have hbs2 : base ≤ W2.heap.size := Nat.le_trans hbs K2.out.below.size
            have hol : ol ≤ 16777216 := by have := LI.out; omega
            have HNW := hid (fun u : Value => (by simp [World.cell?_alloc_new] : (W2.alloc (.cells #[u] 50)).cell? ⟨W2.heap.size, 0, none⟩ = some u))
            go_wp2_with (at_builtin; refine wpList_append_lies _ rfl _ _ 52 rfl base 50 i0 (.int .i32 0) 1 4 Tryd.underlying52 hi hz0 hz1 hz2 rfl (by decide) _ ol (st.opn.map (Value.int .i32)) rfl (RO.out.alloc _) ⟨W2.heap.size, 0, none⟩ 1 1 [.int .i32 (-(m : Int))] rfl rfl ?c1 ?c2 (by decide) ?c3 ?c4 ?c5 (W2.heap.size + 1) ?c6 ?_)
            case c1 =>
              intro j u hu
              obtain rfl : j = 0 := by
                cases j with
                | zero => rfl
                | succ j => simp at hu
              have := HNW.out (.int .i32 (-(m : Int)))
              simp at hu
              subst hu
              exact this
            case c2 => intro u hu; simp at hu; subst hu; rfl
            case c3 => simp [maxLen]; omega
            case c4 => omega
            case c5 => simp; omega
            case c6 => simp
            intro g cap w1 hown1 hgrow hat hlt1
            rw [← HOL.out] at hown1
            have FIN := hid (Rd.lit hbs2 R2.out hgrow hown1 hat (by constructor <;> omega) (by have := LI.out; have := HLT.out; omega))
            rw [HOL.out] at FIN
            rw [HLT.out] at FIN
            have e3 := row_cell FIN.out.1 3
            have e4 := row_cell FIN.out.1 4
            simp only [List.getElem?_toArray, List.getElem?_cons_zero, List.getElem?_cons_succ] at e3 e4
            have g3 := row_frozen FIN.out.1 3
            have g4 := row_frozen FIN.out.1 4
            clear hown1 hgrow hat hlt1 c0 c3 c4 f3 f4
            go_wp2
            go_ret
            exact ⟨0, rfl, K2.out.trans FIN.out.2.2, rfl, _, _, _, FIN.out.2.1⟩

end Go.Proofs.YtlhpnkgdnmnclaaDoor
