/- Rows of records in memory. -/
import Derived.Test.YtekkbpaelojmeaaMem
import Derived.Test.YtekkbpaelojmeaaRdP
namespace Go.Proofs.Ytekkbpaelojmeaa
open Go.RowKit Go.Maps
set_option linter.unusedVariables false

theorem info29 : (Try.prog.info? 29).map (fun i => (i.zero, i.size, i.bytes)) = some (some (.agg #[.int .i64 0, .int .i64 0, .int .i64 0, .int .i64 0, .bool false]), 5, 40) := by kernel_rfl
theorem info31 : (Try.prog.info? 31).map (fun i => (i.zero, i.size, i.bytes)) = some (some (.agg #[.int .i64 0, .int .i64 0, .int .i64 0, .int .i64 0, .bool false]), 5, 40) := by kernel_rfl
theorem info2 : (Try.prog.info? 2).map (fun i => (i.zero, i.size, i.bytes)) = some (some (.int .i64 0), 1, 8) := by kernel_rfl
/-- The cells of records, one behind the other. -/
def flat (rs : List Rc) : List Value := rs.flatMap rec5
theorem flat_nil : flat [] = [] := rfl
theorem flat_cons (r : Rc) (rs : List Rc) : flat (r :: rs) = rec5 r ++ flat rs := rfl
theorem flat_append (rs ss : List Rc) : flat (rs ++ ss) = flat rs ++ flat ss := by unfold flat; rw [List.flatMap_append]
theorem flat_snoc (rs : List Rc) (r : Rc) : flat (rs ++ [r]) = flat rs ++ rec5 r := by rw [flat_append, flat_cons, flat_nil, List.append_nil]
theorem flat_len (rs : List Rc) : (flat rs).length = rs.length * 5 := by
  induction rs with
  | nil => rfl
  | cons r rs ih => rw [flat_cons, List.length_append, ih]; simp [rec5]; omega
theorem flat_at {rs : List Rc} : ∀ {j : Nat} (hj : j < rs.length) {t : Nat} (ht : t < 5), (flat rs)[j * 5 + t]? = (rec5 rs[j])[t]? := by
  induction rs with
  | nil => intro j hj; simp at hj
  | cons r rs ih =>
    intro j hj t ht
    rw [flat_cons]
    cases j with
    | zero => rw [List.getElem?_append_left (by simp [rec5]; omega), Nat.zero_mul, Nat.zero_add]; rfl
    | succ j =>
      rw [List.getElem?_append_right (by simp [rec5]; omega), show (j + 1) * 5 + t - (rec5 r).length = j * 5 + t by simp [rec5]; omega, ih (by simp at hj; omega) ht]
      rfl
/-- Records, whatever they are, lie in a row that is read. -/
def Rcs (W : World) (a : Option Addr) (rs : List Rc) : Prop :=
  rs = [] ∨ ∃ b off, a = some ⟨b, off, none⟩ ∧ b < W.heap.size ∧ ∀ j (hj : j < rs.length), rs[j].Ok ∧ ∀ t v, (rec5 rs[j])[t]? = some v → W.cell? ⟨b, off + j * 5 + t, none⟩ = some v
theorem Rcs.below {W W' : World} {a : Option Addr} {rs : List Rc} (h : Rcs W a rs) (hb : Below W.heap.size W W') : Rcs W' a rs := by
  rcases h with h | ⟨b, off, e, hl, hc⟩
  · exact .inl h
  · refine .inr ⟨b, off, e, Nat.lt_of_lt_of_le hl hb.size, fun j hj => ?_⟩
    obtain ⟨h1, h2⟩ := hc j hj
    exact ⟨h1, fun t v hv => (hb.cell (p := ⟨b, off + j * 5 + t, none⟩) hl).trans (h2 t v hv)⟩
theorem Rcs.shape {w : World} {a : Option Addr} {rs : List Rc} (h : Rcs w a rs) : rs.length = 0 ∨ ∃ b off, a = some ⟨b, off, none⟩ := by
  rcases h with h' | ⟨b, off, e, _⟩
  · left; rw [h']; rfl
  · exact .inr ⟨b, off, e⟩
theorem Rcs.lt {W : World} {b off : Nat} {rs : List Rc} (h : Rcs W (some ⟨b, off, none⟩) rs) {j : Nat} (hj : j < rs.length) : b < W.heap.size := by
  rcases h with h | ⟨b', off', e, hl, hc⟩
  · rw [h] at hj; simp at hj
  · cases e; exact hl
theorem Rcs.at {W : World} {b off : Nat} {rs : List Rc} (h : Rcs W (some ⟨b, off, none⟩) rs) {j : Nat} (hj : j < rs.length) :
    rs[j].Ok ∧ W.cell? ⟨b, off + j * 5, none⟩ = some (.int .i64 rs[j].k.id) ∧ W.cell? ⟨b, off + j * 5 + 1, none⟩ = some (.int .i64 rs[j].k.lb) ∧ W.cell? ⟨b, off + j * 5 + 2, none⟩ = some (.int .i64 rs[j].k.sz) ∧ W.cell? ⟨b, off + j * 5 + 3, none⟩ = some (.int .i64 rs[j].k.us) ∧ W.cell? ⟨b, off + j * 5 + 4, none⟩ = some (.bool rs[j].lk) := by
  rcases h with h | ⟨b', off', e, hl, hc⟩
  · rw [h] at hj; simp at hj
  · cases e
    obtain ⟨h1, h2⟩ := hc j hj
    exact ⟨h1, h2 0 _ rfl, h2 1 _ rfl, h2 2 _ rfl, h2 3 _ rfl, h2 4 _ rfl⟩
/-- A row of one's own, read. -/
theorem own_rcs {W : World} {base e n : Nat} {a : Option Addr} {c : Nat} {rs : List Rc} (h : W.ownsRow base e 5 (.slice a n c) n (flat rs)) (hn : rs.length = n) (hok : ∀ r ∈ rs, r.Ok) : Rcs W a rs := by
  rcases h.2 with ⟨e1, h0⟩ | ⟨g, c', cur, e1, h1, h2, h3, h4, h5, h6⟩
  · left
    subst h0
    exact List.eq_nil_of_length_eq_zero hn
  · cases e1
    refine .inr ⟨g, 0, rfl, lt_of_blk h2, fun j hj => ⟨hok _ (List.getElem_mem _), fun t v hv => ?_⟩⟩
    have ht : t < 5 := by
      rcases Nat.lt_or_ge t 5 with h' | h'
      · exact h'
      · rw [List.getElem?_eq_none (by simpa [rec5] using h')] at hv; cases hv
    have := flat_at hj ht
    rw [hv, ← h6, List.getElem?_take_of_lt (by omega), Array.getElem?_toList] at this
    rw [Nat.zero_add, row_cell h2, this]
theorem one5 (r : Rc) : ∀ u ∈ rec5 r, u.oneCell' = true := by
  intro u hu
  simp [rec5] at hu
  rcases hu with rfl | rfl | rfl | rfl | rfl <;> rfl
/-- A record more, behind a row of one's own. -/
def PushOut (T e base : Nat) (W : World) (v : Value) (k : Nat) (rs : List Rc) (r : Rc) : Prop :=
  ∃ g c B, (Builtin.append_ #[T, T] T #[v, .slice (some ⟨W.heap.size, 0, none⟩) 1 1]).run Try.prog (W.alloc (.cells (rec5 r).toArray e)) = .ok (.slice (some ⟨g, 0, none⟩) (k + 1) c) B ∧ B.ownsRow base e 5 (.slice (some ⟨g, 0, none⟩) (k + 1) c) (k + 1) (flat (rs ++ [r])) ∧
    (W.alloc (.cells (rec5 r).toArray e)).grownBy B v.ownBlock ∧ (v.ownBlock = some g ∨ g = W.heap.size + 1)
theorem push29 {W : World} {base : Nat} {v : Value} {k : Nat} {rs : List Rc} (ho : W.ownsRow base 29 5 v k (flat rs)) (r : Rc) (hb : base ≤ W.heap.size) (hk : k ≤ 1000000000) : PushOut 23 29 base W v k rs r := by
  obtain ⟨i0, hi0, hz⟩ := Option.map_eq_some_iff.1 info29
  simp only [Prod.mk.injEq] at hz
  obtain ⟨g, c, B, hr, h2, h3, h5, _⟩ := run_append_lies (P := Try.prog) (W.alloc (.cells (rec5 r).toArray 29)) 23 23 base 29 i0 _ 5 40 Try.underlying23 hi0 hz.1 hz.2.1 hz.2.2 rfl (by decide) v k _ (ho.alloc _) ⟨W.heap.size, 0, none⟩ 1 1 (rec5 r) rfl (World.news_of_block (heap_alloc_new W (.cells (rec5 r).toArray 29))) (one5 r) (by decide) (by unfold maxLen; omega) (by omega) (by simp; omega) _ rfl
  exact ⟨g, c, B, hr, by rw [flat_snoc]; exact h2, h3, by simpa using h5⟩
theorem push31 {W : World} {base : Nat} {v : Value} {k : Nat} {rs : List Rc} (ho : W.ownsRow base 31 5 v k (flat rs)) (r : Rc) (hb : base ≤ W.heap.size) (hk : k ≤ 1000000000) : PushOut 24 31 base W v k rs r := by
  obtain ⟨i0, hi0, hz⟩ := Option.map_eq_some_iff.1 info31
  simp only [Prod.mk.injEq] at hz
  obtain ⟨g, c, B, hr, h2, h3, h5, _⟩ := run_append_lies (P := Try.prog) (W.alloc (.cells (rec5 r).toArray 31)) 24 24 base 31 i0 _ 5 40 Try.underlying24 hi0 hz.1 hz.2.1 hz.2.2 rfl (by decide) v k _ (ho.alloc _) ⟨W.heap.size, 0, none⟩ 1 1 (rec5 r) rfl (World.news_of_block (heap_alloc_new W (.cells (rec5 r).toArray 31))) (one5 r) (by decide) (by unfold maxLen; omega) (by omega) (by simp; omega) _ rfl
  exact ⟨g, c, B, hr, by rw [flat_snoc]; exact h2, h3, by simpa using h5⟩
theorem below_grown {n : Nat} {A W W' : World} {row : Option Nat} (hb : Below n A W) (hg : W.grownBy W' row) (hr : ∀ k, row = some k → n ≤ k) (hn : n ≤ W.heap.size) : Below n A W' :=
  ⟨hg.os.trans hb.os, hg.tape.trans hb.tape, hg.output.trans hb.output, Nat.le_trans hb.size hg.size, fun g hgl => (hg.block g (by omega) (fun e => by have := hr g e.symm; omega)).trans (hb.block g hgl)⟩
theorem PushOut.below {T e base : Nat} {W : World} {v : Value} {k : Nat} {rs : List Rc} {r : Rc} {n : Nat} {A : World} (hb : Below n A W) (hn : n ≤ W.heap.size) (hv : ∀ q, v.ownBlock = some q → n ≤ q) {B : World} (hg : (W.alloc (.cells (rec5 r).toArray e)).grownBy B v.ownBlock) : Below n A B :=
  below_grown (hb.trans ((below_box W (.cells (rec5 r).toArray e)).mono hn)) hg hv (by simp; omega)
end Go.Proofs.Ytekkbpaelojmeaa
