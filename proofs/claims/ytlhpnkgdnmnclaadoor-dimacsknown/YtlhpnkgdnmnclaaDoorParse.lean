/- A formula out of a text. -/
import Derived.Test.YtlhpnkgdnmnclaaDoorTake
namespace Dim

theorem play_snoc_ok {vars clauses : Nat} {st st1 st' : St} {its : List (Nat × List Int)} {x : Nat × List Int} (h : play vars clauses st its = .ok st1) (ht : take vars clauses st1 x.2 = .ok st') : play vars clauses st (its ++ [x]) = .ok st' := by
  induction its generalizing st with
  | nil => cases h; obtain ⟨k, w⟩ := x; simp only [List.nil_append, play, ht]
  | cons y ys ih =>
    obtain ⟨k, w⟩ := y
    simp only [play, List.cons_append] at h ⊢
    split at h
    · cases h
    · exact ih h
theorem play_error {vars clauses : Nat} {st st1 : St} {its rest : List (Nat × List Int)} {x : Nat × List Int} {e : Nat} (h : play vars clauses st its = .ok st1) (ht : take vars clauses st1 x.2 = .error e) : play vars clauses st (its ++ x :: rest) = .error (e, x.1) := by
  induction its generalizing st with
  | nil => cases h; obtain ⟨k, w⟩ := x; simp only [List.nil_append, play, ht]
  | cons y ys ih =>
    obtain ⟨k, w⟩ := y
    simp only [play, List.cons_append] at h ⊢
    split at h
    · cases h
    · exact ih h

theorem headT_len (n : Nat) (b : List Int) : (headT n b).2.2 + (headT n b).2.1.length ≤ n + b.length + 1 := by
  generalize hm : b.length = m
  induction m using Nat.strongRecOn generalizing n b with
  | _ m ih =>
    by_cases hb : b = []
    · rw [hb, headT_nil]; simp
    · have hlt := cut_lt b hb
      by_cases hw : words (cutL b) = []
      · rw [headT_skip n b hb hw]
        have := ih (cutR b).length (by omega) (n + 1) (cutR b) rfl
        omega
      · rw [headT_stop n b hb hw]
        show n + 1 + (cutR b).length ≤ _
        omega

theorem lines_len (b : List Int) : (lines b).length ≤ b.length := by
  generalize hm : b.length = m
  induction m using Nat.strongRecOn generalizing b with
  | _ m ih =>
    by_cases hb : b = []
    · rw [hb, lines_nil]; simp
    · have hlt := cut_lt b hb
      rw [lines_cons b hb, List.length_cons]
      have := ih (cutR b).length (by omega) (cutR b) rfl
      omega

/-- What a head says, by its words. -/
theorem readHead_eq (l : List Int) : readHead l = if hdB (words l) then some (valGo 0 ((words l).getD 2 []), valGo 0 ((words l).getD 3 [])) else none := by
  have hne := words_ne l
  unfold readHead hdB
  generalize words l = ws at *
  match ws, hne with
  | [], _ => simp
  | [a], _ => simp [isNum]
  | [a, b], _ => simp [isNum]
  | [a, b, c], _ => simp [isNum]
  | [a, b, c, d], _ =>
    by_cases h1 : a = [112]
    · by_cases h2 : b = [99, 110, 102]
      · cases h3 : isNum c <;> cases h4 : isNum d <;> simp [number, h1, h2, h3, h4]
      · simp [h1, h2]
    · simp [h1]
  | a :: b :: c :: d :: e :: r, _ => simp

end Dim
namespace Go.Proofs.YtlhpnkgdnmnclaaDoor
open Go.RowKit
set_option linter.unusedVariables false
attribute [local go_sem] Oper.semAt_some

/-- A row of literals. -/
def Lits (w : World) (a : Option Addr) (xs : List Int) : Prop :=
  (∀ x ∈ xs, -2147483648 ≤ x ∧ x ≤ 2147483647) ∧ (xs = [] ∨ ∃ b off, a = some ⟨b, off, none⟩ ∧ b < w.heap.size ∧ ∀ j, j < xs.length → w.cell? ⟨b, off + j, none⟩ = some (.int .i32 (xs.getD j 0)))
/-- A row of clauses. -/
def Cls (w : World) (a : Option Addr) (cs : List (List Int)) : Prop :=
  (∀ c ∈ cs, c.length ≤ 35184372088832) ∧ (cs = [] ∨ ∃ b off, a = some ⟨b, off, none⟩ ∧ b < w.heap.size ∧ ∀ j, j < cs.length → ∃ a' cap', w.cell? ⟨b, off + j, none⟩ = some (.slice a' (cs.getD j []).length cap') ∧ Lits w a' (cs.getD j []))

theorem Lits.below {w w' : World} {a : Option Addr} {xs : List Int} (h : Lits w a xs) (hb : Below w.heap.size w w') : Lits w' a xs := by
  refine ⟨h.1, ?_⟩
  rcases h.2 with h | ⟨b, off, e, hl, hc⟩
  · exact .inl h
  · exact .inr ⟨b, off, e, Nat.lt_of_lt_of_le hl hb.size, fun j hj => (hb.cell (p := ⟨b, off + j, none⟩) hl).trans (hc j hj)⟩
theorem Cls.below {w w' : World} {a : Option Addr} {cs : List (List Int)} (h : Cls w a cs) (hb : Below w.heap.size w w') : Cls w' a cs := by
  refine ⟨h.1, ?_⟩
  rcases h.2 with h | ⟨b, off, e, hl, hc⟩
  · exact .inl h
  · refine .inr ⟨b, off, e, Nat.lt_of_lt_of_le hl hb.size, fun j hj => ?_⟩
    obtain ⟨a', cap', h1, h2⟩ := hc j hj
    exact ⟨a', cap', (hb.cell (p := ⟨b, off + j, none⟩) hl).trans h1, h2.below hb⟩
theorem Cls.nil (w : World) (a : Option Addr) : Cls w a [] := ⟨fun _ h => (by cases h), .inl rfl⟩

/-- What the reader has read lies as a row of clauses. -/
theorem Rd.cls {base rb vars clauses : Nat} {W : World} {st : Dim.St} {cv ov : Value} {vals : List Value} (h : Rd base rb vars clauses W st cv ov vals) : ∃ a cap, cv = .slice a st.cls.length cap ∧ Cls W a st.cls := by
  have hvl : vals.length = st.cls.length := by have := h.cl.1; omega
  rcases h.cl.2 with ⟨e, h0⟩ | ⟨g, cap, cur, e, h1, h2, h3, h4, h5, h6⟩
  · have : st.cls = [] := List.eq_nil_of_length_eq_zero h0
    exact ⟨none, 0, by rw [e, h0], by rw [this]; exact Cls.nil _ _⟩
  · refine ⟨some ⟨g, 0, none⟩, cap, e, fun c hc => by have := h.li.2.2.2.2.2 c hc; omega, .inr ⟨g, 0, rfl, (Array.getElem?_eq_some_iff.1 h2).1, fun j hj => ?_⟩⟩
    obtain ⟨a, capj, ej, hl⟩ := h.ea j hj
    refine ⟨a, capj, ?_, ?_, ?_⟩
    · rw [← ej, Nat.zero_add, row_cell h2 j, ← Array.getElem?_toList]
      have := congrArg (fun l : List Value => l[j]?) h6
      simp only [Nat.mul_one] at this
      rw [List.getElem?_take_of_lt hj] at this
      rw [this]
      simp [List.getD, List.getElem?_eq_getElem (show j < vals.length by omega)]
    · have hm : st.cls.getD j [] ∈ st.cls := by simp [List.getD, List.getElem?_eq_getElem hj]
      intro x hx
      have := h.bo.1 _ hm x hx
      omega
    · rcases hl with hl | ⟨g', cs, fr, q1, q2, q3, q4, q5⟩
      · exact .inl hl
      · exact .inr ⟨g', 0, q1, (Array.getElem?_eq_some_iff.1 q4).1, fun i hi => by rw [Nat.zero_add, row_cell q4 i]; exact q5 i hi⟩

theorem lines_iter (tb cb bb cx k0 : Nat) (p : Option Addr) (n c : Nat) (xs : List Int) (w : World) (hn : xs.length = n) (hk0 : k0 + n < 1099511627776)
    (hbb : Boxed w bb 22 (.slice p n c)) (hcx : Boxed w cx 53 (cnt cb)) (hcb : Boxed w cb 3 (.int .i64 k0)) (hx : Txt tb w p c xs) (htb : TB tb w) :
    Iter Tryd.prog 40 #[.pointer (some ⟨bb, 0, none⟩), .pointer (some ⟨cx, 0, none⟩)] (fun x : Value × Value => #[x.1, x.2]) (some cb) (Dim.items k0 (Dim.lines xs)).length (ItemV tb (Dim.items k0 (Dim.lines xs))) (KeepS (w.heap.size + 1)) (fun W => Boxed W cb 3 (.int .i64 ((k0 + (Dim.lines xs).length : Nat) : Int))) w := by
  intro l W1 hbk hl1 hl2 J Jx hJ hJx hY h0
  subst hl1
  exact (callsIn_wide (n := 9)).1 (lineWords40 tb cb bb cx (w.heap.size + 1) k0 p n c xs J Jx W1 hn hk0 hl2 hJ hJx hY (hbk.boxed hbb (by simp)) (hbk.boxed hcx (by simp)) (hbk.boxed hcb (by simp)) (hx.book hbk (by simp)) (htb.book hbk (by simp)) h0)

set_option maxHeartbeats 1000000 in
theorem lineWords25 (p : Option Addr) (n c cb : Nat) (w : World) : Calls Tryd.prog 25 #[.slice p n c, cnt cb] w fun e w' => e = .returned (.func (.func 40) #[] #[.pointer (some ⟨w.heap.size, 0, none⟩), .pointer (some ⟨w.heap.size + 1, 0, none⟩)]) ∧ w' = (w.alloc (.cells #[.slice p n c] 22)).alloc (.cells #[cnt cb] 53) := by
  go_enter Tryd.func25, Tryd.ntmps25
  go_wp2
  go_ret
  exact ⟨rfl, rfl⟩

theorem Rd.book {base rb vars clauses B cb : Nat} {W W' : World} {st : Dim.St} {cv ov : Value} {vals : List Value} (h : Rd base rb vars clauses W st cv ov vals) (hb : Book (some cb) B W W') (hc : cb < base) : Rd base rb vars clauses W' st cv ov vals := by
  have k : ∀ {g : Nat} {cs : Array Value} {t : TypeId} {fr : Nat × Nat}, base ≤ g → W.heap[g]? = some (.cells cs t fr) → W'.heap[g]? = W.heap[g]? := fun hg hh => (hb.same _ _ hh (fun e => by cases e; omega) (.inr rfl)).trans hh.symm
  have kr : ∀ {e : TypeId} {v : Value} {n : Nat} {xs : List Value}, W.ownsRow base e 1 v n xs → W'.ownsRow base e 1 v n xs := fun hr => row_same hr (fun g cs hg hh => k (by
    rcases hr.2 with ⟨rfl, _⟩ | ⟨g', cap, cur, rfl, h1, _⟩
    · simp [Value.ownBlock] at hg
    · simp [Value.ownBlock] at hg; omega) hh)
  refine ⟨(k h.hb h.blk).trans h.blk, h.hb, kr h.cl, kr h.op, fun j hj => ?_, h.bo, h.li⟩
  obtain ⟨a, cap, e, hl⟩ := h.ea j hj
  refine ⟨a, cap, e, ?_⟩
  rcases hl with hl | ⟨g, cs, fr, q1, q2, q3, q4, q5⟩
  · exact .inl hl
  · exact .inr ⟨g, cs, fr, q1, q2, q3, (k q2 q4).trans q4, q5⟩

theorem Rd.up {base rb vars clauses : Nat} {W W' : World} {st : Dim.St} {cv ov : Value} {vals : List Value} (h : Rd base rb vars clauses W st cv ov vals) (hk : ∀ g, base ≤ g → W'.heap[g]? = W.heap[g]?) : Rd base rb vars clauses W' st cv ov vals := by
  have kr : ∀ {e : TypeId} {v : Value} {n : Nat} {xs : List Value}, W.ownsRow base e 1 v n xs → W'.ownsRow base e 1 v n xs := fun hr => row_same hr (fun g cs hg hh => hk g (by
    rcases hr.2 with ⟨rfl, _⟩ | ⟨g', cap, cur, rfl, h1, _⟩
    · simp [Value.ownBlock] at hg
    · simp [Value.ownBlock] at hg; omega))
  refine ⟨(hk _ h.hb).trans h.blk, h.hb, kr h.cl, kr h.op, fun j hj => ?_, h.bo, h.li⟩
  obtain ⟨a, cap, e, hl⟩ := h.ea j hj
  refine ⟨a, cap, e, ?_⟩
  rcases hl with hl | ⟨g, cs, fr, q1, q2, q3, q4, q5⟩
  · exact .inl hl
  · exact .inr ⟨g, cs, fr, q1, q2, q3, (hk g q2).trans q4, q5⟩

theorem load_row25 (W : World) {b : Nat} {x y : Value} {t : TypeId} (h : W.heap[b]? = some (.cells #[x, y] t (0, 0))) : (loadVar 25 ⟨b, 0, none⟩).run Tryd.prog W = .ok (.agg #[x, y]) W :=
  run_loadVar_row W b t 25 #[x, y] (0, 0) _ h Tryd.underlying25 rfl (by kernel_rfl)

end Go.Proofs.YtlhpnkgdnmnclaaDoor
