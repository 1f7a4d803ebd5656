/- What the document's own Parse tells, and how the formula lies while it is read. -/
import Derived.Test.YtlhpnkgdnmnclaaDoorLins2
import Derived.Test.YtlhpnkgdnmnclaaDoorRefRd
namespace Dim
set_option linter.unusedVariables false
theorem wordsGo_in (l : List Int) : ∀ cu, ∀ w ∈ wordsGo cu l, w.length ≤ cu.length + l.length ∧ ∀ c ∈ w, c ∈ cu ∨ c ∈ l := by
  induction l with
  | nil =>
    intro cu w hw
    rw [wordsGo] at hw
    split at hw
    · cases hw
    · rw [List.mem_singleton] at hw; subst hw; exact ⟨by simp, fun c h => .inl h⟩
  | cons x l ih =>
    intro cu w hw
    rw [wordsGo] at hw
    split at hw
    · split at hw
      · obtain ⟨h1, h2⟩ := ih [] w hw
        refine ⟨by simp at h1 ⊢; omega, fun c h => ?_⟩
        rcases h2 c h with h' | h'
        · cases h'
        · exact .inr (List.mem_cons_of_mem _ h')
      · rcases List.mem_cons.1 hw with rfl | hw
        · exact ⟨by simp, fun c h => .inl h⟩
        · obtain ⟨h1, h2⟩ := ih [] w hw
          refine ⟨by simp at h1 ⊢; omega, fun c h => ?_⟩
          rcases h2 c h with h' | h'
          · cases h'
          · exact .inr (List.mem_cons_of_mem _ h')
    · obtain ⟨h1, h2⟩ := ih _ w hw
      refine ⟨by simp at h1 ⊢; omega, fun c h => ?_⟩
      rcases h2 c h with h' | h'
      · rcases List.mem_append.1 h' with h' | h'
        · exact .inl h'
        · rw [List.mem_singleton] at h'; subst h'; exact .inr (by simp)
      · exact .inr (List.mem_cons_of_mem _ h')
theorem wordsGo_count (l : List Int) : ∀ cu, (wordsGo cu l).length ≤ l.length + (if cu = [] then 0 else 1) := by
  induction l with
  | nil => intro cu; rw [wordsGo]; split <;> simp
  | cons x l ih =>
    intro cu
    rw [wordsGo]
    split
    · split
      · have := ih []
        simp at this ⊢
        omega
      · have := ih []
        simp at this ⊢
        omega
    · have := ih (cu ++ [x])
      simp at this ⊢
      split <;> omega
theorem words_count (l : List Int) : (words l).length ≤ l.length := by
  unfold words
  split
  · simp
  · have := wordsGo_count l []
    simpa using this
theorem lines_in (b : List Int) : ∀ l ∈ lines b, l.length ≤ b.length ∧ ∀ c ∈ l, c ∈ b := by
  generalize hm : b.length = m
  induction m using Nat.strongRecOn generalizing b with
  | _ m ih =>
    by_cases hb : b = []
    · rw [hb, lines_nil]; intro l h; cases h
    · intro l hl
      rw [lines_cons b hb] at hl
      have hs : cutL b ++ b.dropWhile (fun c => c != 10) = b := List.takeWhile_append_dropWhile
      have hlen := congrArg List.length hs
      rw [List.length_append] at hlen
      rcases List.mem_cons.1 hl with rfl | hl
      · exact ⟨by omega, fun c h => by rw [← hs]; exact List.mem_append_left _ h⟩
      · have hlt := cut_lt b hb
        obtain ⟨h1, h2⟩ := ih (cutR b).length (by omega) (cutR b) rfl l hl
        refine ⟨by omega, fun c h => ?_⟩
        have h3 := h2 c h
        unfold cutR at h3
        rw [← hs]
        exact List.mem_append_right _ (List.mem_of_mem_tail h3)
theorem word_in (b : List Int) : ∀ l ∈ lines b, ∀ w ∈ words l, w.length ≤ b.length ∧ ∀ c ∈ w, c ∈ b := by
  intro l hl w hw
  obtain ⟨h1, h2⟩ := lines_in b l hl
  unfold words at hw
  split at hw
  · cases hw
  · obtain ⟨h3, h4⟩ := wordsGo_in l [] w hw
    refine ⟨by simp at h3; omega, fun c h => ?_⟩
    rcases h4 c h with h' | h'
    · cases h'
    · exact h2 c h'
theorem ints_lit (S : ByteArray) (l : List UInt8) : (S.toList == l) = decide (ints S = l.map (fun b => (b.toNat : Int))) := by
  rw [Go.ByteArray.toList_eq]
  unfold ints
  by_cases h : S.data.toList = l
  · rw [h, decide_eq_true rfl]; simp
  · rw [decide_eq_false (fun e => h (by
      have hinj : ∀ a b : UInt8, (a.toNat : Int) = (b.toNat : Int) → a = b := fun a b e => UInt8.toNat_inj.1 (by omega)
      generalize S.data.toList = t at e
      clear h
      induction t generalizing l with
      | nil => cases l with
        | nil => rfl
        | cons y l => simp at e
      | cons x t ih => cases l with
        | nil => simp at e
        | cons y l =>
          simp only [List.map_cons, List.cons.injEq] at e
          rw [hinj x y e.1, ih l e.2])), beq_eq_false_iff_ne]
    exact h
end Dim
namespace Go.Proofs.YtlhpnkgdnmnclaaDoor
open Go.RowKit
set_option linter.unusedVariables false
set_option linter.unusedSimpArgs false

theorem StrV.word {W : World} {v : Value} {ws : List (List Int)} (h : StrV W v ws) {i n : Nat} (hi : i < ws.length) (hw : ∀ u ∈ ws, u.length ≤ n ∧ Byt u) : ∃ g cap S, v = .slice (some ⟨g, 0, none⟩) ws.length cap ∧ W.cell? ⟨g, i, none⟩ = some (.string S) ∧ Dim.ints S = ws.getD i [] ∧ S.size ≤ n := by
  obtain ⟨g, cap, e, hc⟩ := h.at hi
  have hm : ws.getD i [] ∈ ws := by simp [List.getD, List.getElem?_eq_getElem hi]
  obtain ⟨h1, h2⟩ := hw _ hm
  exact ⟨g, cap, _, e, hc, Dim.ints_bs _ h2, by rw [Dim.bs_size]; exact h1⟩

/-- How a formula is told. -/
def FOut (A : Dim.Ans) (w : World) (e : Ending) (w' : World) : Prop := ∃ a cap, e = .returned (.tuple #[.agg #[.int .i64 A.vars, .slice a A.cls.length cap], .int .i64 A.err, .int .i64 A.at_]) ∧ Cls w' a A.cls ∧ Below w.heap.size w w'

theorem FOut.err {A : Dim.Ans} {w W : World} {e k : Nat} {E K : Int} (hA : A = ⟨e, k, 0, []⟩) (hb : Below w.heap.size w W) (hE : E = e) (hK : K = k) : FOut A w (.returned (.tuple #[.agg #[.int .i64 0, .slice none 0 0], .int .i64 E, .int .i64 K])) W := by
  subst hA hE hK
  exact ⟨none, 0, rfl, Cls.nil _ _, hb⟩
/-- How the formula stands while it is read: its block is the first behind W4. -/
structure PRd (W4 : World) (vars clauses : Nat) (st : Dim.St) (oc : Option Addr) (lc cc : Nat) (of_ : Option Addr) (lf cf : Nat) (W : World) : Prop where
  lc_ : st.opn.length = lc
  lf_ : st.cls.length = lf
  blk : W.heap[W4.heap.size]? = some (.cells #[.int .i64 vars, .slice of_ lf cf] 25 (0, 0))
  rd : ∃ vals, RdR (W4.heap.size + 1) clauses W st (.slice of_ lf cf) (.slice oc lc cc) vals
  below : Below W4.heap.size W4 W
theorem PRd.start (W4 : World) (vars clauses : Nat) (hc : clauses ≤ 1048576) : PRd W4 vars clauses ⟨[], [], 0⟩ none 0 0 none 0 0 (W4.alloc (.cells #[.int .i64 vars, .slice none 0 0] 25)) :=
  ⟨rfl, rfl, World.alloc_heap_new _ _, ⟨[], RdR.start _ _ _ hc⟩, below_box _ _⟩
theorem PRd.size {W4 : World} {vars clauses : Nat} {st : Dim.St} {oc : Option Addr} {lc cc : Nat} {of_ : Option Addr} {lf cf : Nat} {W : World} (h : PRd W4 vars clauses st oc lc cc of_ lf cf W) : W4.heap.size + 1 ≤ W.heap.size := (Array.getElem?_eq_some_iff.1 h.blk).1
theorem PRd.lit {W4 : World} {vars clauses : Nat} {st : Dim.St} {oc : Option Addr} {lc cc : Nat} {of_ : Option Addr} {lf cf : Nat} {W : World} (h : PRd W4 vars clauses st oc lc cc of_ lf cf W) (l : Int) (hl : -1048576 ≤ l ∧ l ≤ 1048576) (hlit : st.lits < 16777216) (hcl : lf < clauses) :
    ∃ o' cp' B, (Builtin.append_ #[52, 52] 52 #[.slice oc lc cc, .slice (some ⟨W.heap.size, 0, none⟩) 1 1]).run Tryd.prog (W.alloc (.cells #[.int .i32 l] 50)) = .ok (.slice o' (lc + 1) cp') B ∧
      PRd W4 vars clauses ⟨st.cls, st.opn ++ [l], st.lits + 1⟩ o' (lc + 1) cp' of_ lf cf B := by
  obtain ⟨vals, hr⟩ := h.rd
  obtain ⟨o', cp', B, h1, h2, h3⟩ := hr.lit h.size l hl hlit (by rw [h.lf_]; exact hcl)
  rw [h.lc_] at h1 h2
  exact ⟨o', cp', B, h1, ⟨by simp [h.lc_], h.lf_, (h3.block _ (by omega)).trans h.blk, ⟨vals, h2⟩, h.below.trans (h3.mono (by omega))⟩⟩
theorem PRd.push {W4 : World} {vars clauses : Nat} {st : Dim.St} {oc : Option Addr} {lc cc : Nat} {of_ : Option Addr} {lf cf : Nat} {W : World} (h : PRd W4 vars clauses st oc lc cc of_ lf cf W) (hcl : lf < clauses) :
    ∃ o' cp' B, (Builtin.append_ #[23, 23] 23 #[.slice of_ lf cf, .slice (some ⟨W.heap.size, 0, none⟩) 1 1]).run Tryd.prog (W.alloc (.cells #[.slice oc lc cc] 52)) = .ok (.slice o' (lf + 1) cp') B ∧
      B.heap[W4.heap.size]? = some (.cells #[.int .i64 vars, .slice of_ lf cf] 25 (0, 0)) ∧
      PRd W4 vars clauses ⟨st.cls ++ [st.opn], [], st.lits⟩ none 0 0 o' (lf + 1) cp' (B.setCell ⟨W4.heap.size, 1, none⟩ (.slice o' (lf + 1) cp')) := by
  obtain ⟨vals, hr⟩ := h.rd
  obtain ⟨o', cp', B, h1, h2, h3⟩ := hr.push h.size (by rw [h.lf_]; exact hcl)
  rw [h.lf_] at h1 h2
  have hB := (h3.block _ (by omega)).trans h.blk
  exact ⟨o', cp', B, h1, hB, ⟨rfl, by simp [h.lf_], heap_set_row hB _, ⟨_, h2.set (by omega) _⟩, (h.below.trans (h3.mono (by omega))).setCell (Nat.le_refl _) _⟩⟩
theorem PRd.li {W4 : World} {vars clauses : Nat} {st : Dim.St} {oc : Option Addr} {lc cc : Nat} {of_ : Option Addr} {lf cf : Nat} {W : World} (h : PRd W4 vars clauses st oc lc cc of_ lf cf W) : st.lits ≤ 16777216 ∧ lf ≤ clauses ∧ lc ≤ 16777216 ∧ (0 < lc → lf < clauses) := by
  obtain ⟨vals, hr⟩ := h.rd
  have h1 := hr.li
  have h2 := hr.no
  rw [h.lf_] at h1 h2
  rw [h.lc_] at h1
  exact ⟨h1.1, h1.2.2.1, by omega, fun hp => h2 (fun e => by have := h.lc_; rw [e] at this; simp at this; omega)⟩
theorem signed_in (w : List Int) (m : Bool) (n : Nat) (h : Dim.signed w = some (m, n)) : m = true → 0 < n := by
  intro hm
  subst hm
  unfold Dim.signed at h
  split at h
  · split at h
    · split at h
      · cases h
      · cases h; omega
    · cases h
  · obtain ⟨k, _, h2⟩ := Option.map_eq_some_iff.1 h
    cases h2

theorem results_cell_tmps {P : Program} {fn : Func} {p q r : Tmp} {t : TypeId} (h : fn.results = #[.cell p t, .tmp q, .tmp r]) (tmps : Array Value) (w : World) {ap : Addr} {x : Value}
    (hp : tmps.getD p undef = .pointer (some ap)) (hx : (loadVar t ap).run P w = .ok x w) : (results fn tmps).run P w = .ok (.tuple #[x, tmps.getD q undef, tmps.getD r undef]) w := by
  simp only [results, h, List.mapM_toArray]
  simp only [Array.getD_eq_getD_getElem?] at hp
  simp [Sem.run_bind, Result.andThen, hp, asAddr, hx]
theorem load_row25' (W : World) {b : Nat} {x y : Value} {t : TypeId} (h : W.heap[b]? = some (.cells #[x, y] t (0, 0))) : (loadVar 25 ⟨b, 0, none⟩).run Tryd.prog W = .ok (.agg #[x, y]) W :=
  run_loadVar_row W b t 25 #[x, y] (0, 0) _ h Tryd.underlying25 rfl (by kernel_rfl)
def box25 (w : World) : World := w.alloc (.cells #[.int .i64 0, .slice none 0 0] 25)

end Go.Proofs.YtlhpnkgdnmnclaaDoor
