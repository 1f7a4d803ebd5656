/- What Model does with a word. -/
import Derived.Test.YtlhpnkgdnmnclaaDoorValW
import Derived.Test.YtlhpnkgdnmnclaaDoorStr
import Derived.Deep.AppendLies
namespace Dim
set_option linter.unusedVariables false
/-- The signs that the first k words give. -/
def bits (its : List (Nat × List Int)) (k : Nat) : List Bool := (((its.take k).map Prod.snd).filter isV).map sg
theorem bits_zero (its : List (Nat × List Int)) : bits its 0 = [] := rfl
theorem bits_on (its : List (Nat × List Int)) (k : Nat) (h : k < its.length) : bits its (k + 1) = if (its.getD k (0, [])).2 = [118] then bits its k else bits its k ++ [sg (its.getD k (0, [])).2] := by
  unfold bits
  have e : its.take (k + 1) = its.take k ++ [its.getD k (0, [])] := by
    rw [List.take_succ_eq_append_getElem h]; simp [List.getD, List.getElem?_eq_getElem h]
  rw [e, List.map_append, List.filter_append, List.map_append]
  by_cases hv : (its.getD k (0, [])).2 = [118]
  · rw [if_pos hv, List.map_cons, List.map_nil, hv]; simp [isV]
  · rw [if_neg hv, List.map_cons, List.map_nil, List.filter_cons, show isV (its.getD k (0, [])).2 = true by simpa [isV] using hv]; rfl
theorem bits_stop (its : List (Nat × List Int)) (k vars : Nat) (h : (bits its k).length = vars) : rd vars (its.map Prod.snd) = bits its k := by
  unfold rd
  have e : (its.map Prod.snd).filter isV = (((its.take k).map Prod.snd).filter isV) ++ (((its.drop k).map Prod.snd).filter isV) := by
    rw [← List.filter_append, ← List.map_append, List.take_append_drop]
  have hl : (((its.take k).map Prod.snd).filter isV).length = vars := by rw [← h]; simp [bits]
  rw [e, List.take_append_of_le_length (by omega), List.take_of_length_le (by omega)]
  rfl
theorem bits_end (its : List (Nat × List Int)) (vars : Nat) (h : (bits its its.length).length ≤ vars) : rd vars (its.map Prod.snd) = bits its its.length := by
  unfold rd
  have hl : (((its.take its.length).map Prod.snd).filter isV).length ≤ vars := by have := h; simpa [bits] using this
  rw [List.take_length] at hl
  rw [List.take_of_length_le hl]
  unfold bits
  rw [List.take_length]
theorem items_ne (ls : List (List Int)) : ∀ n, ∀ p ∈ items n ls, p.2 ≠ [] := by
  induction ls with
  | nil => intro n p hp; cases hp
  | cons l ls ih =>
    intro n p hp
    rw [items] at hp
    rcases List.mem_append.1 hp with hp | hp
    · obtain ⟨w, hw, rfl⟩ := List.mem_map.1 hp
      exact words_ne l w hw
    · exact ih (n + 1) p hp
end Dim
namespace Go.Proofs.YtlhpnkgdnmnclaaDoor
open Go.RowKit
set_option linter.unusedVariables false

theorem own_book {base n B : Nat} {c : Option Nat} {W W' : World} {mv : Value} {xs : List Value} (h : W.ownsRow base 4 1 mv n xs) (hb : Book c B W W') (hc : ∀ k, c = some k → k < base) : W'.ownsRow base 4 1 mv n xs := by
  refine ⟨h.1, h.2.imp id ?_⟩
  rintro ⟨g, cap, cur, h1, h2, h3, h4⟩
  exact ⟨g, cap, cur, h1, h2, hb.same g _ h3 (fun e => by have := hc g e; omega) (.inr rfl), h4⟩
theorem own_slice {base n : Nat} {W : World} {mv : Value} {xs : List Value} (h : W.ownsRow base 4 1 mv n xs) : ∃ a cap, mv = .slice a n cap := by
  rcases h.2 with ⟨rfl, rfl⟩ | ⟨g, cap, cur, rfl, _⟩
  · exact ⟨none, 0, rfl⟩
  · exact ⟨_, _, rfl⟩
theorem own_bools {base : Nat} {W : World} {a : Option Addr} {cap n : Nat} {bs : List Bool} (hn : bs.length = n) (h : W.ownsRow base 4 1 (.slice a n cap) n (bs.map Value.bool)) : Bools W a bs := by
  rcases h.2 with ⟨e, h0⟩ | ⟨g, cap', cur, e, h1, h2, h3, h4, h5, h6⟩
  · left; apply List.length_eq_zero_iff.1; omega
  · injection e with e1 e2 e3
    subst e1
    right
    refine ⟨g, 0, rfl, (Array.getElem?_eq_some_iff.1 h2).1, fun j hj => ?_⟩
    rw [Nat.zero_add, row_cell h2 j, ← Array.getElem?_toList]
    have := congrArg (fun l : List Value => l[j]?) h6
    simp only [Nat.mul_one] at this
    rw [List.getElem?_take_of_lt (by omega)] at this
    rw [this]
    simp [List.getD, List.getElem?_eq_getElem hj]
theorem info4 : (Tryd.prog.info? 4).map (fun i => (i.zero, i.size, i.bytes)) = some (some (.bool false), 1, 1) := by kernel_rfl

/-- A round that appends a sign to the row that the variable holds. -/
theorem sign_step {base mb n : Nat} {l : Nat} {W : World} {am : Option Addr} {capm : Nat} {xs : List Value} {b : Bool} (hown : W.ownsRow base 4 1 (.slice am n capm) n xs) (hbox : Boxed W mb 33 (.slice am n capm)) (hbs : base ≤ W.heap.size) (hn : n ≤ 1048576) (hmb : mb < base) :
    ∃ g cap w', (Builtin.append_ #[33, 33] 33 #[.slice am n capm, .slice (some ⟨W.heap.size, 0, none⟩) 1 1]).run Tryd.prog (W.drew.alloc (.cells #[.bool b] 4)) = .ok (.slice (some ⟨g, 0, none⟩) (n + 1) cap) w' ∧
      w'.cell? ⟨mb, 0, none⟩ = some (.slice am n capm) ∧ w'.frozen? ⟨mb, 0, none⟩ = false ∧
      (w'.setCell ⟨mb, 0, none⟩ (.slice (some ⟨g, 0, none⟩) (n + 1) cap)).ownsRow base 4 1 (.slice (some ⟨g, 0, none⟩) (n + 1) cap) (n + 1) (xs ++ [.bool b]) ∧
      Boxed (w'.setCell ⟨mb, 0, none⟩ (.slice (some ⟨g, 0, none⟩) (n + 1) cap)) mb 33 (.slice (some ⟨g, 0, none⟩) (n + 1) cap) ∧
      KeepsOthers W (w'.setCell ⟨mb, 0, none⟩ (.slice (some ⟨g, 0, none⟩) (n + 1) cap)) ∧ KeepS l W (w'.setCell ⟨mb, 0, none⟩ (.slice (some ⟨g, 0, none⟩) (n + 1) cap)) ∧
      (∀ k, k < base → k ≠ mb → (w'.setCell ⟨mb, 0, none⟩ (.slice (some ⟨g, 0, none⟩) (n + 1) cap)).heap[k]? = W.heap[k]?) ∧
      W.os = w'.os ∧ W.tape = w'.tape ∧ W.output = w'.output ∧ W.heap.size ≤ w'.heap.size := by
  obtain ⟨i0, hi, hz⟩ := Option.map_eq_some_iff.1 info4
  simp only [Prod.mk.injEq] at hz
  have hown' : (W.drew.alloc (.cells #[.bool b] 4)).ownsRow base 4 1 (.slice am n capm) n xs := World.ownsRow.alloc (w := W.drew) ⟨hown.1, hown.2⟩ _
  have hk := World.alloc_heap_new W.drew (.cells #[.bool b] 4)
  obtain ⟨g, cap, w', hr, h2, h3, h4, h5⟩ := run_append_lies (P := Tryd.prog) (w := W.drew.alloc (.cells #[.bool b] 4)) 33 33 base 4 i0 (.bool false) 1 1 Tryd.underlying33 hi hz.1 hz.2.1 hz.2.2 rfl (by decide)
    (.slice am n capm) n xs hown' ⟨W.heap.size, 0, none⟩ 1 1 [.bool b] rfl (World.news_of_block hk) (by intro u hu; simp at hu; subst hu; rfl) (by decide) (by unfold maxLen; omega) (by omega) (Nat.le_trans hbs (by simp)) _ rfl
  have hbox' : Boxed (W.drew.alloc (.cells #[.bool b] 4)) mb 33 (.slice am n capm) := (Boxed.alloc (W := W.drew) hbox _)
  have hnr : some mb ≠ (Value.slice am n capm).ownBlock := hbox'.not_row (by decide) hown'
  have hbox2 : Boxed w' mb 33 (.slice am n capm) := hbox'.kept h3 hnr
  have hgm : ∀ k, (Value.slice am n capm).ownBlock = some k → base ≤ k ∧ k < W.heap.size ∧ ∃ cs fr, W.heap[k]? = some (.cells cs 4 fr) := by
    intro k hk'
    rcases hown.2 with ⟨e, _⟩ | ⟨g', cap', cur, e, q1, q2, _⟩
    · rw [e] at hk'; cases hk'
    · rw [e] at hk'
      have : g' = k := by simpa [Value.ownBlock] using hk'
      subst this
      exact ⟨q1, (Array.getElem?_eq_some_iff.1 q2).1, _, _, q2⟩
  have hblk : ∀ k, k < W.heap.size → some k ≠ (Value.slice am n capm).ownBlock → w'.heap[k]? = W.heap[k]? := fun k hk1 hk2 => (h3.block k (by simp; omega) hk2).trans (Below.heap_alloc W.drew _ k hk1)
  have hne_g : g ≠ mb := by
    rcases h4 with h4 | h4
    · have := (hgm g h4).1; omega
    · have e1 : (W.drew.alloc (.cells #[.bool b] 4)).heap.size = W.heap.size + 1 := by simp
      rw [e1] at h4
      have := hbox.lt; omega
  refine ⟨g, cap, w', hr, hbox2.cell, hbox2.frozen, ?_, hbox2.set _, ?_, ?_, ?_, h3.os.symm, h3.tape.symm, h3.output.symm, Nat.le_trans (by simp) h3.size⟩
  · refine ⟨h2.1, h2.2.imp id ?_⟩
    rintro ⟨g', cap', cur, e0, q1, q2, q3⟩
    have e1 : g = g' := by
      have := congrArg Value.ownBlock e0
      simpa [Value.ownBlock] using this
    subst e1
    exact ⟨g, cap', cur, e0, q1, (heap_other _ _ hne_g).trans q2, q3⟩
  · refine (KeepsOthers.drew W).trans ((KeepsOthers.alloc _ _).trans ((KeepsOthers.of_grownBy h3 ?_).trans (KeepsOthers.setCell _ _ _)))
    intro j o hj ho
    obtain ⟨_, hlt, cs, fr, hc⟩ := hgm j hj
    have := (Below.heap_alloc W.drew (.cells #[.bool b] 4) j hlt).symm.trans ho
    rw [show W.drew.heap[j]? = W.heap[j]? from rfl, hc] at this
    rw [← Option.some.inj this]
    rfl
  · refine ⟨?_, fun k o hk1 ho hl => ?_, fun k cs t fr hk1 ht => ?_⟩
    · have := h3.size; simp [World.setCell] at this ⊢; omega
    · have hlt := (Array.getElem?_eq_some_iff.1 hk1).1
      have h1 : some k ≠ (Value.slice am n capm).ownBlock := fun e => by
        obtain ⟨_, _, cs, fr, hc⟩ := hgm k e.symm
        rw [hc] at hk1; cases hk1; cases ho
      have h2' : k ≠ mb := by rintro rfl; rw [show W.heap[k]? = _ from hbox] at hk1; cases hk1; cases ho
      exact (heap_other _ _ h2').trans ((hblk k hlt h1).trans hk1)
    · have hlt := (Array.getElem?_eq_some_iff.1 hk1).1
      have h1 : some k ≠ (Value.slice am n capm).ownBlock := fun e => by
        obtain ⟨_, _, cs', fr', hc⟩ := hgm k e.symm
        rw [hc] at hk1; cases hk1
        rcases ht with h | h | h | h | h <;> cases h
      have h2' : k ≠ mb := by
        rintro rfl; rw [show W.heap[k]? = _ from hbox] at hk1; cases hk1
        rcases ht with h | h | h | h | h <;> cases h
      exact (heap_other _ _ h2').trans ((hblk k hlt h1).trans hk1)
  · intro k hk1 hk2
    refine (heap_other _ _ hk2).trans (hblk k (by omega) (fun e => ?_))
    have := (hgm k e.symm).1
    omega
end Go.Proofs.YtlhpnkgdnmnclaaDoor
