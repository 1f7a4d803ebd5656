/- Saved. -/
import Derived.Test.YtkodfojccodoaaaPn
namespace Go.Proofs.Ytkodfojccodoaaa
open Go.RowKit Go.Maps
set_option linter.unusedVariables false
set_option linter.unusedSimpArgs false
set_option maxRecDepth 100000

def CloneOut (el : TypeId) (w : World) (xs : List Value) (n : Nat) (e : Ending) (w' : World) : Prop :=
  ∃ o k, e = .returned (.slice o n k) ∧ w'.ownsRow w.heap.size el 1 (.slice o n k) n xs ∧ Below w.heap.size w w'
theorem own_slc' {W : World} {base n e size : Nat} {v : Value} {xs : List Value} (h : W.ownsRow base e size v n xs) : ∃ o c, v = .slice o n c := own_slc h
set_option maxHeartbeats 2000000 in
theorem clone26 (g0 : Nat) (n c : Nat) (xs : List Value) (w : World) (hb : n ≤ 16777216) (hx : ∀ j u, xs[j]? = some u → w.cell? ⟨g0, j, none⟩ = some u) (hbl : 0 < n → g0 < w.heap.size) (hn : xs.length = n) (h1 : ∀ u ∈ xs, u.oneCell' = true) :
    Calls Try.prog 26 #[.slice (some ⟨g0, 0, none⟩) n c] w fun e w' => CloneOut 4 w xs n e w' := by
  obtain ⟨i0, hi, hz⟩ := Option.map_eq_some_iff.1 info4
  simp only [Prod.mk.injEq] at hz
  have hB1 := below_box w (.cells #[] 4)
  have hx1 : (w.alloc (.cells #[] 4)).heap[w.heap.size]? = some (.cells #[] 4 (0, 0)) := heap_alloc_new _ _
  have hl1 : ∀ j u, xs[j]? = some u → (w.alloc (.cells #[] 4)).cell? ((⟨g0, 0, none⟩ : Addr).add j) = some u := fun j u hu => by
    have hj : j < xs.length := by
      rcases Nat.lt_or_ge j xs.length with h' | h'
      · exact h'
      · rw [List.getElem?_eq_none h'] at hu; cases hu
    rw [show (⟨g0, 0, none⟩ : Addr).add j = ⟨g0, j, none⟩ by simp [Addr.add]; omega]
    exact (hB1.cell (p := ⟨g0, j, none⟩) (hbl (by omega))).trans (hx j u hu)
  have hs1 : w.heap.size ≤ (w.alloc (.cells #[] 4)).heap.size := by simp
  generalize hW1 : w.alloc (.cells #[] 4) = W1 at hB1 hx1 hl1 hs1
  have ho1 : W1.ownsRow w.heap.size 4 1 (.slice (some ⟨w.heap.size, 0, none⟩) 0 0) 0 [] := ⟨rfl, .inr ⟨w.heap.size, 0, #[], rfl, Nat.le_refl _, hx1, Nat.le_refl _, Nat.zero_le _, rfl, rfl⟩⟩
  obtain ⟨v2, B, hr, ho2, hgb, _, _⟩ := run_append_own_at (P := Try.prog) W1 w.heap.size 45 45 4 i0 _ 1 1 Try.underlying45 hi hz.1 hz.2.1 hz.2.2 rfl (by decide) (.slice (some ⟨w.heap.size, 0, none⟩) 0 0) 0 [] ho1 ⟨g0, 0, none⟩ n c xs (by omega) hl1 h1 (by simp [maxLen]; omega) (by omega) (by omega)
  obtain ⟨o, k, rfl⟩ := own_slc ho2
  rw [Nat.zero_add] at hr ho2
  rw [List.nil_append] at ho2
  have HR := hid hr
  have HF : Hid (CloneOut 4 w xs n (.returned (.slice o n k)) B) := ⟨o, k, rfl, ho2, by
    refine hB1.trans ?_
    exact ⟨hgb.os, hgb.tape, hgb.output, hgb.size, fun q hq => hgb.block q (by omega) (by show some q ≠ some w.heap.size; intro e; injection e with e; omega)⟩⟩
  clear hi hz hB1 hx1 hl1 hs1 ho1 hr ho2 hgb hx hn hbl
  have hnil : ∀ W, (binOp .eql 45 (.slice (some ⟨g0, 0, none⟩) n c) (.slice none 0 0)).run Try.prog W = .ok (.bool false) W := fun W => by kernel_rfl
  go_enter Try.func26, Try.ntmps26
  go_wp2_with (at_builtin; refine wpList_append_run rfl (.tmp 5) (.tmp 6) 45 45 rfl rfl rfl HR.out ?_)
  go_ret
  exact HF.out
def SavedO (n : Nat) (P : Ph.St) (W : World) (e : Ending) (w' : World) : Prop :=
  ∃ o k, e = .returned (.slice o n k) ∧ w'.ownsRow W.heap.size 4 1 (.slice o n k) n (bls P.sv) ∧ Below W.heap.size W w'
theorem Pn.saved {N : Nat} {A : Adr} {n : Nat} {K : Int} {P : Ph.St} {W : World} (H : Pn N A n K P W) :
    Calls Try.prog 18 #[.pointer (some ⟨A.pb, 0, none⟩)] W fun e w' => SavedO n P W e w' := by
  obtain ⟨nt, mt, nb, mb, q, _⟩ := H.px
  have hn := H.hn
  have hmx := q.mx
  have C := hid (clone26 A.gs A.n A.cs (bls P.sv) W (by omega) (fun j u hu => by
      have hj : j < A.n := by
        rcases Nat.lt_or_ge j (bls P.sv).length with h' | h'
        · simpa [bls, q.ls] using h'
        · rw [List.getElem?_eq_none h'] at hu; cases hu
      have := (own_cell (q.rs (by omega)) hj).1
      rw [this]
      exact hu) (fun h0 => q.ltsz (.inr ⟨h0, .inl rfl⟩)) (by simp [bls, q.ls]) (fun u hu => by
      obtain ⟨b, _, rfl⟩ := List.mem_map.1 hu
      rfl))
  have c1 := q.cells.2.1
  rw [hn] at C c1
  have HE : SavedO n P W = CloneOut 4 W (bls P.sv) n := rfl
  rw [show (fun e w' => SavedO n P W e w') = CloneOut 4 W (bls P.sv) n from HE]
  clear q hn hmx H HE
  go_enter Try.func18, Try.ntmps18
  go_wp2_with (go_at_call 26; refine C.out.mono ?_; rintro e w4 ⟨o, k, rfl, h1, h2⟩)
  go_ret
  exact ⟨o, k, rfl, h1, h2⟩
end Go.Proofs.Ytkodfojccodoaaa
