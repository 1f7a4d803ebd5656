/- All popped, one behind the other: what is out, what is in, what was told. -/
import Derived.Test.YtjbnkkjihcoojaaLaw6
namespace Go.Proofs.Ytjbnkkjihcoojaa
open Go.RowKit Go.Maps
set_option linter.unusedVariables false
set_option maxRecDepth 100000

theorem app3g {W : World} {base n : Nat} {va : Value} {L : List Nat} (h : W.ownsRow base 3 1 va n (ivs L)) (hbs : base ≤ W.heap.size) (u : Nat) (hn : n ≤ 1048576) :
    ∃ g c X, (Builtin.append_ #[42, 42] 42 #[va, .slice (some ⟨W.heap.size, 0, none⟩) 1 1]).run Try.prog (W.alloc (.cells #[.int .i64 ((u : Int) + 1)] 3)) = .ok (.slice (some ⟨g, 0, none⟩) (n + 1) c) X ∧ X.ownsRow base 3 1 (.slice (some ⟨g, 0, none⟩) (n + 1) c) (n + 1) (ivs (L ++ [u])) ∧ Fq (fun q => va.ownBlock ≠ some q) W X ∧ (va.ownBlock = some g ∨ W.heap.size ≤ g) := by
  obtain ⟨i0, hi, hz⟩ := Option.map_eq_some_iff.1 info3
  simp only [Prod.mk.injEq] at hz
  have hal := below_box W (.cells #[.int .i64 ((u : Int) + 1)] 3)
  have hsz : (W.alloc (.cells #[.int .i64 ((u : Int) + 1)] 3)).heap.size = W.heap.size + 1 := by simp
  obtain ⟨g, c, X, hr, hown, hgr, hat, hlt⟩ := run_append_lies (P := Try.prog) (W.alloc (.cells #[.int .i64 ((u : Int) + 1)] 3)) 42 42 base 3 i0 _ 1 8 Try.underlying42 hi hz.1 hz.2.1 hz.2.2 rfl (by decide) va n _ (own_below h hal)
    ⟨W.heap.size, 0, none⟩ 1 1 [.int .i64 ((u : Int) + 1)] rfl (World.news_of_block (heap_alloc_new W (.cells #[.int .i64 ((u : Int) + 1)] 3))) (by intro u hu; rw [List.mem_singleton.1 hu]; rfl) (by decide) (by unfold maxLen; omega) (by omega) (by rw [hsz]; omega) _ hsz
  refine ⟨g, c, X, hr, by rw [show ivs (L ++ [u]) = ivs L ++ [.int .i64 ((u : Int) + 1)] by simp [ivs]]; exact hown, (Fq.of_below hal).trans (Fq.grown hgr (fun k e hk => hk e)), hat.imp id (fun e => by omega)⟩
structure PopI (W : World) (hb n : Nat) (sc : List Int) (L : List Nat) (o : Option Addr) (t c : Nat) (i j : Nat) (ov : Value) (M : Nat → Prop) (w : World) : Prop where
  hx : Hx M hb n sc (L.drop i) w
  row : w.ownsRow W.heap.size 3 1 (.slice o t c) t (ivs L)
  rm : ∀ g, (Value.slice o t c).ownBlock = some g → ¬ M g
  out : w.ownsRow W.heap.size 3 1 ov j (ivs (L.take j))
  om : ∀ g, ov.ownBlock = some g → ¬ M g
  ne : ∀ g, ov.ownBlock = some g → (Value.slice o t c).ownBlock ≠ some g
  top : ∀ g, M g → W.heap.size ≤ g
  bel : Below W.heap.size W w
def PopJ (W : World) (hb n : Nat) (sc : List Int) (L : List Nat) (o : Option Addr) (t c : Nat) (i j : Nat) (ov : Value) (w : World) : Prop := ∃ M, PopI W hb n sc L o t c i j ov M w
theorem own_lt {W : World} {base e n : Nat} {v : Value} {xs : List Value} (h : W.ownsRow base e 1 v n xs) {g : Nat} (hg : v.ownBlock = some g) : base ≤ g ∧ g < W.heap.size := by
  obtain ⟨h1, c, h2⟩ := own_blk h hg
  exact ⟨h1, lt_of_blk h2⟩
/-- What a call of the heap leaves. -/
theorem PopI.next {W : World} {hb n : Nat} {sc : List Int} {L : List Nat} {o : Option Addr} {t c i i' j : Nat} {ov : Value} {M : Nat → Prop} {w w' : World} (h : PopI W hb n sc L o t c i j ov M w) (k : HxO M hb n sc (L.drop i') w w') : PopJ W hb n sc L o t c i' j ov w' := by
  have hs := h.bel.size
  refine ⟨_, k.1, own_fq h.row k.2 (fun g e => ⟨(own_lt h.row e).2, h.rm g e⟩), ?_, own_fq h.out k.2 (fun g e => ⟨(own_lt h.out e).2, h.om g e⟩), ?_, h.ne, ?_, ?_⟩
  · rintro g e (hm | hm)
    · exact h.rm g e hm
    · have := (own_lt h.row e).2; omega
  · rintro g e (hm | hm)
    · exact h.om g e hm
    · have := (own_lt h.out e).2; omega
  · rintro g (hm | hm)
    · exact h.top g hm
    · omega
  · exact h.bel.trans (k.2.below hs (fun g hg => ⟨by omega, fun hm => by have := h.top g hm; omega⟩))
theorem PopI.below {W : World} {hb n : Nat} {sc : List Int} {L : List Nat} {o : Option Addr} {t c i j : Nat} {ov : Value} {M : Nat → Prop} {w w' : World} (h : PopI W hb n sc L o t c i j ov M w) (hb' : Below w.heap.size w w') : PopJ W hb n sc L o t c i j ov w' := h.next (h.hx.below hb')
theorem PopJ.below {W : World} {hb n : Nat} {sc : List Int} {L : List Nat} {o : Option Addr} {t c i j : Nat} {ov : Value} {w w' : World} (h : PopJ W hb n sc L o t c i j ov w) (hb' : Below w.heap.size w w') : PopJ W hb n sc L o t c i j ov w' := by
  obtain ⟨M, h⟩ := h
  exact h.below hb'
/-- One more is out. -/
theorem PopJ.more {W : World} {hb n : Nat} {sc : List Int} {L : List Nat} {o : Option Addr} {t c i j : Nat} {ov : Value} {w : World} (h : PopJ W hb n sc L o t c i j ov w) (hj : j < L.length) (hjl : j ≤ 1048576) :
    ∃ g c9 X, (Builtin.append_ #[42, 42] 42 #[ov, .slice (some ⟨w.heap.size, 0, none⟩) 1 1]).run Try.prog (w.alloc (.cells #[.int .i64 ((L.getD j 0 : Nat) + 1 : Int)] 3)) = .ok (.slice (some ⟨g, 0, none⟩) (j + 1) c9) X ∧ PopJ W hb n sc L o t c i (j + 1) (.slice (some ⟨g, 0, none⟩) (j + 1) c9) X := by
  obtain ⟨M, h⟩ := h
  have hs := h.bel.size
  obtain ⟨g, c9, X, hr, ho, hf, hg⟩ := app3g h.out hs (L.getD j 0) hjl
  refine ⟨g, c9, X, hr, fun g => M g ∧ g < w.heap.size, ?_, own_fq h.row hf (fun q e e2 => h.ne q e2 e), fun q e hm => h.rm q e hm.1, ?_, ?_, ?_, fun q hm => h.top q hm.1, ?_⟩
  · obtain ⟨sv, pv, lv, vs, pl, h1, h2⟩ := h.hx
    have hin : ∀ q, ¬ Qm M w q → q < w.heap.size → ov.ownBlock ≠ some q := fun q hq hl e => h.om q e (Classical.byContradiction fun hm => hq ⟨hl, hm⟩)
    have hl := h1.lts
    refine ⟨sv, pv, lv, vs, pl, ((h1.keep hf (hin _ h1.nh hl.1) (fun q e => hin q (h1.ns q e) (hl.2.1 q e)) (fun q e => hin q (h1.np q e) (hl.2.2.1 q e)) (fun q e => hin q (h1.nl q e) (hl.2.2.2 q e)))).more w.heap.size (fun q hq => ?_) hl, h2⟩
    rcases Nat.lt_or_ge q w.heap.size with k | k
    · exact .inl ⟨k, fun hm => hq.2 ⟨hm, k⟩⟩
    · exact .inr ⟨k, hq.1⟩
  · rw [List.take_succ_eq_append_getElem hj, ← Hpp.getD_el L hj]
    exact ho
  · intro q e hm
    obtain rfl : g = q := by injection e
    rcases hg with hg | hg
    · exact h.om _ hg hm.1
    · have := hm.2; omega
  · intro q e e2
    obtain rfl : g = q := by injection e
    rcases hg with hg | hg
    · exact h.ne _ hg e2
    · have := (own_lt h.row e2).2; omega
  · exact h.bel.trans (hf.below hs (fun q hq e => by have := (own_lt h.out e).1; omega))
end Go.Proofs.Ytjbnkkjihcoojaa
