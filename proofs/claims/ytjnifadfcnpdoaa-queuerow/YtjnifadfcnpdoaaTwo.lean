/- Two rows with the same numbers; appending two. -/
import Derived.Test.YtjnifadfcnpdoaaBpd
namespace Go.Proofs.Ytjnifadfcnpdoaa
open Go.RowKit Go.Maps
set_option linter.unusedVariables false
set_option maxRecDepth 100000

namespace Qp
theorem bL_same {n : Nat} {l l' : List Int} (h : ∀ x, x ∈ l ↔ x ∈ l') (L : List Nat) (st : List Int) : bL n l L = bL n l' L ∧ bS n l L st = bS n l' L st ∧ bE n l = bE n l' := by
  have e1 : okB n l = okB n l' := by
    rw [Bool.eq_iff_iff, okB_iff, okB_iff]
    exact ⟨fun k x hx => k x ((h x).2 hx), fun k x hx => k x ((h x).1 hx)⟩
  have e2 : inL l = inL l' := by
    funext v
    unfold inL
    rw [decide_eq_decide]
    exact h _
  have e3 : gone l L = gone l' L := by unfold gone; rw [e2]
  have e4 : bmp l L = bmp l' L := by unfold bmp stay gone; rw [e2]
  refine ⟨?_, ?_, ?_⟩
  · unfold bL; rw [e1, e4]
  · unfold bS; rw [e1, e3]
  · unfold bE; rw [e1]
/-- Turned round, each twice. -/
def tw (l : List Int) : List Int := l.reverse.flatMap (fun x => [x, x])
theorem tw_mem (l : List Int) (x : Int) : x ∈ l ↔ x ∈ tw l := by
  simp [tw]
theorem tw_len (l : List Int) : (tw l).length = 2 * l.length := by
  induction l with
  | nil => rfl
  | cons x l ih =>
    unfold tw at *
    rw [List.reverse_cons, List.flatMap_append, List.length_append, ih]
    simp; omega
theorem tw_cons (x : Int) (l : List Int) : tw (x :: l) = tw l ++ [x, x] := by
  unfold tw
  rw [List.reverse_cons, List.flatMap_append]
  simp
theorem drop_at {l : List Int} {k : Nat} (h : k < l.length) : l.drop k = l.getD k 0 :: l.drop (k + 1) := by
  rw [List.drop_eq_getElem_cons h, List.getD_eq_getElem?_getD, List.getElem?_eq_getElem h]; rfl
end Qp
theorem app2 {W : World} {base n : Nat} {va : Value} {xs : List Int} (h : W.ownsRow base 3 1 va n (iss xs)) (hbs : base ≤ W.heap.size) (x y : Int) (hn : n ≤ 1048576) :
    ∃ g c X, (Builtin.append_ #[32, 32] 32 #[va, .slice (some ⟨W.heap.size, 0, none⟩) 2 2]).run Try.prog (W.alloc (.cells #[.int .i64 x, .int .i64 y] 3)) = .ok (.slice (some ⟨g, 0, none⟩) (n + 2) c) X ∧ X.ownsRow base 3 1 (.slice (some ⟨g, 0, none⟩) (n + 2) c) (n + 2) (iss (xs ++ [x, y])) ∧ Fq (fun q => va.ownBlock ≠ some q) W X ∧ (va.ownBlock = some g ∨ W.heap.size ≤ g) := by
  obtain ⟨i0, hi, hz⟩ := Option.map_eq_some_iff.1 info3
  simp only [Prod.mk.injEq] at hz
  have hal := below_box W (.cells #[.int .i64 x, .int .i64 y] 3)
  have hsz : (W.alloc (.cells #[.int .i64 x, .int .i64 y] 3)).heap.size = W.heap.size + 1 := by simp
  obtain ⟨g, c, X, hr, hown, hgr, hat, hlt⟩ := run_append_lies (P := Try.prog) (W.alloc (.cells #[.int .i64 x, .int .i64 y] 3)) 32 32 base 3 i0 _ 1 8 Try.underlying32 hi hz.1 hz.2.1 hz.2.2 rfl (by decide) va n _ (own_below h hal)
    ⟨W.heap.size, 0, none⟩ 2 2 [.int .i64 x, .int .i64 y] rfl (World.news_of_block (heap_alloc_new W (.cells #[.int .i64 x, .int .i64 y] 3))) (by intro u hu; rcases List.mem_cons.1 hu with e | hu; rw [e]; rfl; rw [List.mem_singleton.1 hu]; rfl) (by decide) (by unfold maxLen; omega) (by omega) (by rw [hsz]; omega) _ hsz
  refine ⟨g, c, X, hr, by rw [show iss (xs ++ [x, y]) = iss xs ++ [.int .i64 x, .int .i64 y] by simp [iss]]; exact hown, (Fq.of_below hal).trans (Fq.grown hgr (fun k e hk => hk e)), hat.imp id (fun e => by omega)⟩
theorem iss_iw {W : World} {base n : Nat} {o : Option Addr} {c : Nat} {xs : List Int} (h : W.ownsRow base 3 1 (.slice o n c) n (iss xs)) : Iw W o xs := by
  have hl := iss_len h
  rcases Nat.eq_zero_or_pos n with h0 | h0
  · left; exact List.eq_nil_of_length_eq_zero (hl.trans h0)
  · obtain ⟨g, c', cur, e, _⟩ := own_some h h0
    cases e
    refine .inr ⟨g, 0, rfl, fun j hj => ?_⟩
    rw [Nat.zero_add, (own_cell h (by omega)).1, iss_at hj]
/-- Two queues side by side. -/
structure Qq (N : Nat) (A B : Adr) (n : Nat) (K : Int) (p q : Qst) (W : World) : Prop where
  a : Qn N A n K p.1 p.2 W
  b : Qn N B n K q.1 q.2 W
  ap : ∀ g, A.own g → ¬ B.own g
theorem Qq.below {N : Nat} {A B : Adr} {n : Nat} {K : Int} {p q : Qst} {W W' : World} (h : Qq N A B n K p q W) (hb : Below W.heap.size W W') : Qq N A B n K p q W' := ⟨h.a.below hb, h.b.below hb, h.ap⟩
theorem Qn.keep {N : Nat} {A B : Adr} {n : Nat} {K : Int} {L : List Nat} {st : List Int} {W W' : World} (H : Qn N A n K L st W) (hf : Fa B W W') (hap : ∀ g, A.own g → ¬ B.own g) : Qn N A n K L st W' := ⟨H.qx.keep hf hap, H.new, H.all, H.k0⟩
end Go.Proofs.Ytjnifadfcnpdoaa
