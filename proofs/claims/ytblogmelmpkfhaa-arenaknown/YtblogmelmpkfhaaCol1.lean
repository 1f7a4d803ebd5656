/- Collect: a clause comes to its new place, in memory. -/
import Derived.Test.YtblogmelmpkfhaaCol0
import Derived.Test.YtblogmelmpkfhaaPut0
import Derived.Laws.CopyRow
namespace Go.Proofs.Ytblogmelmpkfhaa
open Go.RowKit Go.Maps
set_option linter.unusedVariables false

/-- Moves, as they lie. -/
def mv (fs ts : List Int) : List Value := (fs.zip ts).flatMap (fun p => [Value.int .i64 p.1, Value.int .i64 p.2])
theorem mv_snoc {fs ts : List Int} (h : fs.length = ts.length) (f t : Int) : mv (fs ++ [f]) (ts ++ [t]) = mv fs ts ++ [.int .i64 f, .int .i64 t] := by
  unfold mv
  rw [List.zip_append h]
  simp
theorem mv_len {fs ts : List Int} (h : fs.length = ts.length) : (mv fs ts).length = fs.length * 2 := by
  unfold mv
  rw [List.length_flatMap]
  simp only [List.length_cons, List.length_nil]
  rw [List.map_const', List.sum_replicate_nat, List.length_zip, h, Nat.min_self]
def mvL (A : List Arn.It) (R : Nat) : List Value := mv (Arn.refs A 0) (Arn.refs (Arn.collect A) 0) ++ List.replicate (2 * (R - (Arn.refs A 0).length)) (.int .i64 0)
theorem refs_step {A D : List Arn.It} {x : Arn.It} (hD : Arn.Dead D) (hx : x.dead = false) : Arn.refs (A ++ D ++ [x]) 0 = Arn.refs A 0 ++ [(Arn.size (A ++ D) : Int)] ∧ Arn.refs (Arn.collect (A ++ D ++ [x])) 0 = Arn.refs (Arn.collect A) 0 ++ [(Arn.size (Arn.collect A) : Int)] := by
  constructor
  · rw [Arn.refs_append, Arn.refs_append, Arn.refs_dead hD, List.append_nil, Arn.refs_cons, if_neg (by simp [hx]), Int.zero_add]
    rfl
  · rw [Arn.collect_append, Arn.collect_append, Arn.collect_dead hD, Arn.collect_live x hx, List.append_nil, Arn.refs_append, Arn.refs_cons, if_neg (by simp [Arn.It.tight, hx]), Int.zero_add]
    rfl
theorem mvL_step {A D : List Arn.It} {x : Arn.It} (hD : Arn.Dead D) (hx : x.dead = false) (R i : Nat) (hi : (Arn.refs A 0).length = i) (hR : i < R) :
    ((mvL A R).set (i * 2) (.int .i64 (Arn.size (A ++ D) : Int))).set (i * 2 + 1) (.int .i64 (Arn.size (Arn.collect A) : Int)) = mvL (A ++ D ++ [x]) R := by
  obtain ⟨r1, r2⟩ := refs_step (A := A) hD hx
  have hl := Arn.refs_collect_len A 0 0
  have hml := mv_len hl.symm
  rw [hi] at hml
  unfold mvL
  rw [r1, r2, mv_snoc hl.symm, List.length_append, hi]
  obtain ⟨q, hq⟩ : ∃ q, R - i = q + 1 := ⟨R - i - 1, by omega⟩
  rw [hq, show R - (i + [((Arn.size (A ++ D) : Nat) : Int)].length) = q by simp; omega, show 2 * (q + 1) = 2 * q + 1 + 1 by omega, List.replicate_succ, List.replicate_succ]
  rw [List.set_append_right _ _ (by omega), hml, Nat.sub_self, List.set_cons_zero, List.set_append_right _ _ (by omega), hml, show i * 2 + 1 - i * 2 = 1 by omega, List.set_cons_succ, List.set_cons_zero]
  simp
theorem mvL_len {A : List Arn.It} {R : Nat} (h : (Arn.refs A 0).length ≤ R) : (mvL A R).length = R * 2 := by
  have hl := Arn.refs_collect_len A 0 0
  unfold mvL
  rw [List.length_append, mv_len hl.symm, List.length_replicate]
  omega

/-- The arena while it is put together. -/
structure Cm (n ab lim bm nm G R g c : Nat) (W0 : World) (M A B : List Arn.It) (ws : List Int) (W : World) : Prop where
  nab : n ≤ ab
  ng : n ≤ g
  ok : Arn.Oks M
  fit : Arn.size M ≤ 268435456
  cap : Arn.size M ≤ c
  capm : c ≤ maxLen
  blk : W.heap[ab]? = some (.cells #[.int .i64 lim, .slice (some ⟨g, 0, none⟩) (Arn.size M) c, .map (some bm), .int .i64 (Arn.waste M : Nat)] 69 (0, 0))
  own : W.ownsRow n 84 1 (.slice (some ⟨g, 0, none⟩) (Arn.size M) c) (Arn.size M) (ws.map (Value.int .u32))
  mid : Arn.Mid M A B ws
  map : Mp W nm (Arn.refs A 0).length (fun r => (Arn.at? (Arn.collect A) r).map (fun _ => .agg #[]))
  mvs : W.ownsRow W0.heap.size 63 2 (.slice (some ⟨G, 0, none⟩) R R) R (mvL A R)
  num : (Arn.refs M 0).length = R
  fr : Fr pA n W0 W
  new : W0.heap.size ≤ nm
  bel : Below n W0 W
  nsz : n ≤ W0.heap.size
theorem Cm.word {n ab lim bm nm G R g c : Nat} {W0 : World} {M A D C : List Arn.It} {x : Arn.It} {ws : List Int} {W : World} (h : Cm n ab lim bm nm G R g c W0 M A (D ++ x :: C) ws W) (j : Nat) (hj : j < x.room) :
    W.cell? ⟨g, Arn.size (A ++ D) + j, none⟩ = some (.int .u32 (x.cells.getD j 0)) := by
  have hlen := Arn.mid_len h.ok h.mid
  have hs : Arn.size M = Arn.size (A ++ D) + (x.room + Arn.size C) := by rw [h.mid.1]; simp [Arn.size_append, Arn.size]; omega
  rw [h.own.cellAt _ (by omega), ← Arn.mid_words h.ok h.mid j hj, List.getElem?_map, List.getD]
  have : Arn.size (A ++ D) + j < ws.length := by rw [hlen]; omega
  rw [List.getElem?_eq_getElem this]
  rfl
theorem info84s : (Try.prog.info? 84).map (·.size) = some 1 := by kernel_rfl
theorem own2_set {W : World} {base e size g n cap : Nat} {v u : Value} {k : Nat} {xs : List Value} (h : W.ownsRow base e size (.slice (some ⟨g, 0, none⟩) n cap) n xs) {b : Nat} (hb : b ≠ g) (u : Value) : (W.setCell ⟨b, k, none⟩ u).ownsRow base e size (.slice (some ⟨g, 0, none⟩) n cap) n xs :=
  h.kept ⟨rfl, rfl, rfl, by simp [World.setCell], fun q _ hq => heap_other W _ (fun e => hq (by rw [e]))⟩ (row := some b) (.inr (by simp [Value.ownBlock]; exact fun e => hb e.symm))
theorem own_ne {W : World} {b1 e1 s1 b2 e2 s2 n1 n2 c1 c2 g1 g2 : Nat} {xs ys : List Value} (h1 : W.ownsRow b1 e1 s1 (.slice (some ⟨g1, 0, none⟩) n1 c1) n1 xs) (h2 : W.ownsRow b2 e2 s2 (.slice (some ⟨g2, 0, none⟩) n2 c2) n2 ys) (he : e1 ≠ e2) : g1 ≠ g2 := by
  rintro rfl
  obtain ⟨_, cur1, q1⟩ := own_blk h1 rfl
  obtain ⟨_, cur2, q2⟩ := own_blk h2 rfl
  rw [q1] at q2
  injection q2 with e; injection e with _ e; exact he e
end Go.Proofs.Ytblogmelmpkfhaa
