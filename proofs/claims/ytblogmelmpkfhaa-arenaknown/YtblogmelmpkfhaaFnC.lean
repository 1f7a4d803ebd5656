/- What was put is found again: the places turned behind Collect. -/
import Derived.Test.YtblogmelmpkfhaaFnM
namespace Arn
def mix (M : List It) (q : Nat) : List Int := (refs (collect M) 0).take q ++ (refs M 0).drop q
end Arn
namespace Go.Proofs.Ytblogmelmpkfhaa
open Go.RowKit Go.Maps
set_option linter.unusedVariables false

/-- The state while places are turned. -/
structure Cst (n ab : Nat) (cs : List (List Int)) (W0 : World) (i : Nat) (M : List Arn.It) (ids : List Nat) (ro : Option Addr) (rc : Nat) (io : Option Addr) (ic k : Nat) (mo : Option Addr) (mc q : Nat) (W : World) : Prop where
  arx : Arx n ab 268435456 (Arn.collect M) W
  rf : W.ownsRow n 36 1 (.slice ro k rc) k ((Arn.mix M q).map (Value.int .i64))
  id : W.ownsRow n 3 1 (.slice io k ic) k ((nums ids).map (Value.int .i64))
  mvs : W.ownsRow n 63 2 (.slice mo k mc) k (mv (Arn.refs M 0) (Arn.refs (Arn.collect M) 0))
  bel : Below n W0 W
  lst : Arn.Lst cs i (Arn.collect M) ids
  len : ids.length = k
  nsz : n ≤ W0.heap.size
  oks : Arn.Oks M
  num : (Arn.refs M 0).length = k
theorem Cst.below {n ab : Nat} {cs : List (List Int)} {W0 : World} {i : Nat} {M : List Arn.It} {ids : List Nat} {ro : Option Addr} {rc : Nat} {io : Option Addr} {ic k : Nat} {mo : Option Addr} {mc q : Nat} {W W' : World} (h : Cst n ab cs W0 i M ids ro rc io ic k mo mc q W) (hb : Below W.heap.size W W') : Cst n ab cs W0 i M ids ro rc io ic k mo mc q W' :=
  ⟨h.arx.below hb, own_below h.rf hb, own_below h.id hb, own_below h.mvs hb, h.bel.trans (hb.mono (Nat.le_trans h.nsz h.bel.size)), h.lst, h.len, h.nsz, h.oks, h.num⟩
theorem Fst.coll {n ab : Nat} {cs : List (List Int)} {W0 : World} {i : Nat} {M : List Arn.It} {ids : List Nat} {ro : Option Addr} {rc : Nat} {io : Option Addr} {ic k : Nat} {W w1 : World} {v : Value} (h : Fst n ab cs W0 i M ids ro rc io ic k W) (hd : Did n ab 268435456 W (Arn.collect M) w1) (hm : w1.ownsRow W.heap.size 63 2 v (Arn.refs M 0).length (mv (Arn.refs M 0) (Arn.refs (Arn.collect M) 0))) :
    ∃ mo mc, v = .slice mo k mc ∧ Cst n ab cs W0 i M ids ro rc io ic k mo mc 0 w1 := by
  have hn := h.hn
  have hnum : (Arn.refs M 0).length = k := by rw [h.lst.len, h.len]
  rw [hnum] at hm
  obtain ⟨mo, mc, rfl⟩ := own_slc hm
  refine ⟨mo, mc, rfl, hd.1, ?_, own_fr h.id hd.2 (pA_not (by decide) (by decide)), own_base hm hn, h.bel.trans (hd.2.below hn), h.lst.collect h.oks, h.len, h.nsz, h.oks, hnum⟩
  show w1.ownsRow n 36 1 _ k (((Arn.refs (Arn.collect M) 0).take 0 ++ (Arn.refs M 0).drop 0).map (Value.int .i64))
  simp only [List.take_zero, List.drop_zero, List.nil_append]
  exact own_fr h.rf hd.2 (pA_not (by decide) (by decide))
theorem Cst.done {n ab : Nat} {cs : List (List Int)} {W0 : World} {i : Nat} {M : List Arn.It} {ids : List Nat} {ro : Option Addr} {rc : Nat} {io : Option Addr} {ic k : Nat} {mo : Option Addr} {mc : Nat} {W : World} (h : Cst n ab cs W0 i M ids ro rc io ic k mo mc k W) : Fst n ab cs W0 i (Arn.collect M) ids ro rc io ic k W := by
  refine ⟨h.arx, ?_, h.id, h.bel, h.lst, h.len, h.nsz⟩
  have := h.rf
  unfold Arn.mix at this
  have hl : (Arn.refs (Arn.collect M) 0).length = k := by rw [h.lst.len, h.len]
  rw [List.take_of_length_le (by omega), List.drop_eq_nil_of_le (by rw [h.num]; exact Nat.le_refl _), List.append_nil] at this
  exact this
theorem mv_at {fs ts : List Int} (hl : fs.length = ts.length) {j : Nat} (hj : j < fs.length) : (mv fs ts)[j * 2]? = some (.int .i64 (fs.getD j 0)) ∧ (mv fs ts)[j * 2 + 1]? = some (.int .i64 (ts.getD j 0)) := by
  induction fs generalizing ts j with
  | nil => simp at hj
  | cons f fs ih =>
    cases ts with
    | nil => simp at hl
    | cons t ts =>
      have e : mv (f :: fs) (t :: ts) = .int .i64 f :: .int .i64 t :: mv fs ts := by simp [mv]
      rw [e]
      cases j with
      | zero => exact ⟨rfl, rfl⟩
      | succ j =>
        rw [show (j + 1) * 2 = j * 2 + 1 + 1 by omega]
        simp only [List.getElem?_cons_succ]
        exact ih (by simpa using hl) (by simpa using hj)
theorem Cst.moves {n ab : Nat} {cs : List (List Int)} {W0 : World} {i : Nat} {M : List Arn.It} {ids : List Nat} {ro : Option Addr} {rc : Nat} {io : Option Addr} {ic k mg mc q : Nat} {W : World} (h : Cst n ab cs W0 i M ids ro rc io ic k (some ⟨mg, 0, none⟩) mc q W) {j : Nat} (hj : j < k) :
    W.cell? ⟨mg, j * 2, none⟩ = some (.int .i64 ((Arn.refs M 0).getD j 0)) ∧ W.cell? ⟨mg, j * 2 + 1, none⟩ = some (.int .i64 ((Arn.refs (Arn.collect M) 0).getD j 0)) := by
  have hl : (Arn.refs M 0).length = (Arn.refs (Arn.collect M) 0).length := (Arn.refs_collect_len M 0 0).symm
  have := mv_at hl (j := j) (by rw [h.num]; exact hj)
  exact ⟨(h.mvs.cellAt _ (by omega)).trans this.1, (h.mvs.cellAt _ (by omega)).trans this.2⟩
theorem mix_at {M : List Arn.It} {q : Nat} (hq : q < (Arn.refs M 0).length) : (Arn.mix M q)[q]? = some ((Arn.refs M 0).getD q 0) := by
  unfold Arn.mix
  have hl := Arn.refs_collect_len M 0 0
  rw [List.getElem?_append_right (by simp; omega)]
  simp only [List.length_take, List.getElem?_drop]
  rw [show q + (q - min q (Arn.refs (Arn.collect M) 0).length) = q by omega, List.getElem?_eq_getElem hq, List.getD, List.getElem?_eq_getElem hq]
  rfl
theorem mix_set {M : List Arn.It} {q : Nat} (hq : q < (Arn.refs M 0).length) : (Arn.mix M q).set q ((Arn.refs (Arn.collect M) 0).getD q 0) = Arn.mix M (q + 1) := by
  have hl := Arn.refs_collect_len M 0 0
  unfold Arn.mix
  rw [List.set_append_right _ _ (by simp; omega)]
  simp only [List.length_take]
  rw [show q - min q (Arn.refs (Arn.collect M) 0).length = 0 by omega, List.drop_eq_getElem_cons hq, List.set_cons_zero, List.take_succ_eq_append_getElem (by omega), List.append_assoc]
  simp [List.getD, List.getElem?_eq_getElem (show q < (Arn.refs (Arn.collect M) 0).length by omega)]
theorem Cst.at {n ab : Nat} {cs : List (List Int)} {W0 : World} {i : Nat} {M : List Arn.It} {ids : List Nat} {rg rc : Nat} {io : Option Addr} {ic k : Nat} {mo : Option Addr} {mc q : Nat} {W : World} (h : Cst n ab cs W0 i M ids (some ⟨rg, 0, none⟩) rc io ic k mo mc q W) (hq : q < k) :
    W.cell? ⟨rg, q, none⟩ = some (.int .i64 ((Arn.refs M 0).getD q 0)) ∧ W.frozen? ⟨rg, q, none⟩ = false := by
  refine ⟨?_, h.rf.frozenAt q⟩
  rw [h.rf.cellAt q (by omega), List.getElem?_map, mix_at (by rw [h.num]; exact hq)]
  rfl
theorem Cst.step {n ab : Nat} {cs : List (List Int)} {W0 : World} {i : Nat} {M : List Arn.It} {ids : List Nat} {rg rc : Nat} {io : Option Addr} {ic k : Nat} {mo : Option Addr} {mc q : Nat} {W : World} (h : Cst n ab cs W0 i M ids (some ⟨rg, 0, none⟩) rc io ic k mo mc q W) (hq : q < k) :
    Cst n ab cs W0 i M ids (some ⟨rg, 0, none⟩) rc io ic k mo mc (q + 1) (W.setCell ⟨rg, q, none⟩ (.int .i64 ((Arn.refs (Arn.collect M) 0).getD q 0))) := by
  have hst := h.rf.stored q (.int .i64 ((Arn.refs (Arn.collect M) 0).getD q 0))
  obtain ⟨hb, cur, hg⟩ := own_blk (g := rg) h.rf rfl
  have hF : Fr (pT 36) n W (W.setCell ⟨rg, q, none⟩ (.int .i64 ((Arn.refs (Arn.collect M) 0).getD q 0))) := Fr.set W _ hb (fun o ho => by
    have ho' : W.heap[rg]? = some o := ho
    rw [hg] at ho'; cases ho'; rfl)
  refine ⟨h.arx.kept hF (pT_pA (by decide) (by decide)), ?_, own_fr h.id hF (pT_not (by decide)), own_fr h.mvs hF (pT_not (by decide)), h.bel.trans (hF.below (Nat.le_trans h.nsz h.bel.size)), h.lst, h.len, h.nsz, h.oks, h.num⟩
  rw [← mix_set (by rw [h.num]; exact hq), List.map_set]
  exact hst.1
/-- Places rise: no two are one. -/
theorem refs_inj {M : List Arn.It} (hM : Arn.Oks M) {j q : Nat} (hj : j < q) (hq : q < (Arn.refs M 0).length) : (Arn.refs M 0).getD j 0 ≠ (Arn.refs M 0).getD q 0 := by
  have := List.pairwise_iff_getElem.1 (Arn.refs_sorted hM 0) j q (by omega) hq hj
  simp only [List.getD, List.getElem?_eq_getElem hq, List.getElem?_eq_getElem (show j < (Arn.refs M 0).length by omega), Option.getD_some]
  omega
end Go.Proofs.Ytblogmelmpkfhaa
