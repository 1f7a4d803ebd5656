/- What was put is found again: the rows of places and of numbers. -/
import Derived.Test.YtblogmelmpkfhaaKit
import Derived.Test.YtblogmelmpkfhaaFnP
import Derived.Test.YtblogmelmpkfhaaRowz
namespace Go.Proofs.Ytblogmelmpkfhaa
open Go.RowKit Go.Maps
set_option linter.unusedVariables false

def nums (ids : List Nat) : List Int := ids.map (fun t : Nat => (t : Int))
/-- The statement's state behind i clauses. -/
structure Fst (n ab : Nat) (cs : List (List Int)) (W0 : World) (i : Nat) (M : List Arn.It) (ids : List Nat) (ro : Option Addr) (rc : Nat) (io : Option Addr) (ic k : Nat) (W : World) : Prop where
  arx : Arx n ab 268435456 M W
  rf : W.ownsRow n 36 1 (.slice ro k rc) k ((Arn.refs M 0).map (Value.int .i64))
  id : W.ownsRow n 3 1 (.slice io k ic) k ((nums ids).map (Value.int .i64))
  bel : Below n W0 W
  lst : Arn.Lst cs i M ids
  len : ids.length = k
  nsz : n ≤ W0.heap.size
theorem Fst.hn {n ab : Nat} {cs : List (List Int)} {W0 : World} {i : Nat} {M : List Arn.It} {ids : List Nat} {ro : Option Addr} {rc : Nat} {io : Option Addr} {ic k : Nat} {W : World} (h : Fst n ab cs W0 i M ids ro rc io ic k W) : n ≤ W.heap.size := Nat.le_trans h.nsz h.bel.size
theorem Fst.oks {n ab : Nat} {cs : List (List Int)} {W0 : World} {i : Nat} {M : List Arn.It} {ids : List Nat} {ro : Option Addr} {rc : Nat} {io : Option Addr} {ic k : Nat} {W : World} (h : Fst n ab cs W0 i M ids ro rc io ic k W) : Arn.Oks M := by
  obtain ⟨v, bm, hA⟩ := h.arx
  exact hA.ok
theorem blk1 (X : World) (t : TypeId) (x : Int) : ∀ j, j < 1 → (X.alloc (.cells #[.int .i64 x] t)).cell? ⟨X.heap.size, 0 + j, none⟩ = some (.int .i64 ([x].getD j 0)) := by
  intro j hj
  obtain rfl : j = 0 := by omega
  exact row_cell (heap_alloc_new X _) 0
theorem Fst.push {n ab : Nat} {cs : List (List Int)} {W0 : World} {i : Nat} {M : List Arn.It} {ids : List Nat} {ro : Option Addr} {rc : Nat} {io : Option Addr} {ic k : Nat} {W w1 : World} (h : Fst n ab cs W0 i M ids ro rc io ic k W) (hi : i < cs.length) (hk : k ≤ 60) (hd : Did n ab 268435456 W (M ++ [Arn.item cs i]) w1) :
    ∃ o1 c1 B1 o2 c2 B2, (Builtin.append_ #[52, 52] 52 #[.slice ro k rc, .slice (some ⟨w1.heap.size, 0, none⟩) 1 1]).run Try.prog (w1.alloc (.cells #[.int .i64 (Arn.size M : Nat)] 36)) = .ok (.slice o1 (k + 1) c1) B1 ∧
      (Builtin.append_ #[59, 59] 59 #[.slice io k ic, .slice (some ⟨B1.heap.size, 0, none⟩) 1 1]).run Try.prog (B1.alloc (.cells #[.int .i64 (i : Nat)] 3)) = .ok (.slice o2 (k + 1) c2) B2 ∧
      Fst n ab cs W0 (i + 1) (M ++ [Arn.item cs i]) (ids ++ [i]) o1 c1 o2 c2 (k + 1) B2 := by
  have hn := h.hn
  have hrf1 := own_fr h.rf hd.2 (pA_not (by decide) (by decide))
  have hid1 := own_fr h.id hd.2 (pA_not (by decide) (by decide))
  have hs1 : n ≤ w1.heap.size := Nat.le_trans hn hd.2.size
  obtain ⟨o1, c1, B1, r1, ho1, hg1, hF1⟩ := app Try.underlying52 info36 (hrf1.alloc (.cells #[.int .i64 (Arn.size M : Nat)] 36)) w1.heap.size 0 1 1 [(Arn.size M : Nat)] rfl (blk1 _ _ _) (by simp; omega) (by omega)
  have hid2 := own_fr (hid1.alloc (.cells #[.int .i64 (Arn.size M : Nat)] 36)) hF1 (pT_not (by decide))
  have hs2 : n ≤ B1.heap.size := Nat.le_trans (by simp; omega) hF1.size
  obtain ⟨o2, c2, B2, r2, ho2, hg2, hF2⟩ := app Try.underlying59 info3 (hid2.alloc (.cells #[.int .i64 (i : Nat)] 3)) B1.heap.size 0 1 1 [(i : Nat)] rfl (blk1 _ _ _) (by simp; omega) (by omega)
  have hx : (Arn.item cs i).dead = false := rfl
  have href : Arn.refs (M ++ [Arn.item cs i]) 0 = Arn.refs M 0 ++ [((Arn.size M : Nat) : Int)] := by
    rw [Arn.refs_append, Arn.refs_cons, if_neg (by simp [hx]), Int.zero_add]
    rfl
  have hal1 : Fr (pT 36) n w1 (w1.alloc (.cells #[.int .i64 (Arn.size M : Nat)] 36)) := Fr.alloc _ _
  have hal2 : Fr (pT 3) n B1 (B1.alloc (.cells #[.int .i64 (i : Nat)] 3)) := Fr.alloc _ _
  refine ⟨o1, c1, B1, o2, c2, B2, r1, r2, ?_, ?_, ?_, ?_, h.lst.put hi, by simp [h.len], h.nsz⟩
  · exact (hd.1.kept (hal1.trans hF1) (pT_pA (by decide) (by decide))).kept (hal2.trans hF2) (pT_pA (by decide) (by decide))
  · rw [href]
    exact own_fr ho1 (hal2.trans hF2) (pT_not (by decide))
  · rw [show nums (ids ++ [i]) = nums ids ++ [((i : Nat) : Int)] by simp [nums]]
    exact ho2
  · exact h.bel.trans ((hd.2.below hn).trans (((hal1.trans hF1).below hs1).trans ((hal2.trans hF2).below hs2)))
/-- One row without one place. -/
theorem cut_row {e t : TypeId} (ht : Try.prog.underlying t = some (.slice e)) (hi : (Try.prog.info? e).map (fun i => (i.zero, i.size, i.bytes)) = some (some (.int .i64 0), 1, 8)) {W : World} {base g c k p : Nat} {xs : List Int} (hl : xs.length = k) (ho : W.ownsRow base e 1 (.slice (some ⟨g, 0, none⟩) k c) k (xs.map (Value.int .i64))) (hp : p < k) (hk : k ≤ 61) (hb : base ≤ W.heap.size) :
    (∀ j, j < p → W.cell? ⟨g, 0 + j, none⟩ = some (.int .i64 ((xs.take p).getD j 0))) ∧ ∀ off, (0 < k - (p + 1) → off = p + 1) → ∀ j, j < k - (p + 1) → W.cell? ⟨g, off + j, none⟩ = some (.int .i64 ((xs.drop (p + 1)).getD j 0)) := by
  constructor
  · intro j hj
    rw [Nat.zero_add, ho.cellAt j (by omega), List.getElem?_map, List.getElem?_eq_getElem (by omega), List.getD, List.getElem?_take_of_lt hj, List.getElem?_eq_getElem (by omega)]
    rfl
  · intro off ho' j hj
    rw [ho' (by omega), ho.cellAt _ (by omega), List.getElem?_map, List.getElem?_eq_getElem (by omega), List.getD, List.getElem?_drop, List.getElem?_eq_getElem (by omega)]
    rfl
theorem erase_split {α : Type} (l : List α) (p : Nat) : l.eraseIdx p = l.take p ++ l.drop (p + 1) := List.eraseIdx_eq_take_drop_succ l p
theorem Fst.cut {n ab : Nat} {cs : List (List Int)} {W0 : World} {i : Nat} {M : List Arn.It} {ids : List Nat} {rg rc ig ic k : Nat} {W w1 : World} (h : Fst n ab cs W0 i M ids (some ⟨rg, 0, none⟩) rc (some ⟨ig, 0, none⟩) ic k W) (hk : k ≤ 61) {p : Nat} (hp : p < k) {r : Int} (hr : (Arn.refs M 0)[p]? = some r) (hd : Did n ab 268435456 W (Arn.kill M r) w1) (f1 f2 : Nat) (hf1 : 0 < k - (p + 1) → f1 = p + 1) (hf2 : 0 < k - (p + 1) → f2 = p + 1) :
    ∃ o1 c1 B1 o2 c2 B2 o3 c3 B3 o4 c4 B4, (Builtin.append_ #[52, 52] 52 #[.slice none 0 0, .slice (some ⟨rg, 0, none⟩) p rc]).run Try.prog w1 = .ok (.slice o1 p c1) B1 ∧ (Builtin.append_ #[59, 59] 59 #[.slice none 0 0, .slice (some ⟨ig, 0, none⟩) p ic]).run Try.prog B1 = .ok (.slice o2 p c2) B2 ∧
      (Builtin.append_ #[52, 52] 52 #[.slice o1 p c1, .slice (some ⟨rg, f1, none⟩) (k - (p + 1)) (rc - (p + 1))]).run Try.prog B2 = .ok (.slice o3 (k - 1) c3) B3 ∧ (Builtin.append_ #[59, 59] 59 #[.slice o2 p c2, .slice (some ⟨ig, f2, none⟩) (k - (p + 1)) (ic - (p + 1))]).run Try.prog B3 = .ok (.slice o4 (k - 1) c4) B4 ∧
      Fst n ab cs W0 i (Arn.kill M r) (ids.eraseIdx p) o3 c3 o4 c4 (k - 1) B4 := by
  have hn := h.hn
  have hs1 : n ≤ w1.heap.size := Nat.le_trans hn hd.2.size
  have hlr : (Arn.refs M 0).length = k := by rw [h.lst.len, h.len]
  have hln : (nums ids).length = k := by simp [nums, h.len]
  obtain ⟨hsome, hlst, hrefs⟩ := h.lst.kill h.oks hr
  have hrf1 := own_fr h.rf hd.2 (pA_not (by decide) (by decide))
  have hid1 := own_fr h.id hd.2 (pA_not (by decide) (by decide))
  obtain ⟨o1, c1, B1, r1, ho1, hg1, hF1⟩ := app Try.underlying52 info36 (xs := []) (World.ownsRow_nil w1 n 36 1) rg 0 p rc ((Arn.refs M 0).take p) (by simp; omega) (cut_row Try.underlying52 info36 hlr hrf1 hp hk hs1).1 hs1 (by omega)
  have hs2 := Nat.le_trans hs1 hF1.size
  have hrf2 := hrf1.kept hg1 (.inr (by simp [Value.ownBlock]))
  have hid2 := hid1.kept hg1 (.inr (by simp [Value.ownBlock]))
  obtain ⟨o2, c2, B2, r2, ho2, hg2, hF2⟩ := app Try.underlying59 info3 (xs := []) (World.ownsRow_nil B1 n 3 1) ig 0 p ic ((nums ids).take p) (by simp; omega) (cut_row Try.underlying59 info3 hln hid2 hp hk hs2).1 hs2 (by omega)
  have hs3 := Nat.le_trans hs2 hF2.size
  have hrf3 := hrf2.kept hg2 (.inr (by simp [Value.ownBlock]))
  have hid3 := hid2.kept hg2 (.inr (by simp [Value.ownBlock]))
  have ho1' := own_fr ho1 hF2 (pT_not (by decide))
  simp only [Nat.zero_add, List.nil_append] at r1 r2 ho1 ho1' ho2
  obtain ⟨o3, c3, B3, r3, ho3, hg3, hF3⟩ := app Try.underlying52 info36 ho1' rg f1 (k - (p + 1)) (rc - (p + 1)) ((Arn.refs M 0).drop (p + 1)) (by simp; omega) ((cut_row Try.underlying52 info36 hlr hrf3 hp hk hs3).2 f1 hf1) hs3 (by omega)
  have hs4 := Nat.le_trans hs3 hF3.size
  have hid4 := own_fr hid3 hF3 (pT_not (by decide))
  have ho2' := own_fr ho2 hF3 (pT_not (by decide))
  obtain ⟨o4, c4, B4, r4, ho4, hg4, hF4⟩ := app Try.underlying59 info3 ho2' ig f2 (k - (p + 1)) (ic - (p + 1)) ((nums ids).drop (p + 1)) (by simp; omega) ((cut_row Try.underlying59 info3 hln hid4 hp hk hs4).2 f2 hf2) hs4 (by omega)
  have ek : p + (k - (p + 1)) = k - 1 := by omega
  rw [ek] at r3 r4 ho3 ho4
  have ho3' := own_fr ho3 hF4 (pT_not (by decide))
  have hpT36 := pT_pA (e := 36) (by decide) (by decide)
  have hpT3 := pT_pA (e := 3) (by decide) (by decide)
  refine ⟨o1, c1, B1, o2, c2, B2, o3, c3, B3, o4, c4, B4, r1, r2, r3, r4, ?_, ?_, ?_, ?_, hlst, ?_, h.nsz⟩
  · exact (((hd.1.kept hF1 hpT36).kept hF2 hpT3).kept hF3 hpT36).kept hF4 hpT3
  · rw [hrefs, erase_split]; exact ho3'
  · rw [show nums (ids.eraseIdx p) = (nums ids).take p ++ (nums ids).drop (p + 1) by unfold nums; rw [← erase_split, Arn.erase_map]]; exact ho4
  · exact h.bel.trans ((hd.2.below hn).trans ((hF1.below hs1).trans ((hF2.below hs2).trans ((hF3.below hs3).trans (hF4.below hs4)))))
  · rw [List.length_eraseIdx, h.len, if_pos hp]
end Go.Proofs.Ytblogmelmpkfhaa
