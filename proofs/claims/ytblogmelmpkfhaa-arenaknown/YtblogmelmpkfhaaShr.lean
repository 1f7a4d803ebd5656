/- Shrink. -/
import Derived.Test.YtblogmelmpkfhaaCol2
namespace Arn
def shrink (M : List It) (r n : Int) : List It := match find M r with
  | none => M
  | some x => if 0 ≤ n ∧ n ≤ x.lits.length then upd M r { x with lits := x.lits.take n.toNat } else M
def errS (o : Option It) (n : Int) : Int := match o with
  | none => 91
  | some x => if 0 ≤ n ∧ n ≤ x.lits.length then 0 else 2
/-- The words of a clause made shorter. -/
theorem shrink_cells {x : It} (hx : x.ok) (n : Nat) (hn : n ≤ x.lits.length) : ({ x with lits := x.lits.take n } : It).cells = (x.cells.take (4 + n) ++ List.replicate (x.lits.length - n) 0 ++ x.cells.drop (4 + n + (x.lits.length - n))).set 0 (x.head - 4 * (x.lits.length - n : Nat)) := by
  have hf := hx.fits
  have e1 : ({ x with lits := x.lits.take n } : It).head = x.head - 4 * (x.lits.length - n : Nat) := by
    simp only [It.head, List.length_take]
    rw [Nat.min_eq_left hn]
    omega
  have e2 : ({ x with lits := x.lits.take n } : It).cells = (x.head - 4 * (x.lits.length - n : Nat)) :: u32 x.id :: x.id / 4294967296 :: (x.lbd * 65536 + x.used) :: ((x.lits.take n).map u32 ++ List.replicate (x.room - 4 - n) 0) := by
    unfold It.cells
    rw [e1]
    simp only [List.length_take]
    rw [Nat.min_eq_left hn]
  have e3 : x.cells.take (4 + n) = x.head :: u32 x.id :: x.id / 4294967296 :: (x.lbd * 65536 + x.used) :: (x.lits.take n).map u32 := by
    rw [show 4 + n = n + 4 by omega]
    simp only [It.cells, List.take_succ_cons]
    rw [List.take_append_of_le_length (by simpa using hn), List.map_take]
  have e4 : x.cells.drop (4 + n + (x.lits.length - n)) = List.replicate (x.room - 4 - x.lits.length) 0 := by
    rw [show 4 + n + (x.lits.length - n) = x.lits.length + 4 by omega]
    simp only [It.cells, List.drop_succ_cons]
    rw [List.drop_append, List.drop_eq_nil_of_le (by simp), List.nil_append]
    simp
  rw [e2, e3, e4]
  simp only [List.cons_append, List.set_cons_zero, List.append_assoc, List.replicate_append_replicate]
  rw [show x.lits.length - n + (x.room - 4 - x.lits.length) = x.room - 4 - n by omega]
theorem mid_over (a l b z : List Int) (o m : Nat) (hz : z.length = m) (ho : o + m ≤ l.length) : (a ++ (l ++ b)).take (a.length + o) ++ z ++ (a ++ (l ++ b)).drop (a.length + o + m) = a ++ ((l.take o ++ z ++ l.drop (o + m)) ++ b) := by
  rw [List.take_length_add_append, List.take_append_of_le_length (by omega), show a.length + o + m = a.length + (o + m) by omega, List.drop_length_add_append, List.drop_append_of_le_length (by omega)]
  simp
theorem row_shrink {M : List It} (hM : Oks M) {k : Nat} {x : It} (hx : at? M k = some x) (n : Nat) (hn : n ≤ x.lits.length) :
    row (upd M k { x with lits := x.lits.take n }) = ((row M).take (k + (4 + n)) ++ List.replicate (x.lits.length - n) 0 ++ (row M).drop (k + (4 + n) + (x.lits.length - n))).set k (x.head - 4 * (x.lits.length - n : Nat)) := by
  obtain ⟨A, B, rfl, e, h⟩ := upd_split hM hx
  have hk : k = size A := by omega
  have hxo := hM x (by simp)
  have hf := hxo.fits
  have hl : x.cells.length = x.room := hxo.len
  rw [h, row_append, row_append, row, row, shrink_cells hxo n hn, hk, ← row_len hM.left]
  rw [mid_over _ _ _ _ _ _ (by simp) (by omega)]
  have := set_mid (row A) (x.cells.take (4 + n) ++ List.replicate (x.lits.length - n) 0 ++ x.cells.drop (4 + n + (x.lits.length - n))) (row B) 0 (x.head - 4 * (x.lits.length - n : Nat)) (by simp; omega)
  rw [Nat.add_zero] at this
  exact this.symm
end Arn
namespace Go.Proofs.Ytblogmelmpkfhaa
open Go.RowKit Go.Maps
set_option linter.unusedVariables false

theorem zero84 (w : World) : (zeroValue 84).run Try.prog w = .ok (.int .u32 0) w := by kernel_rfl
theorem zc_one (z : Value) (n : Nat) : Builtin.zeroCells #[z] n = (List.replicate n z).toArray := by
  apply Array.ext
  · simp [Builtin.zeroCells]
  · intro j h1 h2
    simp [Builtin.zeroCells, Nat.mod_one]
theorem clear_run (W : World) (g o m c : Nat) (cur : Array Value) (ty : TypeId) (hg : W.heap[g]? = some (.cells cur 84 (0, 0))) (hm : 0 < m) (hfit : o + m ≤ cur.size) :
    (Builtin.clear_ #[67] ty #[.slice (some ⟨g, o, none⟩) m c]).run Try.prog W = .ok (.tuple #[]) (W.setRow g (cur.toList.take o ++ List.replicate m (Value.int .u32 0) ++ cur.toList.drop (o + m)).toArray) := by
  have hst := run_storeCells_at Try.prog g o 84 (List.replicate m (.int .u32 0)) 0 cur W hg (by simpa using hfit) (fun u hu => by rw [(List.mem_replicate.1 hu).2]; rfl)
  simp only [Nat.add_zero, List.length_replicate] at hst
  have hzc : Builtin.zeroCells (Value.int .u32 0).cells m = (List.replicate m (.int .u32 0)).toArray := zc_one _ m
  obtain ⟨q, rfl⟩ : ∃ q, m = q + 1 := ⟨m - 1, by omega⟩
  simp [Builtin.clear_, run_underlying Try.underlying67, hzc, hst]
/-- The words behind are noughts. -/
theorem Ar.clr {n ab lim bm g c k : Nat} {M : List Arn.It} {W : World} {x : Arn.It} (h : Ar n ab lim (.slice (some ⟨g, 0, none⟩) (Arn.size M) c) bm M W) (hx : Arn.at? M k = some x) (j : Nat) (hj : j ≤ x.lits.length) (ty : TypeId) (o' : Nat) (ho' : 0 < x.lits.length - j → o' = k + (4 + j)) (c' : Nat) :
    ∃ W1, (Builtin.clear_ #[67] ty #[.slice (some ⟨g, o', none⟩) (x.lits.length - j) c']).run Try.prog W = .ok (.tuple #[]) W1 ∧ W1.ownsRow n 84 1 (.slice (some ⟨g, 0, none⟩) (Arn.size M) c) (Arn.size M) (((Arn.row M).take (k + (4 + j)) ++ List.replicate (x.lits.length - j) 0 ++ (Arn.row M).drop (k + (4 + j) + (x.lits.length - j))).map (Value.int .u32)) ∧ W.grownBy W1 (some g) := by
  obtain ⟨hk1, hk2, hok⟩ := Arn.at_lt h.ok hx
  have hf := hok.fits
  rcases Nat.eq_zero_or_pos (x.lits.length - j) with h0 | hp
  · rw [h0]
    refine ⟨W, by simp [Builtin.clear_, run_underlying Try.underlying67], ?_, ⟨rfl, rfl, rfl, Nat.le_refl _, fun _ _ _ => rfl⟩⟩
    rw [List.replicate_zero, List.append_nil, Nat.add_zero, List.take_append_drop]
    exact h.own
  · obtain ⟨g', c2, cur, hv, hb, hgc, h4, h5, h6, h7⟩ := own_some h.own (by omega)
    cases hv
    rw [ho' hp]
    refine ⟨_, clear_run W g (k + (4 + j)) (x.lits.length - j) c' cur ty hgc hp (by omega), ?_, ⟨rfl, rfl, rfl, by simp [World.setRow], fun q _ hn => setRow_other W g q _ (fun e => hn (by rw [e]))⟩⟩
    refine own_mk hb (setRow_heap W g cur _ 84 _ hgc) h4 h5 (by simp; omega) ?_
    have := over (cs := List.replicate (x.lits.length - j) (Value.int .u32 0)) h7 (by simp) (show k + (4 + j) + (x.lits.length - j) ≤ Arn.size M by omega) (by rw [Array.length_toList]; omega)
    simp only [List.map_append, List.map_take, List.map_drop, List.map_replicate]
    exact this
theorem Ar.shr {n ab lim bm g c k : Nat} {M : List Arn.It} {W W1 : World} {x : Arn.It} (h : Ar n ab lim (.slice (some ⟨g, 0, none⟩) (Arn.size M) c) bm M W) (hx : Arn.at? M k = some x) (hd : x.dead = false) (j : Nat) (hj : j ≤ x.lits.length)
    (ho : W1.ownsRow n 84 1 (.slice (some ⟨g, 0, none⟩) (Arn.size M) c) (Arn.size M) (((Arn.row M).take (k + (4 + j)) ++ List.replicate (x.lits.length - j) 0 ++ (Arn.row M).drop (k + (4 + j) + (x.lits.length - j))).map (Value.int .u32))) (hg : W.grownBy W1 (some g)) (hv ws : Int) (hhv : hv = x.head - 4 * (x.lits.length - j : Nat)) (hws : ws = (Arn.waste M : Nat) + (x.lits.length - j : Nat)) :
    Ar n ab lim (.slice (some ⟨g, 0, none⟩) (Arn.size M) c) bm (Arn.upd M k { x with lits := x.lits.take j }) ((W1.setCell ⟨g, k, none⟩ (.int .u32 hv)).setCell ⟨ab, 3, none⟩ (.int .i64 ws)) ∧ Fr pA n W ((W1.setCell ⟨g, k, none⟩ (.int .u32 hv)).setCell ⟨ab, 3, none⟩ (.int .i64 ws)) := by
  obtain ⟨hk1, hk2, hok⟩ := Arn.at_lt h.ok hx
  have hf := hok.fits
  obtain ⟨_, cur, hgc⟩ := own_blk (g := g) h.own rfl
  obtain ⟨hgn, cur1, hgc1⟩ := own_blk (g := g) ho rfl
  obtain ⟨n1, n2, n3⟩ := h.ne hgc
  have hblk1 : W1.heap[ab]? = _ := (hg.block ab (lt_of_blk h.blk) (fun e => n1 (by cases e; rfl))).trans h.blk
  have hst := ho.stored k (.int .u32 hv)
  have hblk2 : (W1.setCell ⟨g, k, none⟩ (.int .u32 hv)).heap[ab]? = _ := (heap_other W1 _ n1).trans hblk1
  have hy : ({ x with lits := x.lits.take j } : Arn.It).ok := ⟨by show 4 + (x.lits.take j).length ≤ x.room; simp; omega, hok.id1, hok.id2, hok.lbd1, hok.lbd2, hok.used1, hok.used2, fun l hl => hok.lits l (List.mem_of_mem_take hl)⟩
  have hwu := Arn.waste_upd (y := { x with lits := x.lits.take j }) h.ok hx
  have hl1 : x.lost = x.room - 4 - x.lits.length := by simp [Arn.It.lost, hd]
  have hl2 : ({ x with lits := x.lits.take j } : Arn.It).lost = x.room - 4 - j := by simp [Arn.It.lost, hd, Nat.min_eq_left hj]
  constructor
  · refine h.turn hx rfl hy ?_ ?_ ?_
    · rw [heap_set_row hblk2]
      have : ws = (Arn.waste (Arn.upd M k { x with lits := x.lits.take j }) : Nat) := by omega
      rw [this]
      rfl
    · rw [Arn.row_shrink h.ok hx j hj, List.map_set, ← hhv]
      exact own2_set (v := .bool true) (u := .bool true) hst.1 n1 _
    · obtain ⟨es, cl, hm⟩ := h.map.obj
      exact (heap_other _ _ n3).trans ((heap_other _ _ n2).trans (hg.block bm (lt_of_blk hm) (fun e => n2 (by cases e; rfl))))
  · refine (Fr.grown hg (fun q hq => ?_)).trans ((Fr.set W1 _ hgn (fun o ho2 => ?_)).trans (Fr.set _ _ h.nab (fun o ho2 => ?_)))
    · cases hq
      exact ⟨hgn, fun o ho2 => by rw [hgc] at ho2; cases ho2; exact .inr rfl⟩
    · have ho3 : W1.heap[g]? = some o := ho2
      rw [hgc1] at ho3; cases ho3; exact .inr rfl
    · have ho3 : (W1.setCell ⟨g, k, none⟩ (.int .u32 hv)).heap[ab]? = some o := ho2
      rw [hblk2] at ho3; cases ho3; exact .inl rfl
end Go.Proofs.Ytblogmelmpkfhaa
