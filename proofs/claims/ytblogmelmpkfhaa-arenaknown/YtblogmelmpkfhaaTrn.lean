/- A clause of the arena turned in its place: Kill, Mark. -/
import Derived.Test.YtblogmelmpkfhaaLts
namespace Arn
theorem at_upd {M : List It} {r : Int} {x y : It} (hM : Oks M) (hx : at? M r = some x) (hr : y.room = x.room) (s : Int) : at? (upd M r y) s = if s = r then some y else at? M s := by
  induction M generalizing r s with
  | nil => cases hx
  | cons z M ih =>
    unfold at? at hx
    unfold upd
    by_cases e : r = 0
    · rw [if_pos e] at hx
      cases hx
      rw [if_pos e, at?, at?, hr, e]
      by_cases e2 : s = 0
      · rw [if_pos e2, if_pos e2]
      · rw [if_neg e2, if_neg e2, if_neg e2]
    · rw [if_neg e] at hx
      rw [if_neg e, at?, at?]
      by_cases e2 : s = 0
      · rw [if_pos e2, if_pos e2, if_neg (by omega)]
      · rw [if_neg e2, if_neg e2, ih hM.cons.2 hx]
        by_cases e3 : s = r
        · rw [if_pos e3, if_pos (by omega)]
        · rw [if_neg e3, if_neg (by omega)]
theorem upd_len (M : List It) (r : Int) (y : It) : (upd M r y).length = M.length := by
  induction M generalizing r with
  | nil => rfl
  | cons z M ih => unfold upd; split <;> simp [ih]
theorem upd_mem {M : List It} {r : Int} {y z : It} (h : z ∈ upd M r y) : z = y ∨ z ∈ M := by
  induction M generalizing r with
  | nil => cases h
  | cons u M ih =>
    unfold upd at h
    split at h
    · rcases List.mem_cons.1 h with h | h
      · exact .inl h
      · exact .inr (by simp [h])
    · rcases List.mem_cons.1 h with h | h
      · exact .inr (by simp [h])
      · rcases ih h with h | h
        · exact .inl h
        · exact .inr (by simp [h])
theorem Oks.upd {M : List It} (h : Oks M) (r : Int) {y : It} (hy : y.ok) : Oks (upd M r y) := fun z hz => by
  rcases upd_mem hz with rfl | hz
  · exact hy
  · exact h z hz
theorem upd_split {M : List It} (hM : Oks M) {r : Int} {x : It} (hx : at? M r = some x) : ∃ A B, M = A ++ x :: B ∧ r = size A ∧ ∀ y, upd M r y = A ++ y :: B := by
  obtain ⟨A, B, rfl, rfl⟩ := at_split hx
  exact ⟨A, B, rfl, rfl, fun y => upd_mid hM.left x y B⟩
theorem size_upd {M : List It} (hM : Oks M) {r : Int} {x y : It} (hx : at? M r = some x) (hr : y.room = x.room) : size (upd M r y) = size M := by
  obtain ⟨A, B, rfl, rfl, h⟩ := upd_split hM hx
  rw [h, size_append, size_append, size, size, hr]
theorem waste_upd {M : List It} (hM : Oks M) {r : Int} {x y : It} (hx : at? M r = some x) : waste (upd M r y) + x.lost = waste M + y.lost := by
  obtain ⟨A, B, rfl, rfl, h⟩ := upd_split hM hx
  rw [h, waste_append, waste_append, waste, waste]
  omega
theorem waste_le {M : List It} (hM : Oks M) : waste M ≤ size M := by
  induction M with
  | nil => exact Nat.le_refl _
  | cons x M ih =>
    have := ih hM.cons.2
    rw [waste, size]
    have : x.lost ≤ x.room := by unfold It.lost; split <;> omega
    omega
theorem set_mid (a l b : List Int) (j : Nat) (z : Int) (hj : j < l.length) : (a ++ (l ++ b)).set (a.length + j) z = a ++ (l.set j z ++ b) := by
  rw [List.set_append_right _ _ (by omega), show a.length + j - a.length = j by omega, List.set_append_left _ _ hj]
/-- One word of a clause. -/
theorem row_set {M : List It} (hM : Oks M) {k : Nat} {x y : It} (hx : at? M k = some x) (j : Nat) (z : Int) (hj : j < x.room) (hy : y.cells = x.cells.set j z) : row (upd M k y) = (row M).set (k + j) z := by
  obtain ⟨A, B, rfl, e, h⟩ := upd_split hM hx
  have hk : k = size A := by omega
  have hxo := hM x (by simp)
  rw [h, row_append, row_append, row, row, hy, hk, ← row_len hM.left]
  exact (set_mid _ _ _ j z (by rw [hxo.len]; exact hj)).symm
end Arn
namespace Go.Proofs.Ytblogmelmpkfhaa
open Go.RowKit Go.Maps
set_option linter.unusedVariables false

/-- The arena, wherever its words lie. -/
def Arx (n ab lim : Nat) (M : List Arn.It) (W : World) : Prop := ∃ v bm, Ar n ab lim v bm M W
theorem Arx.kept {p : Obj → Prop} {n ab lim m : Nat} {M : List Arn.It} {W W' : World} (h : Arx n ab lim M W) (hf : Fr p m W W') (hp : ∀ o, p o → ¬ pA o) : Arx n ab lim M W' := by
  obtain ⟨v, bm, h⟩ := h
  exact ⟨v, bm, h.kept hf hp⟩
theorem Arx.below {n ab lim : Nat} {M : List Arn.It} {W W' : World} (h : Arx n ab lim M W) (hb : Below W.heap.size W W') : Arx n ab lim M W' := by
  obtain ⟨v, bm, h⟩ := h
  exact ⟨v, bm, h.below hb⟩
/-- A clause turned: the arena behind it. -/
theorem Ar.turn {n ab lim bm : Nat} {v : Value} {M : List Arn.It} {W W' : World} {r : Int} {x y : Arn.It} (h : Ar n ab lim v bm M W) (hx : Arn.at? M r = some x) (hr : y.room = x.room) (hy : y.ok)
    (h1 : W'.heap[ab]? = some (.cells #[.int .i64 lim, v, .map (some bm), .int .i64 (Arn.waste (Arn.upd M r y) : Nat)] 69 (0, 0)))
    (h2 : W'.ownsRow n 84 1 v (Arn.size M) ((Arn.row (Arn.upd M r y)).map (Value.int .u32))) (h3 : W'.heap[bm]? = W.heap[bm]?) : Ar n ab lim v bm (Arn.upd M r y) W' := by
  refine ⟨h.nab, h.nbm, h1, by rw [Arn.size_upd h.ok hx hr]; exact h2, ?_, h.ok.upd r hy, by rw [Arn.size_upd h.ok hx hr]; exact h.fit, h.lim⟩
  obtain ⟨D, ⟨es, cl, hh, q⟩, h5⟩ := h.map
  rw [Arn.upd_len]
  refine ⟨D, ⟨es, cl, h3.trans hh, q⟩, fun id hi => ?_⟩
  show Maps.has D (.int .i64 id) = ((Arn.at? (Arn.upd M r y) id).map (fun _ => Value.agg #[])).isSome ∧ D.atKey (.int .i64 id) (.held (.agg #[])) = .held (((Arn.at? (Arn.upd M r y) id).map (fun _ => Value.agg #[])).getD (.agg #[]))
  rw [show (Arn.at? (Arn.upd M r y) id).map (fun _ => (Value.agg #[])) = (Arn.at? M id).map (fun _ => Value.agg #[]) by
    rw [Arn.at_upd h.ok hx hr]
    split
    · rename_i e
      rw [e, hx]
      rfl
    · rfl]
  exact h5 id hi
theorem Ar.ne {n ab lim bm g c N : Nat} {M : List Arn.It} {W : World} {cur : Array Value} (h : Ar n ab lim (.slice (some ⟨g, 0, none⟩) N c) bm M W) (hg : W.heap[g]? = some (.cells cur 84 (0, 0))) : ab ≠ g ∧ bm ≠ g ∧ bm ≠ ab := by
  obtain ⟨es, cl, hm⟩ := h.map.obj
  refine ⟨?_, ?_, ?_⟩
  · rintro rfl; rw [h.blk] at hg; injection hg with e; injection e with _ e; cases e
  · rintro rfl; rw [hm] at hg; injection hg with e; cases e
  · rintro rfl; rw [h.blk] at hm; injection hm with e; cases e
/-- A word and the waste turned. -/
theorem Ar.turn1 {n ab lim bm g c k : Nat} {M : List Arn.It} {W : World} {x y : Arn.It} (h : Ar n ab lim (.slice (some ⟨g, 0, none⟩) (Arn.size M) c) bm M W) (hx : Arn.at? M k = some x) (hr : y.room = x.room) (hy : y.ok) (j : Nat) (z : Int) (hj : j < x.room) (hc : y.cells = x.cells.set j z) (ws : Int) (hw : ws = (Arn.waste (Arn.upd M k y) : Nat)) :
    Ar n ab lim (.slice (some ⟨g, 0, none⟩) (Arn.size M) c) bm (Arn.upd M k y) ((W.setCell ⟨ab, 3, none⟩ (.int .i64 ws)).setCell ⟨g, k + j, none⟩ (.int .u32 z)) ∧ Fr pA n W ((W.setCell ⟨ab, 3, none⟩ (.int .i64 ws)).setCell ⟨g, k + j, none⟩ (.int .u32 z)) := by
  obtain ⟨g', c', k', e1, e2, hk, hg, ⟨cur, hgb⟩, hcc, hcm, hcell⟩ := h.row hx
  cases e1
  obtain ⟨n1, n2, n3⟩ := h.ne hgb
  have hgb' : (W.setCell ⟨ab, 3, none⟩ (.int .i64 ws)).heap[g]? = some (.cells cur 84 (0, 0)) := (heap_other W _ n1.symm).trans hgb
  have hown' : (W.setCell ⟨ab, 3, none⟩ (.int .i64 ws)).ownsRow n 84 1 (.slice (some ⟨g, 0, none⟩) (Arn.size M) c) (Arn.size M) ((Arn.row M).map (Value.int .u32)) :=
    h.own.kept ⟨rfl, rfl, rfl, by simp [World.setCell], fun q _ hq => heap_other W _ (fun e => hq (by rw [e]))⟩ (row := some ab) (.inr (by simp [Value.ownBlock]; exact fun e => n1 e.symm))
  constructor
  · refine h.turn hx hr hy ?_ ?_ ?_
    · refine (heap_other _ _ n1).trans ?_
      rw [heap_set_row h.blk, hw]
      rfl
    · rw [Arn.row_set h.ok hx j z hj hc, List.map_set]
      exact (hown'.stored (k + j) _).1
    · exact (heap_other _ _ n2).trans (heap_other _ _ n3)
  · refine (Fr.set W _ h.nab (fun o ho => ?_)).trans (Fr.set _ _ hg (fun o ho => ?_))
    · rw [h.blk] at ho; cases ho; exact .inl rfl
    · rw [hgb'] at ho; cases ho; exact .inr rfl
theorem Ar.facts {n ab lim bm : Nat} {v : Value} {M : List Arn.It} {W : World} (h : Ar n ab lim v bm M W) :
    W.cell? ⟨ab, 0, none⟩ = some (.int .i64 lim) ∧ W.cell? ⟨ab, 1, none⟩ = some v ∧ W.cell? ⟨ab, 2, none⟩ = some (.map (some bm)) ∧ W.cell? ⟨ab, 3, none⟩ = some (.int .i64 (Arn.waste M : Nat)) ∧ W.frozen? ⟨ab, 1, none⟩ = false ∧ W.frozen? ⟨ab, 2, none⟩ = false ∧ W.frozen? ⟨ab, 3, none⟩ = false :=
  ⟨row_cell h.blk 0, row_cell h.blk 1, row_cell h.blk 2, row_cell h.blk 3, row_frozen h.blk 1, row_frozen h.blk 2, row_frozen h.blk 3⟩
/-- What a call on a clause leaves. -/
def Did (n ab lim : Nat) (W : World) (M' : List Arn.It) (w' : World) : Prop := Arx n ab lim M' w' ∧ Fr pA n W w'
end Go.Proofs.Ytblogmelmpkfhaa
namespace Arn
def kill (M : List It) (r : Int) : List It := match find M r with
  | none => M
  | some x => upd M r { x with dead := true }
def mark (M : List It) (r lbd used : Int) : List It := match find M r with
  | none => M
  | some x => if small lbd && small used then upd M r { x with lbd := lbd, used := used } else M
def errR (o : Option It) : Int := if o.isSome then 0 else 91
def errM (o : Option It) (lbd used : Int) : Int := if o.isSome then (if small lbd && small used then 0 else 2) else 91
end Arn
namespace Go.Proofs.Ytblogmelmpkfhaa
open Go.RowKit Go.Maps
set_option maxRecDepth 100000 in
set_option maxHeartbeats 2000000 in
theorem kill16 {n ab lim : Nat} {M : List Arn.It} {W : World} (hA : Arx n ab lim M W) (r : Int) (hr : I64 r) :
    Calls Try.prog 16 #[.pointer (some ⟨ab, 0, none⟩), .int .i64 r] W fun e w' => e = .returned (.int .i64 (Arn.errR (Arn.find M r))) ∧ Did n ab lim W (Arn.kill M r) w' := by
  obtain ⟨v, bm, h⟩ := hA
  have HL := hid (wrong43 h r hr)
  cases hx : Arn.find M r with
  | none =>
    rw [hx] at HL
    have HD := hid (fun (w' : World) (hw : Below W.heap.size W w') => show Did n ab lim W (Arn.kill M r) w' from ⟨by unfold Arn.kill; rw [hx]; exact ⟨v, bm, h.below hw⟩, Fr.of_below hw⟩)
    clear h hr
    go_enter Try.func16, Try.ntmps16
    go_wp2_with (go_at_call 43; refine HL.out.mono ?_; rintro e w3 ⟨rfl, hw3⟩)
    go_ret
    exact ⟨rfl, HD.out _ hw3⟩
  | some x =>
    rw [hx] at HL
    obtain ⟨g, c, k, rfl, rfl, ha, hd, hok, hk, hfits, hN, hg, hgb, hc, hcm, hlt⟩ := h.hit hx
    have HC := hid (fun (w' : World) (hw : Below W.heap.size W w') => clause44 (h.below hw) ha)
    have HB := hid (fun (w' : World) (hw : Below W.heap.size W w') => (h.below hw).facts)
    obtain ⟨cur, hgb⟩ := hgb
    have hne := (h.ne hgb).1
    have HW := hid (fun (w' : World) (hw : Below W.heap.size W w') => (h.below hw).word ha 0 (by omega))
    rw [show x.cells.getD 0 0 = x.head from rfl] at HW
    have hh1 : 0 ≤ x.head := by unfold Arn.It.head; split <;> split <;> omega
    have hh2 : x.head ≤ 1073741827 := by unfold Arn.It.head; split <;> split <;> omega
    have hy : ({ x with dead := true } : Arn.It).ok := ⟨hok.fits, hok.id1, hok.id2, hok.lbd1, hok.lbd2, hok.used1, hok.used2, hok.lits⟩
    have hyc : ({ x with dead := true } : Arn.It).cells = x.cells.set 0 (x.head + 1) := by
      simp [Arn.It.cells, Arn.It.head, hd]
    have hws := Arn.waste_upd (y := { x with dead := true }) h.ok ha
    have hlost : x.lost = x.room - 4 - x.lits.length := by simp [Arn.It.lost, hd]
    have hlost2 : ({ x with dead := true } : Arn.It).lost = x.room := rfl
    have hwl := Arn.waste_le h.ok
    have hwe : ((Arn.waste M : Nat) : Int) + (4 + (x.lits.length : Nat)) = (Arn.waste (Arn.upd M k { x with dead := true }) : Nat) := by omega
    have HD := hid (fun (w' : World) (hw : Below W.heap.size W w') => (h.below hw).turn1 (y := { x with dead := true }) ha rfl hy 0 (x.head + 1) (by omega) hyc _ hwe)
    have HK := hid (show Arn.kill M k = Arn.upd M k { x with dead := true } by unfold Arn.kill; rw [hx])
    have hfz := fun (w' : World) (hw : Below W.heap.size W w') => (h.below hw).own.frozenAt k
    have hkN : (k : Int) < (Arn.size M : Nat) := by omega
    generalize x.head = hv at *
    have hL : x.lits.length ≤ 268435456 := by omega
    generalize x.lits.length = L at *
    generalize Arn.size M = N at *
    generalize Arn.waste M = ws at *
    rw [Nat.add_zero] at HW HD
    have hwsb : (ws : Int) ≤ 268435456 := by omega
    have HFZ := hid hfz
    clear h hr hx ha hok hd hy hyc hws hlost hlost2 hwl hwe hgb hfz
    go_enter Try.func16, Try.ntmps16
    go_wp2_with (fail)
    go_at_call 43
    refine HL.out.mono ?_
    rintro e w3 ⟨rfl, hw3⟩
    clear HL
    obtain ⟨_, c1, _, c3, _, _, f3⟩ := HB.out _ hw3
    obtain ⟨hD1, hD2⟩ := HD.out _ hw3.drew
    have HD1 := hid hD1
    have HD2 := hid hD2
    have HWR := hid (show IntKind.i64.wrap ((ws : Int) + (4 + (L : Int))) = ws + (4 + L) by rw [IntKind.wrap_i64]; omega)
    have c0 := HW.out _ hw3
    have f0 := HFZ.out _ hw3
    clear hD1 hD2 HB HW HFZ HD
    go_wp2_with (fail)
    go_region_with (go_at_call 44; refine (HC.out _ hw3.drew).mono ?_; rintro e W7 ⟨rfl, rfl⟩)
    all_goals
      go_wp2
      go_ret
      refine ⟨rfl, ?_⟩
      rw [HK.out]
      try rw [HWR.out]
      exact ⟨⟨_, _, HD1.out⟩, (Fr.of_below hw3.drew).trans HD2.out⟩
end Go.Proofs.Ytblogmelmpkfhaa
