/- In order: the map of ranks, the closure that compares, the sort. -/
import Derived.Test.YtjnifadfcnpdoaaNxt
import Derived.Test.YtjnifadfcnpdoaaShelf
import Derived.Lib.SlKeysI
namespace Go.Proofs.Ytjnifadfcnpdoaa
open Go.RowKit Go.Maps Go.Shelf
set_option linter.unusedVariables false
set_option maxRecDepth 100000

def I64 (n : Int) : Prop := -9223372036854775808 ≤ n ∧ n ≤ 9223372036854775807
/-- An element of a map, as it is. -/
def raw (v : Value) : Option (DataW Value × List MemPlace) := some (.held v, [])
/-- What stands under a key, where one more stands, or one less. -/
def upd (f : Int → Option Value) (id : Int) (v : Option Value) (k : Int) : Option Value := if k = id then v else f k
theorem klawMp : Keyed Try.prog 3 := int_keyed Try.underlying3
theorem keyMp {id : Int} (h : I64 id) : keyOf Try.prog 3 (.int .i64 id) = some (.int .i64 id) := keyOf_int_mk Try.underlying3 (WalkArith.wf_i64 (by have := h.1; have := h.2; omega))
/-- Block bm is a map of at most n entries, and f tells what stands under a key. -/
def Mp (W : World) (bm n : Nat) (f : Int → Option Value) : Prop :=
  ∃ D : DataW Value, W.ownsMap Try.prog 3 raw bm n D ∧ ∀ id, I64 id → Maps.has D (.int .i64 id) = (f id).isSome ∧ D.atKey (.int .i64 id) (.held (.int .i64 0)) = .held ((f id).getD (.int .i64 0))
theorem Mp.new (w : World) : Mp (w.alloc (.map #[] 0)) w.heap.size 0 (fun _ => none) :=
  ⟨.map [], World.ownsMap_made w Try.prog 3 raw, fun id _ => ⟨rfl, rfl⟩⟩
theorem Mp.kept {W W' : World} {bm n : Nat} {f : Int → Option Value} {row : Option Nat} (h : Mp W bm n f) (hg : W.grownBy W' row) (hne : some bm ≠ row) : Mp W' bm n f := by
  obtain ⟨D, h1, h2⟩ := h
  exact ⟨D, h1.kept hg hne, h2⟩
theorem Mp.lt {W : World} {bm n : Nat} {f : Int → Option Value} (h : Mp W bm n f) : bm < W.heap.size := by
  obtain ⟨D, h1, h2⟩ := h
  exact h1.lt
theorem Mp.obj {W : World} {bm n : Nat} {f : Int → Option Value} (h : Mp W bm n f) : ∃ es cl, W.heap[bm]? = some (.map es cl) := by
  obtain ⟨D, h1, h2⟩ := h
  obtain ⟨es, cl, hh, _⟩ := h1
  exact ⟨es, cl, hh⟩
theorem Mp.same {W W' : World} {bm n : Nat} {f : Int → Option Value} (h : Mp W bm n f) (e : W'.heap[bm]? = W.heap[bm]?) : Mp W' bm n f := by
  obtain ⟨D, ⟨es, cl, hh, r⟩, h2⟩ := h
  exact ⟨D, ⟨es, cl, e.trans hh, r⟩, h2⟩
theorem Mp.set {W : World} {bm n : Nat} {f : Int → Option Value} (h : Mp W bm n f) {a : Addr} (ha : bm ≠ a.block) (u : Value) : Mp (W.setCell a u) bm n f := by
  obtain ⟨D, h1, h2⟩ := h
  exact ⟨D, h1.setCell ha u, h2⟩
theorem zeroMp (w : World) : (zeroValue 2).run Try.prog w = .ok (.int .i64 0) w := by kernel_rfl
theorem Mp.look {W : World} {bm n : Nat} {f : Int → Option Value} (h : Mp W bm n f) {id : Int} (hi : I64 id) :
    (Instr.lookup 63 (.map (some bm)) (.int .i64 id) true).run Try.prog W = .ok (.tuple #[(f id).getD (.int .i64 0), .bool (f id).isSome]) W := by
  obtain ⟨D, h1, h2⟩ := h
  obtain ⟨v, ps, hr, hv⟩ := h1.look_ok klawMp Try.underlying63 (zeroMp W) (zd := .held (.int .i64 0)) (zp := []) rfl (keyMp hi)
  rw [(h2 id hi).2] at hv
  rw [hr, (h2 id hi).1]
  simp only [raw, Option.some.injEq, Prod.mk.injEq, DataW.held.injEq] at hv
  rw [hv.1]
theorem Mp.look1 {W : World} {bm n : Nat} {f : Int → Option Value} (h : Mp W bm n f) {id : Int} (hi : I64 id) :
    (Instr.lookup 63 (.map (some bm)) (.int .i64 id) false).run Try.prog W = .ok ((f id).getD (.int .i64 0)) W := by
  obtain ⟨D, h1, h2⟩ := h
  obtain ⟨v, ps, hr, hv⟩ := h1.lookup klawMp Try.underlying63 (zeroMp W) (zd := .held (.int .i64 0)) (zp := []) rfl (keyMp hi)
  rw [(h2 id hi).2] at hv
  rw [hr]
  simp only [raw, Option.some.injEq, Prod.mk.injEq, DataW.held.injEq] at hv
  rw [hv.1]
theorem litneMp {a b : Int} (h : a ≠ b) : Lit.int .i64 a ≠ .int .i64 b := by
  intro e; injection e with _ e; exact h e
theorem Mp.put {W : World} {bm n : Nat} {f : Int → Option Value} (h : Mp W bm n f) {id : Int} (hi : I64 id) (hn : n < maxLen) (v : Value) :
    ∃ W', (Instr.mapUpdate 63 (.map (some bm)) (.int .i64 id) v).run Try.prog W = .ok () W' ∧ Mp W' bm (n + 1) (upd f id (some v)) ∧ W.mapTurned W' bm := by
  obtain ⟨D, h1, h2⟩ := h
  obtain ⟨W', hr, ho, ht⟩ := h1.store klawMp Try.underlying63 hn (val := v) (d := .held v) (ps := []) (keyMp hi) rfl
  refine ⟨W', hr, ⟨_, ho, fun k hk => ?_⟩, ht⟩
  by_cases e : k = id
  · subst e
    rw [has_put_same h1.isMap (show WideAt.IsKeyLit (.int .i64 k) from trivial), atKey_put_same h1.isMap (show WideAt.IsKeyLit (.int .i64 k) from trivial)]
    simp [upd]
  · rw [has_put_other (litneMp e), atKey_put_other (litneMp e)]
    simp only [upd, if_neg e]
    exact h2 k hk
theorem nan45 (x : Int) (W : World) : Calls Try.prog 45 #[.int .i64 x] W fun e w' => e = .returned (.bool false) ∧ w' = W := by
  have hx : (x != x) = false := by simp
  go_enter Try.func45, Try.ntmps45
  go_wp2
  go_ret
  exact ⟨rfl, rfl⟩
def cmpI (x y : Int) : Int := if x < y then -1 else if y < x then 1 else 0
theorem cmp41 (x y : Int) (W : World) : Calls Try.prog 41 #[.int .i64 x, .int .i64 y] W fun e w' => e = .returned (.int .i64 (cmpI x y)) ∧ w' = W := by
  have CN := hid (fun (x : Int) (W : World) => nan45 x W)
  by_cases h1 : x < y
  · have HE := hid (show cmpI x y = -1 by simp [cmpI, h1])
    rw [HE.out]
    go_enter Try.func41, Try.ntmps41
    go_wp2_with (go_at_call 45; refine (CN.out _ _).mono ?_; rintro e w4 ⟨rfl, hw4⟩; rw [hw4]; clear hw4)
    go_ret
    exact ⟨rfl, rfl⟩
  · by_cases h2 : y < x
    · have HE := hid (show cmpI x y = 1 by simp [cmpI, h1, h2])
      rw [HE.out]
      go_enter Try.func41, Try.ntmps41
      go_wp2_with (go_at_call 45; refine (CN.out _ _).mono ?_; rintro e w4 ⟨rfl, hw4⟩; rw [hw4]; clear hw4)
      go_ret
      exact ⟨rfl, rfl⟩
    · have HE := hid (show cmpI x y = 0 by simp [cmpI, h1, h2])
      rw [HE.out]
      go_enter Try.func41, Try.ntmps41
      go_wp2_with (go_at_call 45; refine (CN.out _ _).mono ?_; rintro e w4 ⟨rfl, hw4⟩; rw [hw4]; clear hw4)
      go_ret
      exact ⟨rfl, rfl⟩
/-- What stands under a variable, 0 where none does. -/
def rnk (f : Int → Option Value) (g : Nat → Int) : Prop := ∀ v : Nat, v ≤ 1048576 → (f (v : Int)).getD (.int .i64 0) = .int .i64 (g v)
theorem less40 {W : World} {pb bm k : Nat} {f : Int → Option Value} {g : Nat → Int} (hp : W.cell? ⟨pb, 0, none⟩ = some (.map (some bm))) (hm : Mp W bm k f) (hg : rnk f g) (u v : Nat) (hu : u ≤ 1048576) (hv : v ≤ 1048576) :
    Calls Try.prog 40 #[.int .i64 (u : Int), .int .i64 (v : Int), .pointer (some ⟨pb, 0, none⟩)] W fun e w' => e = .returned (.int .i64 (cmpI (g u) (g v))) ∧ w' = W := by
  have l1 := hm.look1 (id := (u : Int)) ⟨by omega, by omega⟩
  have l2 := hm.look1 (id := (v : Int)) ⟨by omega, by omega⟩
  rw [hg u hu] at l1
  rw [hg v hv] at l2
  have C41 := hid (cmp41 (g u) (g v))
  generalize g u = x at *
  generalize g v = y at *
  clear hm hg hu hv
  go_enter Try.func40, Try.ntmps40
  go_wp2_with (fail)
  go_at_call 41
  refine (C41.out W).mono ?_
  rintro e w4 ⟨rfl, hw4⟩
  rw [hw4]
  clear hw4
  go_wp2
  go_ret
  exact ⟨rfl, rfl⟩
/-- A variable, as the sort takes it. -/
abbrev Vr : Type := {v : Nat // v ≤ 1048576}
instance : Inhabited Vr := ⟨⟨0, Nat.zero_le _⟩⟩
def encV (x : Vr) : Value := .int .i64 (x.1 : Int)
def toV (v : Nat) : Vr := if h : v ≤ 1048576 then ⟨v, h⟩ else ⟨0, Nat.zero_le _⟩
theorem toV_val {v : Nat} (h : v ≤ 1048576) : (toV v).1 = v := by unfold toV; rw [dif_pos h]
theorem cmpI_lt (a b : Int) : cmpI a b < 0 ↔ a < b := by unfold cmpI; split <;> (try split) <;> omega
theorem swo (g : Nat → Int) : Sort.SWO (ltOf (fun x y : Vr => cmpI (g x.1) (g y.1))) := by
  refine ⟨fun x => ?_, fun x y z h1 h2 => ?_, fun x y z h1 h2 => ?_⟩
  · simp only [ltOf, decide_eq_false_iff_not, cmpI_lt]; omega
  · simp only [ltOf, decide_eq_true_eq, cmpI_lt] at *; omega
  · simp only [ltOf, decide_eq_false_iff_not, cmpI_lt] at *; omega
theorem sortW_other {α : Type} [Inhabited α] (enc : α → Value) (w : World) (blk off m : Nat) (dk : Array α) (os : Array Obj) {b : Nat} (hb : b ≠ blk) (hl : b < w.heap.size) : (sortWorld enc w blk off m dk os).heap[b]? = w.heap[b]? := by
  unfold sortWorld
  rw [Sort.heap_grow_old _ _ (by simpa [Sort.putRow, Sort.mapBlock, Sort.ahead] using hl)]
  simp [Sort.putRow, Sort.mapBlock, Sort.ahead, Array.getElem?_modify, Ne.symm hb]
theorem sortW_at {α : Type} [Inhabited α] (enc : α → Value) (w : World) (blk off m : Nat) (dk : Array α) (os : Array Obj) {cs : Array Value} {t : Nat} {fr : Nat × Nat} (h : w.heap[blk]? = some (.cells cs t fr)) : (sortWorld enc w blk off m dk os).heap[blk]? = some (.cells (Sort.putCells enc off dk cs) t fr) := by
  unfold sortWorld
  rw [Sort.heap_grow_old _ _ (by simpa [Sort.putRow, Sort.mapBlock, Sort.ahead] using lt_of_blk h)]
  simp [Sort.putRow, Sort.mapBlock, Sort.ahead, Array.getElem?_modify, h, Sort.onCells]
theorem sortW_below {α : Type} [Inhabited α] (enc : α → Value) (w : World) (blk off m base : Nat) (dk : Array α) (os : Array Obj) (hb : base ≤ blk) (hl : base ≤ w.heap.size) : Below base w (sortWorld enc w blk off m dk os) := by
  refine ⟨rfl, rfl, rfl, ?_, fun b hb' => sortW_other enc w blk off m dk os (by omega) (by omega)⟩
  simp [sortWorld, Sort.grow, Sort.putRow, Sort.mapBlock, Sort.ahead]
theorem putC_take {α : Type} [Inhabited α] (enc : α → Value) (d : Array α) (cs : Array Value) (h : d.size ≤ cs.size) : (Sort.putCells enc 0 d cs).size = cs.size ∧ (Sort.putCells enc 0 d cs).toList.take d.size = d.toList.map enc := by
  refine ⟨by simp [Sort.putCells], ?_⟩
  apply List.ext_getElem?
  intro k
  by_cases hk : k < d.size
  · rw [List.getElem?_take_of_lt hk, Array.getElem?_toList, List.getElem?_map, Array.getElem?_toList]
    simp only [Sort.putCells, Array.getElem?_mapIdx]
    rw [Array.getElem?_eq_getElem (show k < cs.size by omega), Array.getElem?_eq_getElem hk]
    simp [hk]
  · rw [List.getElem?_eq_none (by simp; omega), List.getElem?_eq_none (by simp; omega)]
def SortOut (W : World) (base n c : Nat) (o : Option Addr) (vs : List Nat) (g : Nat → Int) (e : Ending) (w' : World) : Prop :=
  e = .returned (.tuple #[]) ∧ ∃ vs' : List Nat, vs'.Perm vs ∧ vs'.Pairwise (fun a b => g a ≤ g b) ∧ w'.ownsRow base 3 1 (.slice o n c) n (inn vs') ∧ Below base W w'
theorem sort43 {W : World} {base n c : Nat} {o : Option Addr} {vs : List Nat} (h : W.ownsRow base 3 1 (.slice o n c) n (inn vs)) (h0 : 0 < n) (hn : n ≤ 1048576) (hbs : base ≤ W.heap.size) (hv : ∀ v ∈ vs, v ≤ 1048576) {pb bm k : Nat} {f : Int → Option Value} {g : Nat → Int}
    (hp : W.cell? ⟨pb, 0, none⟩ = some (.map (some bm))) (hm : Mp W bm k f) (hg : rnk f g) (hpb : pb < base) (hbm : bm < base) :
    Calls Try.prog 43 #[.slice o n c, .func (.func 40) #[] #[.pointer (some ⟨pb, 0, none⟩)]] W fun e w' => SortOut W base n c o vs g e w' := by
  obtain ⟨gb, c', cur, e, hb1, hb2, hb3, hb4, hb5, hb6⟩ := own_some h h0
  cases e
  have hl := inn_len h
  obtain ⟨d, hd⟩ : ∃ d : Array Vr, (vs.map toV).toArray = d := ⟨_, rfl⟩
  have hds : d.size = n := by rw [← hd]; simpa using hl
  have hH : Sort.Holds encV W gb 0 d := by
    intro j hj
    rw [Nat.zero_add]
    obtain ⟨q1, q2⟩ := own_cell h (k := j) (by omega)
    refine ⟨?_, q2⟩
    rw [q1, inn_at (by omega), getElem!_pos d j hj]
    congr 1
    have hjl : j < vs.length := by omega
    have e1 : d[j] = toV vs[j] := by simp [← hd]
    rw [e1, encV, toV_val (hv _ (List.getElem_mem hjl)), List.getD_eq_getElem?_getD, List.getElem?_eq_getElem hjl]
    rfl
  have hcmp : CmpLays1 Try.prog 40 #[.pointer (some ⟨pb, 0, none⟩)] encV (fun x y : Vr => cmpI (g x.1) (g y.1)) gb 0 d.size W := by
    refine CmpReads.lays ?_
    intro m os dk hs x y
    refine (less40 (pb := pb) (bm := bm) (k := k) (f := f) (g := g) ?_ ?_ hg x.1 y.1 x.2 y.2).mono ?_
    · rw [World.cell?, sortW_other encV W gb 0 m dk os (b := pb) (by omega) (by omega)]; exact hp
    · exact hm.same (sortW_other encV W gb 0 m dk os (by omega) (by omega))
    · rintro e w' ⟨rfl, rfl⟩
      exact ⟨rfl, 0, rfl⟩
  have hS := Any.slices_SortFunc (P := Try.prog) (ρ := Try.sortA_ren) Try.sortA encV (fun _ => rfl) (fun x y : Vr => cmpI (g x.1) (g y.1)) (swo g) 40 #[.pointer (some ⟨pb, 0, none⟩)] gb 0 c d W (enters_of Try.func40 (by kernel_rfl) rfl) hcmp hH (lt_of_blk hb2) (by omega)
  change Calls Try.prog 43 _ _ _ at hS
  rw [hds] at hS
  refine hS.mono ?_
  rintro e w' ⟨rfl, d', q, os, hp1, hp2, rfl⟩
  have hd's : d'.size = n := by rw [hp1.1, hds]
  have hperm : d'.toList.Perm d.toList := by
    have := hp1.2.2
    rw [show n = d'.size from hd's.symm] at this
    have e1 : d'.extract 0 d'.size = d' := by simp
    have e2 : d.extract 0 d'.size = d := by rw [hd's, ← hds]; simp
    rw [e1, e2] at this
    exact this
  refine ⟨rfl, d'.toList.map (·.1), ?_, ?_, ?_, sortW_below _ _ _ _ _ _ _ _ hb1 hbs⟩
  · refine (hperm.map _).trans ?_
    rw [← hd]
    simp only [List.map_map]
    rw [show vs.map ((fun x : Vr => x.1) ∘ toV) = vs.map id from List.map_congr_left (fun v hv' => toV_val (hv v hv')), List.map_id]
  · rw [List.pairwise_map, List.pairwise_iff_getElem]
    intro i j hi hj hij
    have hi' : i < d'.size := by simpa using hi
    have hj' : j < d'.size := by simpa using hj
    have := hp2 i j (Nat.zero_le _) hij (by omega)
    rw [getElem!_pos d' i hi', getElem!_pos d' j hj'] at this
    simp only [ltOf, decide_eq_false_iff_not, cmpI_lt] at this
    simp only [Array.getElem_toList]
    omega
  · obtain ⟨z1, z2⟩ := putC_take encV d' cur (by omega)
    rw [hd's] at z2
    refine own_mk hb1 (sortW_at encV W gb 0 q d' os hb2) hb3 hb4 (by omega) ?_
    rw [z2]
    simp [inn, encV]
end Go.Proofs.Ytjnifadfcnpdoaa
