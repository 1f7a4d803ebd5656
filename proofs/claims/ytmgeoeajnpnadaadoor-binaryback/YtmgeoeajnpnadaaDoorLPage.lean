/- The page that a proof's text is written on. -/
import Derived.Test.YtmgeoeajnpnadaaDoorLRoom
import Derived.Lib.Builder
import Derived.Lib.UnsafeStr
import Derived.Laws.Externs
import Derived.Shelf.RegionOpenPlain
namespace Go.Proofs.YtmgeoeajnpnadaaDoor
open Go.RowKit
set_option linter.unusedVariables false

/-- A page in block pb that holds the bytes bs. -/
structure Pg (base pb : Nat) (W : World) (bs : List UInt8) (p v : Value) (ws : List Value) : Prop where
  blk : W.heap[pb]? = some (.cells (p :: v :: ws).toArray 49 (0, 0))
  len : ws.length = 21
  ptr : p = .pointer none ∨ p = .pointer (some ⟨pb, 0, none⟩)
  own : W.ownsRow base 5 1 v bs.length (Lib.byteCells bs)
  lt : pb < base
theorem Pg.below {base pb : Nat} {W W' : World} {bs : List UInt8} {p v : Value} {ws : List Value} (h : Pg base pb W bs p v ws) (hb : Below W.heap.size W W') : Pg base pb W' bs p v ws :=
  ⟨(hb.block pb (Array.getElem?_eq_some_iff.1 h.blk).1).trans h.blk, h.len, h.ptr, own_below h.own hb, h.lt⟩

set_option maxRecDepth 100000 in
set_option maxHeartbeats 2000000 in
theorem copyCheck58 (base pb : Nat) (W : World) (bs : List UInt8) (p v : Value) (ws : List Value) (h : Pg base pb W bs p v ws) :
    Calls Tryd.prog 51 #[.pointer (some ⟨pb, 0, none⟩)] W fun e w' => e = .returned (.tuple #[]) ∧ Pg base pb w' bs (.pointer (some ⟨pb, 0, none⟩)) v ws ∧ Ex pb W.heap.size W w' := by
  have hj : (Tryd.prog.info? 46).map (·.size) = some 2 := by kernel_rfl
  obtain ⟨j, hj, hjs⟩ := Option.map_eq_some_iff.1 hj
  have hlies : liesAt Tryd.prog Tryd.prog.depth 49 (23 / Tryd.prog.cellsOf 49) 0 46 1 = true := by kernel_rfl
  have c0 := row_cell h.blk 0
  have f0 := row_frozen h.blk 0
  have hsh : W.shape? pb = some (49, 23) := by simp [World.shape?, h.blk, h.len]
  simp only [List.getElem?_toArray, List.getElem?_cons_zero] at c0
  have H := hid h
  rcases h.ptr with rfl | rfl
  · clear h
    go_enter Tryd.func51, Tryd.ntmps51
    go_wp2
    rw [Lib.run_to_unsafe W ⟨pb, 0, none⟩ Tryd.underlying44 Tryd.underlying85 hj (by rw [hjs]; decide) hsh (Nat.zero_lt_succ 22)]
    simp only [Result.andThen]
    rw [Oper.upon_value]
    go_wp2
    rw [run_callFunc_extern Tryd.func61 (by kernel_rfl) (by kernel_rfl) (by kernel_rfl) (e := Extern.AbiNoEscape.same) (by kernel_rfl)]
    rw [Lib.run_noEscape]
    simp only [Result.andThen]
    rw [Oper.upon_value]
    go_wp2
    rw [Lib.run_from_unsafe W ⟨pb, 0, none⟩ Tryd.underlying85 Tryd.underlying44 hj hsh hlies]
    simp only [Result.andThen]
    rw [Oper.upon_value]
    go_wp2
    go_end0
    refine ⟨rfl, ⟨?_, H.out.len, .inr rfl, own_set H.out.own H.out.lt _, H.out.lt⟩, Ex.set _ _ _ _ _⟩
    have := heap_set_row (k := 0) H.out.blk (.pointer (some ⟨pb, 0, none⟩))
    rw [this]
    simp
  · clear h
    go_enter Tryd.func51, Tryd.ntmps51
    go_wp2
    rw [Lib.run_neq_ptr_same W _ Tryd.underlying44 hj]
    go_wp2
    go_end0
    exact ⟨rfl, H.out, Ex.refl _ _ _⟩

theorem byt_one {l : List UInt8} : ∀ u ∈ Lib.byteCells l, u.oneCell' = true := by
  intro v hv
  simp only [Lib.byteCells, List.mem_map] at hv
  obtain ⟨b, _, rfl⟩ := hv
  rfl

/-- Nothing turned below n but block pb, and nowhere but in rows of bytes. -/
structure Fr (pb n : Nat) (W W' : World) : Prop where
  ex : Ex pb n W W'
  ty : ∀ (i : Nat) (cs : Array Value) (t : TypeId) (fr : Nat × Nat), W.heap[i]? = some (.cells cs t fr) → t ≠ 5 → i ≠ pb → W'.heap[i]? = W.heap[i]?
theorem Fr.of_ex {pb n : Nat} {W W' : World} (h : Ex pb W.heap.size W W') (hn : n ≤ W.heap.size) : Fr pb n W W' := ⟨h.mono hn, fun i cs t fr hi _ hne => h.block i (Array.getElem?_eq_some_iff.1 hi).1 hne⟩
theorem Fr.refl (pb n : Nat) (W : World) : Fr pb n W W := ⟨Ex.refl _ _ _, fun _ _ _ _ _ _ _ => rfl⟩
theorem Fr.trans {pb n : Nat} {A B C : World} (h : Fr pb n A B) (k : Fr pb n B C) : Fr pb n A C := ⟨h.ex.trans k.ex, fun i cs t fr hi ht hne => by
  have e := h.ty i cs t fr hi ht hne
  exact (k.ty i cs t fr (e.trans hi) ht hne).trans e⟩

/-- The buffer grows. -/
theorem Pg.put {base pb : Nat} {W B : World} {bs xs : List UInt8} {p v v' : Value} {ws : List Value} (h : Pg base pb W bs p v ws) (ho : B.ownsRow base 5 1 v' (bs.length + xs.length) (Lib.byteCells bs ++ Lib.byteCells xs)) (hg : W.grownBy B v.ownBlock) :
    B.heap[pb]? = some (.cells (p :: v :: ws).toArray 49 (0, 0)) ∧ Pg base pb (B.setCell ⟨pb, 1, none⟩ v') (bs ++ xs) p v' ws ∧ (∀ n, n ≤ W.heap.size → n ≤ base → Fr pb n W (B.setCell ⟨pb, 1, none⟩ v')) := by
  have hpl := (Array.getElem?_eq_some_iff.1 h.blk).1
  have hvn : ∀ k, v.ownBlock = some k → base ≤ k := fun k hk => by
    rcases h.own.2 with ⟨e, _⟩ | ⟨g, cp1, cur1, e1, h1, _⟩
    · rw [e] at hk; simp [Value.ownBlock] at hk
    · rw [e1] at hk; simp [Value.ownBlock] at hk; omega
  have hlt := h.lt
  have hB : B.heap[pb]? = some (.cells (p :: v :: ws).toArray 49 (0, 0)) := (hg.block pb hpl (fun e => by have := hvn pb e.symm; omega)).trans h.blk
  refine ⟨hB, ⟨?_, h.len, h.ptr, ?_, h.lt⟩, fun n hn hnb => ⟨⟨hg.os, hg.tape, hg.output, by simp [World.setCell]; exact hg.size, fun i hi hc => (heap_other _ _ hc).trans (hg.block i (by omega) (fun e => by have := hvn i e.symm; omega))⟩, fun i cs t fr hi ht hc => (heap_other _ _ hc).trans (hg.block i (Array.getElem?_eq_some_iff.1 hi).1 (fun e => by
    rcases h.own.2 with ⟨e1, _⟩ | ⟨g, cp1, cur1, e1, _, g2, _⟩
    · rw [e1] at e; simp [Value.ownBlock] at e
    · rw [e1] at e; simp [Value.ownBlock] at e; subst e; rw [hi] at g2; cases g2; exact ht rfl))⟩⟩
  · have := heap_set_row (k := 1) hB v'
    rw [this]
    simp
  · have := own_set (b := pb) (k := 1) ho h.lt v'
    rw [List.length_append, Lib.byteCells_append]
    exact this

set_option maxRecDepth 100000 in
set_option maxHeartbeats 2000000 in
theorem writeString38 (base pb : Nat) (W : World) (bs : List UInt8) (p v : Value) (ws : List Value) (xs : List UInt8) (h : Pg base pb W bs p v ws) (hb : base ≤ W.heap.size) (hl : bs.length + xs.length ≤ 1099511627776) :
    Calls Tryd.prog 37 #[.pointer (some ⟨pb, 0, none⟩), .string ⟨xs.toArray⟩] W fun e w' => (∃ r, e = .returned r) ∧ (∃ p' v', Pg base pb w' (bs ++ xs) p' v' ws) ∧ Fr pb base W w' := by
  obtain ⟨i0, hi, hz⟩ := Option.map_eq_some_iff.1 info5r
  simp only [Prod.mk.injEq] at hz
  obtain ⟨hz0, hz1, hz2⟩ := hz
  have C58 := hid (copyCheck58 base pb W bs p v ws h)
  have hsz : (⟨xs.toArray⟩ : ByteArray).size = xs.length := by simp [ByteArray.size]
  have AP := hid (show ∀ W1, Pg base pb W1 bs (.pointer (some ⟨pb, 0, none⟩)) v ws → Ex pb W.heap.size W W1 → ∃ o cp B, (Builtin.append_ #[23, 9] 23 #[v, .string ⟨xs.toArray⟩]).run Tryd.prog W1 = .ok (.slice o (bs.length + xs.length) cp) B ∧ B.heap[pb]? = some (.cells (.pointer (some ⟨pb, 0, none⟩) :: v :: ws).toArray 49 (0, 0)) ∧ Pg base pb (B.setCell ⟨pb, 1, none⟩ (.slice o (bs.length + xs.length) cp)) (bs ++ xs) (.pointer (some ⟨pb, 0, none⟩)) (.slice o (bs.length + xs.length) cp) ws ∧ Fr pb base W (B.setCell ⟨pb, 1, none⟩ (.slice o (bs.length + xs.length) cp)) from fun W1 h1 x1 => by
    obtain ⟨v', B, hr, ho, hg, _⟩ := Lib.run_append_own_string (P := Tryd.prog) W1 base 23 9 23 5 i0 Tryd.underlying23 Tryd.underlying9 hi hz0 hz1 hz2 v bs.length _ h1.own ⟨xs.toArray⟩ (by rw [hsz]; unfold maxLen; omega) (by rw [hsz]; omega) (by have := x1.size; omega)
    rw [hsz] at ho
    obtain ⟨o, cp, rfl⟩ := own_slc ho
    obtain ⟨q1, q2, q3⟩ := h1.put (xs := xs) ho hg
    exact ⟨o, cp, B, hr, q1, q2, (Fr.of_ex x1 hb).trans (q3 base (by have := x1.size; omega) (Nat.le_refl _))⟩)
  clear h hi hz0 hz1 hz2
  go_enter Tryd.func37, Tryd.ntmps37
  go_wp2_with (first
    | (go_at_call 51; refine C58.out.mono ?_; clear C58; rintro e W1 ⟨rfl, h1, x1⟩
       obtain ⟨o, cp, B, hr, hB, hP, hX⟩ := AP.out W1 h1 x1
       have c1 := row_cell h1.blk 1
       simp only [List.getElem?_toArray, List.getElem?_cons_succ, List.getElem?_cons_zero] at c1
       have HR := hid hr
       have D1 := hid (row_cell hB 1)
       have D2 := hid (row_frozen hB 1)
       have HP := hid hP
       have HX := hid hX
       clear AP hr hB hP hX h1 x1)
    | (at_builtin; refine wpList_append_run rfl (.tmp 12) (.tmp 13) 23 9 rfl rfl rfl HR.out ?_; clear c1; have d1 := D1.out; have d2 := D2.out; simp only [List.getElem?_toArray, List.getElem?_cons_succ, List.getElem?_cons_zero] at d1))
  go_ret2
  exact ⟨⟨_, rfl⟩, ⟨_, _, HP.out⟩, HX.out⟩

set_option maxRecDepth 100000 in
set_option maxHeartbeats 2000000 in
theorem write56 (base pb : Nat) (W : World) (bs : List UInt8) (p v : Value) (ws : List Value) (xs : List UInt8) (cw : Nat) (hws : ws.take xs.length = Lib.byteCells xs) (h : Pg base pb W bs p v ws) (hb : base ≤ W.heap.size) (hl : bs.length + xs.length ≤ 1099511627776) :
    Calls Tryd.prog 49 #[.pointer (some ⟨pb, 0, none⟩), .slice (some ⟨pb, 2, none⟩) xs.length cw] W fun e w' => (∃ r, e = .returned r) ∧ (∃ p' v', Pg base pb w' (bs ++ xs) p' v' ws) ∧ Fr pb base W w' := by
  obtain ⟨i0, hi, hz⟩ := Option.map_eq_some_iff.1 info5r
  simp only [Prod.mk.injEq] at hz
  obtain ⟨hz0, hz1, hz2⟩ := hz
  have C58 := hid (copyCheck58 base pb W bs p v ws h)
  have AP := hid (show ∀ W1, Pg base pb W1 bs (.pointer (some ⟨pb, 0, none⟩)) v ws → Ex pb W.heap.size W W1 → ∃ o cp B, (Builtin.append_ #[23, 23] 23 #[v, .slice (some ⟨pb, 2, none⟩) xs.length cw]).run Tryd.prog W1 = .ok (.slice o (bs.length + xs.length) cp) B ∧ B.heap[pb]? = some (.cells (.pointer (some ⟨pb, 0, none⟩) :: v :: ws).toArray 49 (0, 0)) ∧ Pg base pb (B.setCell ⟨pb, 1, none⟩ (.slice o (bs.length + xs.length) cp)) (bs ++ xs) (.pointer (some ⟨pb, 0, none⟩)) (.slice o (bs.length + xs.length) cp) ws ∧ Fr pb base W (B.setCell ⟨pb, 1, none⟩ (.slice o (bs.length + xs.length) cp)) from fun W1 h1 x1 => by
    have hxl : xs.length ≤ ws.length := by
      have := congrArg List.length hws
      rw [Lib.byteCells_length, List.length_take] at this
      omega
    obtain ⟨v', B, hr, ho, hg, _⟩ := run_append_own (P := Tryd.prog) W1 base 23 23 5 i0 (.int .u8 0) 1 1 Tryd.underlying23 hi hz0 hz1 hz2 rfl (by decide) v bs.length _ h1.own ⟨pb, 2, none⟩ xs.length cw (Lib.byteCells xs) (by rw [Lib.byteCells_length, Nat.mul_one]) (fun j u hu => by
      have hjl : j < xs.length := by
        have := (List.getElem?_eq_some_iff.1 hu).1
        rwa [Lib.byteCells_length] at this
      rw [Lib.add_plain, row_cell h1.blk (2 + j), Nat.add_comm]
      simp only [List.getElem?_toArray, List.getElem?_cons_succ]
      rw [← hu, ← hws, List.getElem?_take_of_lt hjl]) byt_one (by unfold maxLen; omega) (by omega) (by have := x1.size; omega)
    obtain ⟨o, cp, rfl⟩ := own_slc ho
    obtain ⟨q1, q2, q3⟩ := h1.put (xs := xs) ho hg
    exact ⟨o, cp, B, hr, q1, q2, (Fr.of_ex x1 hb).trans (q3 base (by have := x1.size; omega) (Nat.le_refl _))⟩)
  clear h hi hz0 hz1 hz2
  go_enter Tryd.func49, Tryd.ntmps49
  go_wp2_with (first
    | (go_at_call 51; refine C58.out.mono ?_; clear C58; rintro e W1 ⟨rfl, h1, x1⟩
       obtain ⟨o, cp, B, hr, hB, hP, hX⟩ := AP.out W1 h1 x1
       have c1 := row_cell h1.blk 1
       simp only [List.getElem?_toArray, List.getElem?_cons_succ, List.getElem?_cons_zero] at c1
       have HR := hid hr
       have D1 := hid (row_cell hB 1)
       have D2 := hid (row_frozen hB 1)
       have HP := hid hP
       have HX := hid hX
       clear AP hr hB hP hX h1 x1)
    | (at_builtin; refine wpList_append_run rfl (.tmp 12) (.tmp 13) 23 23 rfl rfl rfl HR.out ?_; clear c1; have d1 := D1.out; have d2 := D2.out; simp only [List.getElem?_toArray, List.getElem?_cons_succ, List.getElem?_cons_zero] at d1))
  go_ret2
  exact ⟨⟨_, rfl⟩, ⟨_, _, HP.out⟩, HX.out⟩
end Go.Proofs.YtmgeoeajnpnadaaDoor
