/- The words of a head. -/
import Derived.Test.YtlhpnkgdnmnclaaDoorMarks
import Derived.BigRegion
import Derived.Shelf.Bytes.SlEqualAll
namespace Dim
def hdB (ws : List (List Int)) : Bool := decide (ws.length ≤ 4) && (ws.getD 0 [] == [112] && ws.getD 1 [] == [99, 110, 102] && isNum (ws.getD 2 []) && isNum (ws.getD 3 []))
end Dim
namespace Go.Proofs.YtlhpnkgdnmnclaaDoor
open Go.RowKit
set_option linter.unusedVariables false
attribute [local go_sem] Oper.semAt_some

/-- A slice value that holds the bytes xs in block tb. -/
def SlT (tb : Nat) (W : World) (v : Value) (xs : List Int) : Prop := ∃ p c, v = .slice p xs.length c ∧ Txt tb W p c xs
theorem SlT.nil (tb : Nat) (W : World) : SlT tb W (.slice none 0 0) [] := ⟨none, 0, rfl, fun x h => (by cases h), Nat.le_refl _, by simp, .inl ⟨rfl, rfl, rfl⟩⟩
theorem SlT.book {tb B : Nat} {cc : Option Nat} {W W' : World} {v : Value} {xs : List Int} (h : SlT tb W v xs) (hb : Book cc B W W') (hc : cc ≠ some tb) : SlT tb W' v xs := by
  obtain ⟨p, c, e, ht⟩ := h
  exact ⟨p, c, e, ht.book hb hc⟩
theorem SlT.kept {tb : Nat} {W W' : World} {v : Value} {xs : List Int} (h : SlT tb W v xs) (hb : W'.heap[tb]? = W.heap[tb]?) : SlT tb W' v xs := by
  obtain ⟨p, c, e, ht⟩ := h
  exact ⟨p, c, e, ht.kept hb⟩

/-- Word j of the first k, or none yet. -/
def RowJ (tb : Nat) (ws : List (List Int)) (k : Nat) (W : World) (j : Nat) (v : Value) : Prop := (j < k → SlT tb W v (ws.getD j [])) ∧ (k ≤ j → v = .slice none 0 0)

theorem words_iter (tb bx : Nat) (p : Option Addr) (n c : Nat) (xs : List Int) (w : World) (hn : xs.length = n) (hbx : Boxed w bx 22 (.slice p n c)) (hx : Txt tb w p c xs) :
    Iter Tryd.prog 47 #[.pointer (some ⟨bx, 0, none⟩)] (fun v : Value => #[v]) none (Dim.words xs).length (WordV tb (Dim.words xs)) (Keep2 bx tb) (fun _ => True) w := by
  intro l W1 hbk hl1 hl2 J Jx hJ hJx hY h0
  refine (callsIn_wide (n := 9)).1 ((words47 tb bx l p n c xs J Jx W1 hn hY (hbk.boxed hbx (by simp)).cell (hx.book hbk (by simp)) h0).mono ?_)
  rintro e W' ⟨hv, h | h⟩
  · exact ⟨hv, .inl ⟨h, trivial⟩⟩
  · exact ⟨hv, .inr h⟩
theorem WordV.book {tb B : Nat} {ws : List (List Int)} : ∀ (k : Nat) (x : Value) (A A' : World), WordV tb ws k x A → Book none B A A' → WordV tb ws k x A' := by
  rintro k x A A' ⟨p, c, e, h⟩ hb
  exact ⟨p, c, e, h.book hb (by simp)⟩
theorem keep2_put {bx tb B : Nat} (h1 : bx < B) (h2 : tb < B) (W : World) (l : Nat) (o o' : Obj) (hl : l = B + 1) (_ : W.heap[l]? = some o) (_ : o.isCells = false) : Keep2 bx tb W (W.putObj l o') :=
  ⟨World.putObj_heap_other (by omega), World.putObj_heap_other (by omega)⟩
theorem heap_set_row {W : World} {b k : Nat} {cs : Array Value} {t : TypeId} {fr : Nat × Nat} (h : W.heap[b]? = some (.cells cs t fr)) (v : Value) : (W.setCell ⟨b, k, none⟩ v).heap[b]? = some (.cells (cs.setIfInBounds k v) t fr) := by
  simp [World.setCell, Array.getElem?_modify, h]
theorem row_cell {W : World} {b : Nat} {cs : Array Value} {t : TypeId} {fr : Nat × Nat} (h : W.heap[b]? = some (.cells cs t fr)) (k : Nat) : W.cell? ⟨b, k, none⟩ = cs[k]? := by
  simp [World.cell?, h]
theorem row_frozen {W : World} {b : Nat} {cs : Array Value} {t : TypeId} (h : W.heap[b]? = some (.cells cs t (0, 0))) (k : Nat) : W.frozen? ⟨b, k, none⟩ = false := by
  simp [World.frozen?, h]

theorem heap_other (W : World) {b k x : Nat} (u : Value) (hne : x ≠ b) : (W.setCell ⟨b, k, none⟩ u).heap[x]? = W.heap[x]? := Below.heap_setCell W ⟨b, k, none⟩ u x hne
theorem boxed_apart {W : World} {B : Nat} {t : TypeId} {v : Value} {b k : Nat} {u : Value} (h : Boxed W B t v) (hne : B ≠ b) : Boxed (W.setCell ⟨b, k, none⟩ u) B t v := (heap_other W u hne).trans h
theorem RowJ.next {tb k j : Nat} {ws : List (List Int)} {W W' : World} {v v' x : Value} (h : RowJ tb ws k W j v) (hk : W'.heap[tb]? = W.heap[tb]?) (hx : SlT tb W x (ws.getD k [])) (hj : j ≠ k → v' = v) (he : j = k → v' = x) : RowJ tb ws (k + 1) W' j v' := by
  by_cases e : j = k
  · subst e
    rw [he rfl]
    exact ⟨fun _ => hx.kept hk, fun h => by omega⟩
  · rw [hj e]
    exact ⟨fun h' => (h.1 (by omega)).kept hk, fun h' => h.2 (by omega)⟩

theorem Book.undrew {c : Option Nat} {B : Nat} {A A' : World} (h : Book c B A.drew A') : Book c B A A' := ⟨h.os, h.tape, h.output, h.size, h.same⟩
theorem str_inj {xs : List Int} (hb : Byt xs) (l : List Int) (hl : Byt l) (h : strOfNums xs = strOfNums l) : xs = l := by
  have h2 : xs.map (fun n => UInt8.ofNat n.toNat) = l.map (fun n => UInt8.ofNat n.toNat) := by
    have := congrArg (fun s : ByteArray => s.data.toList) h
    simpa [strOfNums] using this
  clear h
  induction xs generalizing l with
  | nil => cases l with
    | nil => rfl
    | cons y ys => cases h2
  | cons x r ih => cases l with
    | nil => cases h2
    | cons y ys =>
      simp only [List.map_cons, List.cons.injEq] at h2
      have hx := hb x (by simp)
      have hy := hl y (by simp)
      have e := congrArg UInt8.toNat h2.1
      simp only [UInt8.toNat_ofNat'] at e
      rw [ih (fun z hz => hb z (List.mem_cons_of_mem _ hz)) ys (fun z hz => hl z (List.mem_cons_of_mem _ hz)) h2.2, show x = y by omega]

theorem str_eq {xs : List Int} (hb : Byt xs) (l : List Int) (hl : Byt l) : ((strOfNums xs).toList == l.map fun n => UInt8.ofNat n.toNat) = (xs == l) := by
  rw [ByteArray.toList_eq, strOfNums_data]
  by_cases h : xs = l
  · rw [h]; simp
  · rw [beq_eq_false_iff_ne.2 h, beq_eq_false_iff_ne]
    intro e
    refine h (str_inj hb l hl ?_)
    unfold strOfNums
    rw [e]

set_option maxRecDepth 100000 in
set_option maxHeartbeats 4000000 in
theorem readHead24 (tb : Nat) (p : Option Addr) (n c : Nat) (xs : List Int) (w : World) (htb : tb < w.heap.size) (hn : xs.length = n) (hx : Txt tb w p c xs) :
    Calls Tryd.prog 24 #[.slice p n c] w fun e w' => ∃ a b : Int, e = .returned (.tuple #[.int .i64 a, .int .i64 b, .bool (Dim.hdB (Dim.words xs))]) ∧
      (Dim.hdB (Dim.words xs) = true → a = Dim.numV ((Dim.words xs).getD 2 []) ∧ b = Dim.numV ((Dim.words xs).getD 3 [])) ∧ Below w.heap.size w w' := by
  have HX := hid hx
  have HN := hid hn
  clear hx hn
  obtain ⟨ws, hws⟩ : ∃ ws, Dim.words xs = ws := ⟨_, rfl⟩
  have HWS := hid hws
  rw [hws]
  clear hws
  refine (callsIn_wide (n := 9)).1 ?_
  refine callsIn_of_wp_marks Tryd.func24 rfl trivial ?_ rfl
  simp only [Tryd.ntmps24, List.size_toArray, List.length_cons, List.length_nil, Nat.reduceAdd, Nat.reduceSub, Array.replicate_succ, Array.replicate_zero, List.push_toArray, List.append_toArray, List.nil_append, List.cons_append]
  gi_wp2_with (refine ⟨trivial, ?_⟩; gi_at_call 38; refine (callsIn_wide.2 (words38 p n c _)).mono ?_; rintro e' w' ⟨rfl, rfl⟩)
  have hB0 : Below w.heap.size w ((((((w.alloc (Obj.cells #[Value.int IntKind.i64 0] 3)).alloc (Obj.cells #[Value.int IntKind.i64 0] 3)).alloc (Obj.cells #[Value.bool false] 4)).alloc (Obj.cells #[Value.slice none 0 0, Value.slice none 0 0, Value.slice none 0 0, Value.slice none 0 0] 84)).alloc (Obj.cells #[Value.int IntKind.i64 0] 3)).alloc (Obj.cells #[Value.slice p n c] 22)) :=
    ((((((Below.refl _ w).alloc (Nat.le_refl _) _).alloc (by simp) _).alloc (by simp; omega) _).alloc (by simp; omega) _).alloc (by simp; omega) _).alloc (by simp; omega) _
  have hs0 : ((((((w.alloc (Obj.cells #[Value.int IntKind.i64 0] 3)).alloc (Obj.cells #[Value.int IntKind.i64 0] 3)).alloc (Obj.cells #[Value.bool false] 4)).alloc (Obj.cells #[Value.slice none 0 0, Value.slice none 0 0, Value.slice none 0 0, Value.slice none 0 0] 84)).alloc (Obj.cells #[Value.int IntKind.i64 0] 3)).alloc (Obj.cells #[Value.slice p n c] 22)).heap.size = w.heap.size + 6 := by simp
  have x0 := (((((Boxed.new w 3 (.int .i64 0)).alloc (Obj.cells #[Value.int IntKind.i64 0] 3)).alloc (Obj.cells #[Value.bool false] 4)).alloc (Obj.cells #[Value.slice none 0 0, Value.slice none 0 0, Value.slice none 0 0, Value.slice none 0 0] 84)).alloc (Obj.cells #[Value.int IntKind.i64 0] 3)).alloc (Obj.cells #[Value.slice p n c] 22)
  have x1 := ((((Boxed.new (w.alloc (Obj.cells #[Value.int IntKind.i64 0] 3)) 3 (.int .i64 0)).alloc (Obj.cells #[Value.bool false] 4)).alloc (Obj.cells #[Value.slice none 0 0, Value.slice none 0 0, Value.slice none 0 0, Value.slice none 0 0] 84)).alloc (Obj.cells #[Value.int IntKind.i64 0] 3)).alloc (Obj.cells #[Value.slice p n c] 22)
  have x2 := (((Boxed.new ((w.alloc (Obj.cells #[Value.int IntKind.i64 0] 3)).alloc (Obj.cells #[Value.int IntKind.i64 0] 3)) 4 (.bool false)).alloc (Obj.cells #[Value.slice none 0 0, Value.slice none 0 0, Value.slice none 0 0, Value.slice none 0 0] 84)).alloc (Obj.cells #[Value.int IntKind.i64 0] 3)).alloc (Obj.cells #[Value.slice p n c] 22)
  have x4 := (Boxed.new ((((w.alloc (Obj.cells #[Value.int IntKind.i64 0] 3)).alloc (Obj.cells #[Value.int IntKind.i64 0] 3)).alloc (Obj.cells #[Value.bool false] 4)).alloc (Obj.cells #[Value.slice none 0 0, Value.slice none 0 0, Value.slice none 0 0, Value.slice none 0 0] 84)) 3 (.int .i64 0)).alloc (Obj.cells #[Value.slice p n c] 22)
  have x5 := Boxed.new (((((w.alloc (Obj.cells #[Value.int IntKind.i64 0] 3)).alloc (Obj.cells #[Value.int IntKind.i64 0] 3)).alloc (Obj.cells #[Value.bool false] 4)).alloc (Obj.cells #[Value.slice none 0 0, Value.slice none 0 0, Value.slice none 0 0, Value.slice none 0 0] 84)).alloc (Obj.cells #[Value.int IntKind.i64 0] 3)) 22 (.slice p n c)
  have x3 : ((((((w.alloc (Obj.cells #[Value.int IntKind.i64 0] 3)).alloc (Obj.cells #[Value.int IntKind.i64 0] 3)).alloc (Obj.cells #[Value.bool false] 4)).alloc (Obj.cells #[Value.slice none 0 0, Value.slice none 0 0, Value.slice none 0 0, Value.slice none 0 0] 84)).alloc (Obj.cells #[Value.int IntKind.i64 0] 3)).alloc (Obj.cells #[Value.slice p n c] 22)).heap[w.heap.size + 1 + 1 + 1]? = some (.cells #[Value.slice none 0 0, Value.slice none 0 0, Value.slice none 0 0, Value.slice none 0 0] 84 (0, 0)) := by
    rw [Below.heap_alloc _ _ _ (by simp), Below.heap_alloc _ _ _ (by simp)]
    have := World.alloc_heap_new (((w.alloc (Obj.cells #[Value.int IntKind.i64 0] 3)).alloc (Obj.cells #[Value.int IntKind.i64 0] 3)).alloc (Obj.cells #[Value.bool false] 4)) (Obj.cells #[Value.slice none 0 0, Value.slice none 0 0, Value.slice none 0 0, Value.slice none 0 0] 84)
    simpa using this
  simp only [World.size_alloc] at x0 x1 x2 x4 x5
  generalize ((((((w.alloc (Obj.cells #[Value.int IntKind.i64 0] 3)).alloc (Obj.cells #[Value.int IntKind.i64 0] 3)).alloc (Obj.cells #[Value.bool false] 4)).alloc (Obj.cells #[Value.slice none 0 0, Value.slice none 0 0, Value.slice none 0 0, Value.slice none 0 0] 84)).alloc (Obj.cells #[Value.int IntKind.i64 0] 3)).alloc (Obj.cells #[Value.slice p n c] 22)) = W0 at hB0 hs0 x0 x1 x2 x3 x4 x5 ⊢
  have hx0 : Txt tb W0 p c xs := HX.out.kept (hB0.block tb htb)
  have hit := words_iter tb (w.heap.size + 1 + 1 + 1 + 1 + 1) p n c xs W0 HN.out x5 hx0
  rw [HWS.out] at hit
  refine range_law rfl (enters_of Tryd.func47 (by kernel_rfl) rfl) hit (fun _ => rfl) WordV.book Keep2.trans (keep2_put (by omega) (by omega)) (fun _ _ _ _ => trivial)
    (fun k W => k ≤ 4 ∧ Boxed W w.heap.size 3 (.int .i64 0) ∧ Boxed W (w.heap.size + 1) 3 (.int .i64 0) ∧ Boxed W (w.heap.size + 1 + 1) 4 (.bool false) ∧ Boxed W (w.heap.size + 1 + 1 + 1 + 1) 3 (.int .i64 k) ∧
      (∃ v0 v1 v2 v3, W.heap[w.heap.size + 1 + 1 + 1]? = some (.cells #[v0, v1, v2, v3] 84 (0, 0)) ∧ RowJ tb ws k W 0 v0 ∧ RowJ tb ws k W 1 v1 ∧ RowJ tb ws k W 2 v2 ∧ RowJ tb ws k W 3 v3) ∧ Below w.heap.size w W)
    (fun cd k W => cd = .ret ∧ 5 ≤ k ∧ Boxed W w.heap.size 3 (.int .i64 0) ∧ Boxed W (w.heap.size + 1) 3 (.int .i64 0) ∧ Boxed W (w.heap.size + 1 + 1) 4 (.bool false) ∧ Below w.heap.size w W)
    ?hI ?hIx (fun _ h => by cases h) ?h0
    (fun x => { tmps := #[Value.slice p n c, undef, Value.pointer (some { block := w.heap.size, off := 0 }), Value.pointer (some { block := w.heap.size + 1, off := 0 }), Value.pointer (some { block := w.heap.size + 1 + 1, off := 0 }), Value.pointer (some { block := w.heap.size + 1 + 1 + 1, off := 0 }), Value.pointer (some { block := w.heap.size + 1 + 1 + 1 + 1, off := 0 }), x, undef, undef, Value.slice p n c, Value.func (Fn.func 47) #[] #[Value.pointer (some { block := w.heap.size + 1 + 1 + 1 + 1 + 1, off := 0 })], x, undef, undef, undef, undef, undef, undef, undef, undef, undef, undef, undef, undef, undef, undef, undef, undef, undef, undef, undef, undef, undef, undef, undef, undef, undef, undef, undef, undef, undef, undef, undef, undef, undef, undef, undef, undef, undef], defers := [] })
    ?assign ?body ?done ?stop
  case hI =>
    rintro k A B ⟨h1, h2, h3, h4, h5, ⟨v0, v1, v2, v3, h6, r0, r1, r2, r3⟩, h7⟩ hb
    have hr : ∀ j v, RowJ tb ws k A j v → RowJ tb ws k B j v := fun j v h => ⟨fun h' => (h.1 h').book hb (by simp), h.2⟩
    exact ⟨h1, hb.boxed h2 (by simp), hb.boxed h3 (by simp), hb.boxed h4 (by simp), hb.boxed h5 (by simp), ⟨v0, v1, v2, v3, hb.same _ _ h6 (by simp) (.inr rfl), hr _ _ r0, hr _ _ r1, hr _ _ r2, hr _ _ r3⟩, Book.below h7 (by omega) hb (by simp) (Nat.le_refl _)⟩
  case hIx =>
    rintro cd k A B ⟨h0, h1, h2, h3, h4, h7⟩ hb
    exact ⟨h0, h1, hb.boxed h2 (by simp), hb.boxed h3 (by simp), hb.boxed h4 (by simp), Book.below h7 (by omega) hb (by simp) (Nat.le_refl _)⟩
  case h0 =>
    have hr : ∀ j, RowJ tb ws 0 W0 j (.slice none 0 0) := fun j => ⟨fun h => by omega, fun _ => rfl⟩
    exact ⟨by omega, x0, x1, x2, x4, ⟨_, _, _, _, x3, hr _, hr _, hr _, hr _⟩, hB0⟩
  case assign =>
    intro l m x W K hK
    gi_wp2
    exact hK
  case body =>
    rintro l m k x W hl hk ⟨hk4, b1, b2, b3, b4, ⟨v0, v1, v2, v3, hr, r0, r1, r2, r3⟩, hB⟩ ⟨p', c', rfl, ht⟩
    have c1 := b1.cell
    have f1 := b1.frozen
    have c2 := b2.cell
    have f2 := b2.frozen
    have c3 := b3.cell
    have f3 := b3.frozen
    have c4 := b4.cell
    have f4 := b4.frozen
    have HB := hid hB
    have HT := hid ht
    have HR := hid hr
    by_cases h4 : k = 4
    · subst h4
      gi_wp2
      refine ⟨((KeepsOthers.setCell _ _ _).trans ((KeepsOthers.setCell _ _ _).trans (KeepsOthers.setCell _ _ _))).from _, rfl, by omega, ?_, ?_, ?_, ?_⟩
      · exact boxed_apart (boxed_apart (b1.set _) (by omega)) (by omega)
      · exact boxed_apart ((boxed_apart b2 (by omega)).set _) (by omega)
      · exact (boxed_apart (boxed_apart b3 (by omega)) (by omega)).set _
      · exact ((hB.setCell (p := ⟨w.heap.size, 0, none⟩) (Nat.le_refl _) _).setCell (p := ⟨w.heap.size + 1, 0, none⟩) (by simp) _).setCell (p := ⟨w.heap.size + 1 + 1, 0, none⟩) (by dsimp only; omega) _
    · have h4' : ¬ (k : Int) = 4 := by omega
      have cR : W.cell? ⟨w.heap.size + 1 + 1 + 1, k, none⟩ = some (#[v0, v1, v2, v3].getD k undef) := by
        rw [row_cell hr]
        obtain h | h | h | h : k = 0 ∨ k = 1 ∨ k = 2 ∨ k = 3 := by omega
        all_goals subst h; rfl
      have fR := row_frozen hr k
      have k1 : (0 : Int) ≤ k := by omega
      have k2 : (k : Int) < 4 := by omega
      have k3 : k < 4 := by omega
      have HS := hid (show SlT tb W (.slice p' (ws.getD k []).length c') (ws.getD k []) from ⟨_, _, rfl, ht⟩)
      generalize (ws.getD k []).length = wl at HS ⊢
      have B1 := hid b1
      have B2 := hid b2
      have B3 := hid b3
      have B4 := hid b4
      have R0 := hid r0
      have R1 := hid r1
      have R2 := hid r2
      have R3 := hid r3
      clear hr b1 b2 b3 b4 r0 r1 r2 r3 hB ht c1 c2 c3 f1 f2 f3 HT
      gi_wp2
      have ht' : ((W.setCell ⟨w.heap.size + 1 + 1 + 1, k, none⟩ (.slice p' wl c')).setCell ⟨w.heap.size + 1 + 1 + 1 + 1, 0, none⟩ (.int .i64 (k + 1))).heap[tb]? = W.heap[tb]? :=
        (heap_other _ _ (by omega)).trans (heap_other _ _ (by omega))
      refine ⟨((KeepsOthers.setCell _ _ _).trans (KeepsOthers.setCell _ _ _)).from _, ⟨(heap_other _ _ (by omega)).trans (heap_other _ _ (by omega)), ht'⟩, by omega, ?_, ?_, ?_, ?_, ?_, ?_⟩
      · exact boxed_apart (boxed_apart B1.out (by omega)) (by omega)
      · exact boxed_apart (boxed_apart B2.out (by omega)) (by omega)
      · exact boxed_apart (boxed_apart B3.out (by omega)) (by omega)
      · exact (boxed_apart B4.out (by omega)).set _
      · obtain h | h | h | h : k = 0 ∨ k = 1 ∨ k = 2 ∨ k = 3 := by omega
        all_goals
          subst h
          refine ⟨_, _, _, _, (heap_other _ _ (by omega)).trans (heap_set_row HR.out _), R0.out.next ht' HS.out ?_ ?_, R1.out.next ht' HS.out ?_ ?_, R2.out.next ht' HS.out ?_ ?_, R3.out.next ht' HS.out ?_ ?_⟩
          all_goals first | exact fun _ => rfl | exact fun h => by omega
      · exact (HB.out.setCell (p := ⟨w.heap.size + 1 + 1 + 1, k, none⟩) (by dsimp only; omega) _).setCell (p := ⟨w.heap.size + 1 + 1 + 1 + 1, 0, none⟩) (by dsimp only; omega) _
  case done =>
    rintro D W hD _ ⟨hk4, b1, b2, b3, b4, ⟨v0, v1, v2, v3, hr, r0, r1, r2, r3⟩, hB⟩ hdef
    have hsl : ∀ j v, RowJ tb ws ws.length W j v → SlT tb W v (ws.getD j []) := fun j v h => by
      rcases Nat.lt_or_ge j ws.length with h' | h'
      · exact h.1 h'
      · rw [h.2 h', List.getD_eq_getElem?_getD, List.getElem?_eq_none h']; exact SlT.nil tb W
    have s0 := hsl 0 v0 r0
    have s1 := hsl 1 v1 r1
    have s2 := hsl 2 v2 r2
    have s3 := hsl 3 v3 r3
    have hdb : Dim.hdB ws = (ws.getD 0 [] == [112] && ws.getD 1 [] == [99, 110, 102] && Dim.isNum (ws.getD 2 []) && Dim.isNum (ws.getD 3 [])) := by
      unfold Dim.hdB; rw [decide_eq_true hk4, Bool.true_and]
    clear hsl r0 r1 r2 r3 hit b4
    have HDB := hid hdb
    clear hdb
    have HE2 := hid (Eq.refl (ws.getD 2 []))
    have HE3 := hid (Eq.refl (ws.getD 3 []))
    generalize hy0 : ws.getD 0 [] = y0 at s0 HDB
    generalize hy1 : ws.getD 1 [] = y1 at s1 HDB
    generalize hy2 : ws.getD 2 [] = y2 at s2 HDB HE2
    generalize hy3 : ws.getD 3 [] = y3 at s3 HDB HE3
    have HY2 := hid hy2
    have HY3 := hid hy3
    clear hy0 hy1 hy2 hy3 HE2 HE3
    obtain ⟨p0, c0, rfl, t0⟩ := s0
    obtain ⟨p1, c1, rfl, t1⟩ := s1
    obtain ⟨p2, c2, rfl, t2⟩ := s2
    obtain ⟨p3, c3, rfl, t3⟩ := s3
    have e0 := row_cell hr 0
    have e1 := row_cell hr 1
    have e2 := row_cell hr 2
    have e3 := row_cell hr 3
    simp only [List.getElem?_toArray, List.getElem?_cons_zero, List.getElem?_cons_succ] at e0 e1 e2 e3
    have d1 := b1.cell
    have f1 := b1.frozen
    have d2 := b2.cell
    have f2 := b2.frozen
    have B1 := hid b1
    have B2 := hid b2
    have B3 := hid b3
    have HB := hid hB
    have HR := hid hr
    have HF := hid hdef
    have T0 := hid t0
    have T1 := hid t1
    have T2 := hid t2
    have T3 := hid t3
    clear b1 b2 b3 hB hr hdef t0 t1 t2 t3 x0 x1 x2 x3 x4 x5 hx0 hB0
    have N2 := hid (number39 tb p2 y2.length c2 y2 W rfl T2.out)
    gi_wp2_with (first
      | (refine ⟨trivial, ?_⟩; gi_at_call 39; refine (callsIn_wide.2 N2.out).mono ?_; clear N2; rintro e' w' ⟨rfl, hw'⟩; obtain rfl := hw'.symm)
      | (refine ⟨trivial, ?_⟩; gi_at_call 39; refine (callsIn_wide.2 (number39 tb p3 y3.length c3 y3 _ rfl (T3.out.kept (heap_other _ _ (by omega))))).mono ?_; rintro e' w' ⟨rfl, hw'⟩; obtain rfl := hw'.symm))
    have bV : Boxed ((W.setCell ⟨w.heap.size, 0, none⟩ (.int .i64 (Dim.numV y2))).setCell ⟨w.heap.size + 1, 0, none⟩ (.int .i64 (Dim.numV y3))) w.heap.size 3 (.int .i64 (Dim.numV y2)) := boxed_apart (B1.out.set _) (by omega)
    have bC : Boxed ((W.setCell ⟨w.heap.size, 0, none⟩ (.int .i64 (Dim.numV y2))).setCell ⟨w.heap.size + 1, 0, none⟩ (.int .i64 (Dim.numV y3))) (w.heap.size + 1) 3 (.int .i64 (Dim.numV y3)) := (boxed_apart B2.out (by omega)).set _
    have bO : Boxed ((W.setCell ⟨w.heap.size, 0, none⟩ (.int .i64 (Dim.numV y2))).setCell ⟨w.heap.size + 1, 0, none⟩ (.int .i64 (Dim.numV y3))) (w.heap.size + 1 + 1) 4 (.bool false) := boxed_apart (boxed_apart B3.out (by omega)) (by omega)
    have hR : ((W.setCell ⟨w.heap.size, 0, none⟩ (.int .i64 (Dim.numV y2))).setCell ⟨w.heap.size + 1, 0, none⟩ (.int .i64 (Dim.numV y3))).heap[w.heap.size + 1 + 1 + 1]? = _ := (heap_other _ _ (by omega)).trans ((heap_other _ _ (by omega)).trans HR.out)
    have hT : ((W.setCell ⟨w.heap.size, 0, none⟩ (.int .i64 (Dim.numV y2))).setCell ⟨w.heap.size + 1, 0, none⟩ (.int .i64 (Dim.numV y3))).heap[tb]? = W.heap[tb]? := (heap_other _ _ (by omega)).trans (heap_other _ _ (by omega))
    have hB2 : Below w.heap.size w ((W.setCell ⟨w.heap.size, 0, none⟩ (.int .i64 (Dim.numV y2))).setCell ⟨w.heap.size + 1, 0, none⟩ (.int .i64 (Dim.numV y3))) := (HB.out.setCell (p := ⟨w.heap.size, 0, none⟩) (Nat.le_refl _) _).setCell (p := ⟨w.heap.size + 1, 0, none⟩) (by simp) _
    have hM2 : ((W.setCell ⟨w.heap.size, 0, none⟩ (.int .i64 (Dim.numV y2))).setCell ⟨w.heap.size + 1, 0, none⟩ (.int .i64 (Dim.numV y3))).heap[D]? = _ := (heap_other _ _ (by omega)).trans ((heap_other _ _ (by omega)).trans HF.out)
    clear e0 e1 e2 e3 d1 d2 f1 f2
    generalize (W.setCell ⟨w.heap.size, 0, none⟩ (.int .i64 (Dim.numV y2))).setCell ⟨w.heap.size + 1, 0, none⟩ (.int .i64 (Dim.numV y3)) = W2 at bV bC bO hR hT hB2 hM2 ⊢
    have TT0 := T0.out.kept hT
    have TT1 := T1.out.kept hT
    have cv0 : (convert 22 9 (.slice p0 y0.length c0)).run Tryd.prog W2.drew = .ok (.string (strOfNums y0)) W2.drew := (TT0.kept (w' := W2.drew) rfl).bytesIn.convert rfl c0 22 5 9 Tryd.underlying22 Tryd.underlying5 Tryd.underlying9
    have cv1 : (convert 22 9 (.slice p1 y1.length c1)).run Tryd.prog W2.drew = .ok (.string (strOfNums y1)) W2.drew := (TT1.kept (w' := W2.drew) rfl).bytesIn.convert rfl c1 22 5 9 Tryd.underlying22 Tryd.underlying5 Tryd.underlying9
    have e0 := row_cell hR 0
    have e1 := row_cell hR 1
    simp only [List.getElem?_toArray, List.getElem?_cons_zero, List.getElem?_cons_succ] at e0 e1
    have dV := bV.cell
    have fV := bV.frozen
    have dC := bC.cell
    have fC := bC.frozen
    have dO := bO.cell
    have fO := bO.frozen
    have BV := hid bV
    have BC := hid bC
    have BO := hid bO
    have HB2 := hid hB2
    have HM2 := hid hM2
    have hY0 : Byt y0 := TT0.1
    have hY1 : Byt y1 := TT1.1
    have z0 : ((strOfNums y0).toList == [112]) = (y0 == [112]) := str_eq hY0 [112] (by intro x hx; simp at hx; omega)
    have z1 : ((strOfNums y1).toList == [99, 110, 102]) = (y1 == [99, 110, 102]) := str_eq hY1 [99, 110, 102] (by intro x hx; simp at hx; omega)
    clear bV bC bO hR hB2 hM2 hT TT0 TT1 hY0 hY1
    generalize hg0 : strOfNums y0 = S0 at cv0 z0
    generalize hg1 : strOfNums y1 = S1 at cv1 z1
    clear hg0 hg1
    generalize hl0 : y0.length = l0 at cv0 e0 HR
    generalize hl1 : y1.length = l1 at cv1 e1 HR
    clear hl0 hl1 T0 T1 T2 T3 B1 B2 B3 HB HF HR W
    generalize hn2 : Dim.isNum y2 = n2 at HDB ⊢
    generalize hn3 : Dim.isNum y3 = n3 at HDB ⊢
    generalize hb0 : (y0 == [112]) = q0 at HDB z0
    generalize hb1 : (y1 == [99, 110, 102]) = q1 at HDB z1
    generalize hv2 : Dim.numV y2 = u2 at *
    generalize hv3 : Dim.numV y3 = u3 at *
    have HV2 := hid hv2
    have HV3 := hid hv3
    clear hn2 hn3 hb0 hb1 hv2 hv3
    refine wpIn_wide.2 ?_
    have hcases : (q0 = false) ∨ (q0 = true ∧ q1 = false) ∨ (q0 = true ∧ q1 = true ∧ n2 = false) ∨ (q0 = true ∧ q1 = true ∧ n2 = true) := by
      cases q0 <;> cases q1 <;> cases n2 <;> simp
    rcases hcases with rfl | ⟨rfl, rfl⟩ | ⟨rfl, rfl, rfl⟩ | ⟨rfl, rfl, rfl⟩
    all_goals
      go_region
      gi_wp2
      refine leave_marks (B := w.heap.size + 6) ((Marks.nil _ _).cons (by omega) ?_ (by simp)) ?_
      · exact (heap_other _ _ (by omega)).trans ((heap_other _ _ (by omega)).trans ((heap_other _ _ (by omega)).trans HM2.out))
      · intro W' hb
        replace hb := hb.undrew
        refine ⟨_, results_cells3 rfl _ _ rfl rfl rfl (load_box3 _ (hb.boxed (boxed_apart (boxed_apart (BV.out.set _) (by omega)) (by omega)) (by simp))) (load_box3 _ (hb.boxed (boxed_apart ((boxed_apart BC.out (by omega)).set _) (by omega)) (by simp))) (load_box4 _ (hb.boxed ((boxed_apart (boxed_apart BO.out (by omega)) (by omega)).set _) (by simp))), u2, u3, ?_, fun _ => ⟨?_, ?_⟩, Book.below (n := w.heap.size) (((HB2.out.setCell (p := ⟨w.heap.size, 0, none⟩) (Nat.le_refl _) _).setCell (p := ⟨w.heap.size + 1, 0, none⟩) (by simp) _).setCell (p := ⟨w.heap.size + 1 + 1, 0, none⟩) (by dsimp only; omega) _) (by omega) hb (by simp) (Nat.le_refl _)⟩
        · rw [HDB.out]; try simp only [Bool.false_and, Bool.true_and]
        · rw [HY2.out, HV2.out]
        · rw [HY3.out, HV3.out]
  case stop =>
    rintro D cd k W hD hk ⟨rfl, hk5, b1, b2, b3, hB⟩ hdef
    have hdb : Dim.hdB ws = false := by unfold Dim.hdB; rw [decide_eq_false (by omega)]; rfl
    rw [hs0] at hD
    have HM := hid ((Marks.nil (w.heap.size + 6) W).cons hD hdef (by simp))
    clear hit x0 x1 x2 x3 x4 x5 hx0 hB0
    gi_wp2
    refine leave_marks HM.out fun W' hb => ⟨_, results_cells3 rfl _ _ rfl rfl rfl (load_box3 _ (hb.boxed b1 (by simp))) (load_box3 _ (hb.boxed b2 (by simp))) (load_box4 _ (hb.boxed b3 (by simp))), 0, 0, ?_, fun h => ?_, Book.below hB (by omega) hb (by simp) (Nat.le_refl _)⟩
    · rw [hdb]
    · rw [hdb] at h; cases h
end Go.Proofs.YtlhpnkgdnmnclaaDoor
