/- The first line that has words. -/
import Derived.Test.YtlhpnkgdnmnclaaDoorHead
namespace Go.Proofs.YtlhpnkgdnmnclaaDoor
open Go.RowKit
set_option linter.unusedVariables false
attribute [local go_sem] Oper.semAt_some

/-- Below n all lies as it lay, but for block cb. -/
structure CntB (cb n : Nat) (w W : World) : Prop where
  os : W.os = w.os
  tape : W.tape = w.tape
  output : W.output = w.output
  size : w.heap.size ≤ W.heap.size
  block : ∀ k, k < n → k ≠ cb → W.heap[k]? = w.heap[k]?

theorem CntB.refl (cb n : Nat) (w : World) : CntB cb n w w := ⟨rfl, rfl, rfl, Nat.le_refl _, fun _ _ _ => rfl⟩
theorem CntB.trans {cb n : Nat} {a b c : World} (h : CntB cb n a b) (k : CntB cb n b c) : CntB cb n a c := ⟨k.os.trans h.os, k.tape.trans h.tape, k.output.trans h.output, Nat.le_trans h.size k.size, fun i hi hc => (k.block i hi hc).trans (h.block i hi hc)⟩
theorem CntB.of_below {cb n : Nat} {a b : World} (h : Below n a b) : CntB cb n a b := ⟨h.os, h.tape, h.output, h.size, fun i hi _ => h.block i hi⟩
theorem CntB.mono {cb n n' : Nat} {a b : World} (h : CntB cb n a b) (hn : n' ≤ n) : CntB cb n' a b := ⟨h.os, h.tape, h.output, h.size, fun i hi hc => h.block i (by omega) hc⟩
theorem CntB.set {cb n : Nat} {a : World} {b k : Nat} (h : n ≤ b ∨ b = cb) (u : Value) : CntB cb n a (a.setCell ⟨b, k, none⟩ u) := ⟨rfl, rfl, rfl, by simp [World.setCell], fun i hi hc => heap_other _ _ (by omega)⟩
theorem CntB.put {cb n : Nat} {w a : World} {b k : Nat} {u : Value} (h : CntB cb n w a) (hb : n ≤ b ∨ b = cb) : CntB cb n w (a.setCell ⟨b, k, none⟩ u) := h.trans (CntB.set hb u)
theorem CntB.alloc {cb n : Nat} {a : World} (h : n ≤ a.heap.size) (o : Obj) : CntB cb n a (a.alloc o) := .of_below ((Below.refl _ _).alloc h o)
theorem CntB.book {cb n B : Nat} {cc : Option Nat} {a b : World} (h : Book cc B a b) (hn : n ≤ B) (hs : n ≤ a.heap.size) (hc : cc = none ∨ cc = some cb) : CntB cb n a b :=
  ⟨h.os, h.tape, h.output, h.size, fun i hi hne => by
    have hlt : i < a.heap.size := by omega
    have e := Array.getElem?_eq_getElem hlt
    rw [e]
    exact h.same i _ e (by rcases hc with rfl | rfl <;> simp; omega) (.inl (by omega))⟩

theorem Marks.bookU {B U : Nat} {A A' : World} {ds : List Deferred} (h : Marks B A ds) (hlt : ∀ d ∈ ds, ∀ D', d.target = .collected D' → D' < U) (hk : Book none U A A') : Marks B A' ds := by
  obtain ⟨Ds, rfl, h2, h3⟩ := h
  exact ⟨Ds, rfl, h2, fun D hD => ⟨(h3 D hD).1, hk.same D _ (h3 D hD).2 (by simp) (.inl (hlt _ (List.mem_map_of_mem hD) D rfl))⟩⟩
theorem Marks.set {B : Nat} {A : World} {ds : List Deferred} (h : Marks B A ds) (a : Addr) (u : Value) : Marks B (A.setCell a u) ds := h.kept ((KeepsOthers.setCell _ _ _).from _)
theorem Marks.alloc {B : Nat} {A : World} {ds : List Deferred} (h : Marks B A ds) (o : Obj) : Marks B (A.alloc o) ds := h.kept ((KeepsOthers.alloc _ _).from _)

theorem Book.drewn (c : Option Nat) (B : Nat) (A : World) : Book c B A A.drew := ⟨rfl, rfl, rfl, Nat.le_refl _, fun _ _ h _ _ => h⟩
def lenOf : Option Value → Nat | some (.slice _ n _) => n | _ => 0

/-- The function value that counts, by the cell in block cb. -/
abbrev cnt (cb : Nat) : Value := .func (.func 36) #[] #[.pointer (some ⟨cb, 0, none⟩)]

set_option maxRecDepth 100000 in
set_option maxHeartbeats 4000000 in
theorem toHead23 (tb cb k0 : Nat) (p : Option Addr) (n c : Nat) (xs : List Int) (w : World) (htb : tb < w.heap.size) (hcb : Boxed w cb 3 (.int .i64 k0)) (hne : cb ≠ tb) (hn : xs.length = n) (hx : Txt tb w p c xs) (hk0 : k0 + n < 1099511627776) :
    Calls Tryd.prog 23 #[.slice p n c, cnt cb] w fun e w' => ∃ p1 c1 p2 c2, e = .returned (.tuple #[.slice p1 (Dim.headT k0 xs).1.length c1, .slice p2 (Dim.headT k0 xs).2.1.length c2, .int .i64 (Dim.headT k0 xs).2.2]) ∧
      Txt tb w' p1 c1 (Dim.headT k0 xs).1 ∧ Txt tb w' p2 c2 (Dim.headT k0 xs).2.1 ∧ Boxed w' cb 3 (.int .i64 (Dim.headT k0 xs).2.2) ∧ CntB cb w.heap.size w w' := by
  have HX := hid hx
  have HN := hid hn
  have HCB := hid hcb
  have hnb : n ≤ 1099511627776 := by have := hx.2.1; have := hx.2.2.1; omega
  clear hx hn
  obtain ⟨hd, hhd⟩ : ∃ hd, Dim.headT k0 xs = hd := ⟨_, rfl⟩
  have HHD := hid hhd
  rw [hhd]
  clear hhd
  refine (callsIn_wide (n := 9)).1 ?_
  refine callsIn_of_wp_marks Tryd.func23 rfl trivial ?_ rfl
  simp only [Tryd.ntmps23, List.size_toArray, List.length_cons, List.length_nil, Nat.reduceAdd, Nat.reduceSub, Array.replicate_succ, Array.replicate_zero, List.push_toArray, List.append_toArray, List.nil_append, List.cons_append]
  gi_wp2
  have hlt := hcb.lt
  have q1 : ¬ w.heap.size = cb := by omega
  have q2 : ¬ cb = w.heap.size := by omega
  have q3 : ¬ w.heap.size + 1 = cb := by omega
  have q4 : ¬ cb = w.heap.size + 1 := by omega
  have q5 : ¬ w.heap.size + 1 + 1 = cb := by omega
  have q6 : ¬ cb = w.heap.size + 1 + 1 := by omega
  refine wpIn_loop (fun a' W => ∃ (u8 u9 u10 u11 u12 u13 u14 u15 u16 u17 u18 u19 u20 u21 u22 u23 u24 u25 : Value) (ds : List Deferred), (∃ (p' : Option Addr) (c' k : Nat) (b : List Int) (hv av : Value), Boxed W w.heap.size 22 hv ∧ Boxed W (w.heap.size + 1) 22 (.slice p' b.length c') ∧ Boxed W (w.heap.size + 1 + 1) 3 av ∧ Boxed W cb 3 (.int .i64 k) ∧ Txt tb W p' c' b ∧ Dim.headT k b = hd ∧ k + b.length ≤ k0 + n ∧ Marks w.heap.size W ds ∧ CntB cb w.heap.size w W) ∧ a' = { tmps := #[Value.slice p n c, cnt cb, undef, undef, Value.pointer (some { block := w.heap.size, off := 0 }), Value.pointer (some { block := w.heap.size + 1, off := 0 }), Value.pointer (some { block := w.heap.size + 1 + 1, off := 0 }), Value.slice p n c, u8, u9, u10, u11, u12, u13, u14, u15, u16, u17, u18, u19, u20, u21, u22, u23, u24, u25], defers := ds }) (fun _ W => lenOf (W.cell? ⟨w.heap.size + 1, 0, none⟩)) ?start ?round
  case start =>
    refine ⟨_, _, _, _, _, _, _, _, _, _, _, _, _, _, _, _, _, _, [], ?_, rfl⟩
    have hB0 : Below w.heap.size w (((w.alloc (Obj.cells #[Value.slice none 0 0] 22)).alloc (Obj.cells #[Value.slice p n c] 22)).alloc (Obj.cells #[Value.int IntKind.i64 0] 3)) :=
      (((Below.refl _ w).alloc (Nat.le_refl _) _).alloc (by simp) _).alloc (by simp; omega) _
    have x0 := ((Boxed.new w 22 (.slice none 0 0)).alloc (Obj.cells #[Value.slice p n c] 22)).alloc (Obj.cells #[Value.int IntKind.i64 0] 3)
    have x1 := (Boxed.new (w.alloc (Obj.cells #[Value.slice none 0 0] 22)) 22 (.slice p n c)).alloc (Obj.cells #[Value.int IntKind.i64 0] 3)
    have x2 := Boxed.new ((w.alloc (Obj.cells #[Value.slice none 0 0] 22)).alloc (Obj.cells #[Value.slice p n c] 22)) 3 (.int .i64 0)
    simp only [World.size_alloc] at x0 x1 x2
    have x3 := ((hcb.alloc (Obj.cells #[Value.slice none 0 0] 22)).alloc (Obj.cells #[Value.slice p n c] 22)).alloc (Obj.cells #[Value.int IntKind.i64 0] 3)
    exact ⟨p, c, k0, xs, _, _, x0, by rw [HN.out]; exact x1, x2, x3, HX.out.kept (hB0.block tb htb), HHD.out, by have := HN.out; omega, Marks.nil _ _, .of_below hB0⟩
  case round =>
    rintro a' W ⟨u8, u9, u10, u11, u12, u13, u14, u15, u16, u17, u18, u19, u20, u21, u22, u23, u24, u25, ds, ⟨p', c', k, b, hv, av, b0, b1, b2, b3, ht, hh, hkb, hm, hB⟩, rfl⟩
    have d0 := b0.cell
    have f0 := b0.frozen
    have d1 := b1.cell
    have f1 := b1.frozen
    have d2 := b2.cell
    have f2 := b2.frozen
    have d3 := b3.cell
    have f3 := b3.frozen
    have hsz : w.heap.size + 3 ≤ W.heap.size := b2.lt
    have B0 := hid b0
    have B1 := hid b1
    have B2 := hid b2
    have B3 := hid b3
    have HT := hid ht
    have HH := hid hh
    have HM := hid hm
    have HB := hid hB
    have hkk : k < 1099511627776 := by omega
    clear b0 b1 b2 b3 ht hh hm hB
    by_cases hb0 : b = []
    · subst hb0
      have hh := HH.out
      rw [Dim.headT_nil] at hh
      subst hh
      have C36 := hid (count36 cb k W (by omega) d3 f3)
      clear HX HN HHD
      gi_wp2_with (refine ⟨trivial, ?_⟩; gi_at_call 36; refine (callsIn_wide.2 C36.out).mono ?_; rintro e2 w4 ⟨rfl, hw4⟩; subst hw4)
      refine leave_marks ((((HM.out.set _ _).set _ _).set _ _).set _ _) fun W2 hb => ?_
      refine ⟨_, results_cells3 rfl _ _ rfl rfl rfl (load_box22 _ (hb.boxed (boxed_apart (boxed_apart ((boxed_apart B0.out (by omega)).set _) (by omega)) (by omega)) (by simp))) (load_box22 _ (hb.boxed (boxed_apart ((boxed_apart (boxed_apart B1.out (by omega)) (by omega)).set _) (by omega)) (by simp))) (load_box3 _ (hb.boxed ((boxed_apart (boxed_apart (boxed_apart B2.out (by omega)) (by omega)) (by omega)).set _) (by simp))), none, 0, none, 0, rfl, ?_, ?_, hb.boxed (boxed_apart (boxed_apart (boxed_apart (B3.out.set _) (by omega)) (by omega)) (by omega)) (by simp), (CntB.put (CntB.put (CntB.put (CntB.put HB.out (.inr rfl)) (.inl (by omega))) (.inl (by omega))) (.inl (by omega))).trans (CntB.book hb (by omega) (by simp [World.setCell]; omega) (.inl rfl))⟩
      all_goals exact ⟨fun x h => (by cases h), Nat.le_refl _, by simp, .inl ⟨rfl, rfl, rfl⟩⟩
    · have hpos : 0 < b.length := List.length_pos_iff.2 hb0
      have hpos' : (0 : Int) < b.length := by omega
      have C37 := hid (cutLine37 tb p' b.length c' b W (.inr (by omega)) rfl HT.out)
      generalize hbl : b.length = bl at d1 hpos hpos' B1 C37 hkb
      have HBL := hid hbl
      clear hbl
      gi_wp2_with (first
        | (refine ⟨trivial, ?_⟩; gi_at_call 37; refine (callsIn_wide.2 C37.out).mono ?_; clear C37; rintro e1 w3 ⟨p1, c1, p2, c2, rfl, ht1, ht2, hbel⟩
           have X0 := (Book.of_below (B := 0) hbel none).boxed B0.out (by simp)
           have X1 := (Book.of_below (B := 0) hbel none).boxed B1.out (by simp)
           have X2 := (Book.of_below (B := 0) hbel none).boxed B2.out (by simp)
           have X3 := (Book.of_below (B := 0) hbel none).boxed B3.out (by simp)
           have x0 := X0.cell
           have y0 := X0.frozen
           have x1 := X1.cell
           have y1 := X1.frozen
           have x2 := X2.cell
           have y2 := X2.frozen
           have x3 := X3.cell
           have y3 := X3.frozen
           replace X0 := hid X0
           replace X1 := hid X1
           replace X2 := hid X2
           replace X3 := hid X3
           replace ht1 := hid ht1
           replace ht2 := hid ht2
           replace hbel := hid hbel)
        | (refine ⟨trivial, ?_⟩; gi_at_call 36; refine (callsIn_wide.2 (count36 cb k _ (by omega) (boxed_apart (boxed_apart X3.out (by omega)) (by omega)).cell (boxed_apart (boxed_apart X3.out (by omega)) (by omega)).frozen)).mono ?_; rintro e2 w4 ⟨rfl, hw4⟩; subst hw4)
        | (refine ⟨trivial, ?_⟩; gi_at_call 38; refine (callsIn_wide.2 (words38 _ _ _ _)).mono ?_; rintro e3 w5 ⟨rfl, hw5⟩; subst hw5))
      have hsz3 : W.heap.size ≤ w3.heap.size := hbel.out.size
      have Z0 : Boxed (((((w3.setCell { block := w.heap.size, off := 0 } (Value.slice p1 (Dim.cutL b).length c1)).setCell { block := w.heap.size + 1, off := 0 } (Value.slice p2 (Dim.cutR b).length c2)).setCell { block := cb, off := 0 } (Value.int IntKind.i64 (↑k + 1))).setCell { block := w.heap.size + 1 + 1, off := 0 } (Value.int IntKind.i64 (↑k + 1))).alloc (Obj.cells #[Value.slice p1 (Dim.cutL b).length c1] 22)) w.heap.size 22 (.slice p1 (Dim.cutL b).length c1) := (boxed_apart (boxed_apart (boxed_apart (X0.out.set _) (by omega)) (by omega)) (by omega)).alloc _
      have Z1 : Boxed (((((w3.setCell { block := w.heap.size, off := 0 } (Value.slice p1 (Dim.cutL b).length c1)).setCell { block := w.heap.size + 1, off := 0 } (Value.slice p2 (Dim.cutR b).length c2)).setCell { block := cb, off := 0 } (Value.int IntKind.i64 (↑k + 1))).setCell { block := w.heap.size + 1 + 1, off := 0 } (Value.int IntKind.i64 (↑k + 1))).alloc (Obj.cells #[Value.slice p1 (Dim.cutL b).length c1] 22)) (w.heap.size + 1) 22 (.slice p2 (Dim.cutR b).length c2) := (boxed_apart (boxed_apart ((boxed_apart X1.out (by omega)).set _) (by omega)) (by omega)).alloc _
      have Z2 : Boxed (((((w3.setCell { block := w.heap.size, off := 0 } (Value.slice p1 (Dim.cutL b).length c1)).setCell { block := w.heap.size + 1, off := 0 } (Value.slice p2 (Dim.cutR b).length c2)).setCell { block := cb, off := 0 } (Value.int IntKind.i64 (↑k + 1))).setCell { block := w.heap.size + 1 + 1, off := 0 } (Value.int IntKind.i64 (↑k + 1))).alloc (Obj.cells #[Value.slice p1 (Dim.cutL b).length c1] 22)) (w.heap.size + 1 + 1) 3 (.int .i64 ((k : Int) + 1)) := ((boxed_apart (boxed_apart (boxed_apart X2.out (by omega)) (by omega)) (by omega)).set _).alloc _
      have Z3 : Boxed (((((w3.setCell { block := w.heap.size, off := 0 } (Value.slice p1 (Dim.cutL b).length c1)).setCell { block := w.heap.size + 1, off := 0 } (Value.slice p2 (Dim.cutR b).length c2)).setCell { block := cb, off := 0 } (Value.int IntKind.i64 (↑k + 1))).setCell { block := w.heap.size + 1 + 1, off := 0 } (Value.int IntKind.i64 (↑k + 1))).alloc (Obj.cells #[Value.slice p1 (Dim.cutL b).length c1] 22)) cb 3 (.int .i64 ((k : Int) + 1)) := (boxed_apart ((boxed_apart (boxed_apart X3.out (by omega)) (by omega)).set _) (by omega)).alloc _
      have Z4 : Boxed (((((w3.setCell { block := w.heap.size, off := 0 } (Value.slice p1 (Dim.cutL b).length c1)).setCell { block := w.heap.size + 1, off := 0 } (Value.slice p2 (Dim.cutR b).length c2)).setCell { block := cb, off := 0 } (Value.int IntKind.i64 (↑k + 1))).setCell { block := w.heap.size + 1 + 1, off := 0 } (Value.int IntKind.i64 (↑k + 1))).alloc (Obj.cells #[Value.slice p1 (Dim.cutL b).length c1] 22)) w3.heap.size 22 (.slice p1 (Dim.cutL b).length c1) := by
        have := Boxed.new ((((w3.setCell { block := w.heap.size, off := 0 } (Value.slice p1 (Dim.cutL b).length c1)).setCell { block := w.heap.size + 1, off := 0 } (Value.slice p2 (Dim.cutR b).length c2)).setCell { block := cb, off := 0 } (Value.int IntKind.i64 (↑k + 1))).setCell { block := w.heap.size + 1 + 1, off := 0 } (Value.int IntKind.i64 (↑k + 1))) 22 (Value.slice p1 (Dim.cutL b).length c1)
        simpa [World.setCell] using this
      have ZB : (((((w3.setCell { block := w.heap.size, off := 0 } (Value.slice p1 (Dim.cutL b).length c1)).setCell { block := w.heap.size + 1, off := 0 } (Value.slice p2 (Dim.cutR b).length c2)).setCell { block := cb, off := 0 } (Value.int IntKind.i64 (↑k + 1))).setCell { block := w.heap.size + 1 + 1, off := 0 } (Value.int IntKind.i64 (↑k + 1))).alloc (Obj.cells #[Value.slice p1 (Dim.cutL b).length c1] 22)).heap[tb]? = w3.heap[tb]? := (Below.heap_alloc _ _ _ (by simp [World.setCell]; omega)).trans ((heap_other _ _ (by omega)).trans ((heap_other _ _ (by omega)).trans ((heap_other _ _ (by omega)).trans (heap_other _ _ (by omega)))))
      have ZS : (((((w3.setCell { block := w.heap.size, off := 0 } (Value.slice p1 (Dim.cutL b).length c1)).setCell { block := w.heap.size + 1, off := 0 } (Value.slice p2 (Dim.cutR b).length c2)).setCell { block := cb, off := 0 } (Value.int IntKind.i64 (↑k + 1))).setCell { block := w.heap.size + 1 + 1, off := 0 } (Value.int IntKind.i64 (↑k + 1))).alloc (Obj.cells #[Value.slice p1 (Dim.cutL b).length c1] 22)).heap.size = w3.heap.size + 1 := by simp [World.setCell]
      have ZM : Marks w.heap.size (((((w3.setCell { block := w.heap.size, off := 0 } (Value.slice p1 (Dim.cutL b).length c1)).setCell { block := w.heap.size + 1, off := 0 } (Value.slice p2 (Dim.cutR b).length c2)).setCell { block := cb, off := 0 } (Value.int IntKind.i64 (↑k + 1))).setCell { block := w.heap.size + 1 + 1, off := 0 } (Value.int IntKind.i64 (↑k + 1))).alloc (Obj.cells #[Value.slice p1 (Dim.cutL b).length c1] 22)) ds := (((((HM.out.below hbel.out).set _ _).set _ _).set _ _).set _ _).alloc _
      have ZC : CntB cb w.heap.size w (((((w3.setCell { block := w.heap.size, off := 0 } (Value.slice p1 (Dim.cutL b).length c1)).setCell { block := w.heap.size + 1, off := 0 } (Value.slice p2 (Dim.cutR b).length c2)).setCell { block := cb, off := 0 } (Value.int IntKind.i64 (↑k + 1))).setCell { block := w.heap.size + 1 + 1, off := 0 } (Value.int IntKind.i64 (↑k + 1))).alloc (Obj.cells #[Value.slice p1 (Dim.cutL b).length c1] 22)) := HB.out.trans ((CntB.of_below (hbel.out.mono (by omega))).trans (((((CntB.set (.inl (Nat.le_refl _)) _).trans (CntB.set (.inl (by omega)) _)).trans (CntB.set (.inr rfl) _)).trans (CntB.set (.inl (by omega)) _)).trans (CntB.alloc (by simp [World.setCell]; omega) _)))
      have ZT1 := ht1.out.kept ZB
      have ZT2 := ht2.out.kept ZB
      clear x0 x1 x2 x3 y0 y1 y2 y3 X0 X1 X2 X3 d0 d1 d2 d3 f0 f1 f2 f3
      generalize (((((w3.setCell { block := w.heap.size, off := 0 } (Value.slice p1 (Dim.cutL b).length c1)).setCell { block := w.heap.size + 1, off := 0 } (Value.slice p2 (Dim.cutR b).length c2)).setCell { block := cb, off := 0 } (Value.int IntKind.i64 (↑k + 1))).setCell { block := w.heap.size + 1 + 1, off := 0 } (Value.int IntKind.i64 (↑k + 1))).alloc (Obj.cells #[Value.slice p1 (Dim.cutL b).length c1] 22)) = W5 at Z0 Z1 Z2 Z3 Z4 ZB ZS ZM ZC ZT1 ZT2 ⊢
      have hit := words_iter tb w3.heap.size p1 (Dim.cutL b).length c1 (Dim.cutL b) W5 rfl Z4 ZT1
      have hml := ZM.lt
      have clos : ∀ A A' : World, (Boxed A w.heap.size 22 (.slice p1 (Dim.cutL b).length c1) ∧ Boxed A (w.heap.size + 1) 22 (.slice p2 (Dim.cutR b).length c2) ∧ Boxed A (w.heap.size + 1 + 1) 3 (.int .i64 ((k : Int) + 1)) ∧ Boxed A cb 3 (.int .i64 ((k : Int) + 1)) ∧ Txt tb A p1 c1 (Dim.cutL b) ∧ Txt tb A p2 c2 (Dim.cutR b) ∧ Marks w.heap.size A ds ∧ CntB cb w.heap.size w A) → Book none W5.heap.size A A' → (Boxed A' w.heap.size 22 (.slice p1 (Dim.cutL b).length c1) ∧ Boxed A' (w.heap.size + 1) 22 (.slice p2 (Dim.cutR b).length c2) ∧ Boxed A' (w.heap.size + 1 + 1) 3 (.int .i64 ((k : Int) + 1)) ∧ Boxed A' cb 3 (.int .i64 ((k : Int) + 1)) ∧ Txt tb A' p1 c1 (Dim.cutL b) ∧ Txt tb A' p2 c2 (Dim.cutR b) ∧ Marks w.heap.size A' ds ∧ CntB cb w.heap.size w A') := by
        rintro A A' ⟨g0, g1, g2, g3, g4, g5, g6, g7⟩ hb
        exact ⟨hb.boxed g0 (by simp), hb.boxed g1 (by simp), hb.boxed g2 (by simp), hb.boxed g3 (by simp), g4.book hb (by simp), g5.book hb (by simp), g6.bookU hml hb, g7.trans (CntB.book hb (by omega) (Nat.le_of_lt g0.lt) (.inl rfl))⟩
      have CL := hid clos
      clear clos
      refine range_law rfl (enters_of Tryd.func47 (by kernel_rfl) rfl) hit (fun _ => rfl) WordV.book Keep2.trans (keep2_put (by omega) (by omega)) (fun _ _ _ _ => trivial)
        (fun j W => j = 0 ∧ Boxed W w.heap.size 22 (.slice p1 (Dim.cutL b).length c1) ∧ Boxed W (w.heap.size + 1) 22 (.slice p2 (Dim.cutR b).length c2) ∧ Boxed W (w.heap.size + 1 + 1) 3 (.int .i64 ((k : Int) + 1)) ∧ Boxed W cb 3 (.int .i64 ((k : Int) + 1)) ∧ Txt tb W p1 c1 (Dim.cutL b) ∧ Txt tb W p2 c2 (Dim.cutR b) ∧ Marks w.heap.size W ds ∧ CntB cb w.heap.size w W) (fun cd j W => cd = .ret ∧ 1 ≤ j ∧ Boxed W w.heap.size 22 (.slice p1 (Dim.cutL b).length c1) ∧ Boxed W (w.heap.size + 1) 22 (.slice p2 (Dim.cutR b).length c2) ∧ Boxed W (w.heap.size + 1 + 1) 3 (.int .i64 ((k : Int) + 1)) ∧ Boxed W cb 3 (.int .i64 ((k : Int) + 1)) ∧ Txt tb W p1 c1 (Dim.cutL b) ∧ Txt tb W p2 c2 (Dim.cutR b) ∧ Marks w.heap.size W ds ∧ CntB cb w.heap.size w W) ?hI ?hIx (fun _ h => by cases h) ⟨rfl, Z0, Z1, Z2, Z3, ZT1, ZT2, ZM, ZC⟩
        (fun x => { tmps := #[Value.slice p n c, cnt cb, undef, undef, Value.pointer (some { block := w.heap.size, off := 0 }), Value.pointer (some { block := w.heap.size + 1, off := 0 }), Value.pointer (some { block := w.heap.size + 1 + 1, off := 0 }), Value.slice p n c, Value.slice p' bl c', Value.int IntKind.i64 ↑bl, Value.bool true, Value.tuple #[Value.slice p1 (Dim.cutL b).length c1, Value.slice p2 (Dim.cutR b).length c2], Value.slice p' bl c', Value.tuple #[Value.slice p1 (Dim.cutL b).length c1, Value.slice p2 (Dim.cutR b).length c2], Value.slice p1 (Dim.cutL b).length c1, Value.slice p2 (Dim.cutR b).length c2, cnt cb, Value.int IntKind.i64 (↑k + 1), Value.slice p1 (Dim.cutL b).length c1, Value.func (Fn.func 47) #[] #[Value.pointer (some { block := w3.heap.size, off := 0 })], x, u21, u22, u23, u24, u25], defers := [] }) ?assign ?body ?done ?stop
      case hI => exact fun j A A' h hb => ⟨h.1, CL.out A A' h.2 hb⟩
      case hIx => exact fun cd j A A' h hb => ⟨h.1, h.2.1, CL.out A A' h.2.2 hb⟩
      case assign =>
        intro l m x W K hK
        gi_wp2
        simpa using hK
      case body =>
        rintro l m j x W' hl hj ⟨rfl, g0, g1, g2, g3, g4, g5, g6, g7⟩ hx
        have d0 := g0.cell
        have f0 := g0.frozen
        have d1 := g1.cell
        have f1 := g1.frozen
        have d2 := g2.cell
        have f2 := g2.frozen
        have G := hid (And.intro g0 (And.intro g1 (And.intro g2 (And.intro g3 (And.intro g4 (And.intro g5 (And.intro g6 g7)))))))
        clear g0 g1 g2 g3 g4 g5 g6 g7 hit Z0 Z1 Z2 Z3 Z4 ZB ZM ZC ZT1 ZT2 hx
        gi_wp2
        gi_region
        all_goals
          gi_wp2
          obtain ⟨g0, g1, g2, g3, g4, g5, g6, g7⟩ := G.out
          refine ⟨((((KeepsOthers.setCell _ _ _).trans (KeepsOthers.setCell _ _ _)).trans (KeepsOthers.setCell _ _ _)).trans (KeepsOthers.drew _)).from _, rfl, Nat.le_refl _, CL.out _ _ ⟨?_, ?_, ?_, ?_, ?_, ?_, ?_, ?_⟩ (Book.drewn _ _ _)⟩
          · exact boxed_apart (boxed_apart (g0.set _) (by omega)) (by omega)
          · exact boxed_apart ((boxed_apart g1 (by omega)).set _) (by omega)
          · exact (boxed_apart (boxed_apart g2 (by omega)) (by omega)).set _
          · exact boxed_apart (boxed_apart (boxed_apart g3 (by omega)) (by omega)) (by omega)
          · exact g4.kept ((heap_other _ _ (by omega)).trans ((heap_other _ _ (by omega)).trans (heap_other _ _ (by omega))))
          · exact g5.kept ((heap_other _ _ (by omega)).trans ((heap_other _ _ (by omega)).trans (heap_other _ _ (by omega))))
          · exact ((g6.set _ _).set _ _).set _ _
          · exact CntB.put (CntB.put (CntB.put g7 (.inl (by omega))) (.inl (by omega))) (.inl (by omega))
      case done =>
        rintro D W' hD _ ⟨hN, g0, g1, g2, g3, g4, g5, g6, g7⟩ hdef
        have hw0 : Dim.words (Dim.cutL b) = [] := List.eq_nil_of_length_eq_zero hN
        have hh := HH.out
        rw [Dim.headT_skip k b hb0 hw0] at hh
        have hcl := Dim.cut_lt b hb0
        have hbl := HBL.out
        have G := hid (And.intro g0 (And.intro g1 (And.intro g2 (And.intro g3 (And.intro g4 (And.intro g5 (And.intro g6 g7)))))))
        clear hit Z0 Z1 Z2 Z3 Z4 ZB ZM ZC ZT1 ZT2 g0 g1 g2 g3 g4 g5 g6 g7
        gi_wp2
        obtain ⟨g0, g1, g2, g3, g4, g5, g6, g7⟩ := G.out
        refine ⟨⟨_, _, _, _, _, _, _, _, _, _, _, _, _, _, _, _, _, _, _, ⟨p2, c2, k + 1, Dim.cutR b, _, _, g0, g1, g2, g3, g5, hh, by omega, g6.cons (D := D) (by omega) hdef (fun d hd D' he => Nat.lt_of_lt_of_le (hml d hd D' he) hD), g7⟩, rfl⟩, ?_⟩
        rw [g1.cell, B1.out.cell]
        simp only [lenOf]
        omega
      case stop =>
        rintro D cd j W' hD hj ⟨rfl, hj1, g0, g1, g2, g3, g4, g5, g6, g7⟩ hdef
        have hw0 : Dim.words (Dim.cutL b) ≠ [] := fun h => by rw [h] at hj; simp at hj; omega
        have hh := HH.out
        rw [Dim.headT_stop k b hb0 hw0] at hh
        subst hh
        have HM2 := hid (g6.cons (D := D) (by omega) hdef (fun d hd D' he => Nat.lt_of_lt_of_le (hml d hd D' he) hD))
        have G := hid (And.intro g0 (And.intro g1 (And.intro g2 (And.intro g3 (And.intro g4 (And.intro g5 (And.intro g6 g7)))))))
        clear hit Z0 Z1 Z2 Z3 Z4 ZB ZM ZC ZT1 ZT2 g0 g1 g2 g3 g4 g5 g6 g7
        gi_wp2
        refine leave_marks HM2.out fun W2 hb => ?_
        obtain ⟨g0, g1, g2, g3, g4, g5, g6, g7⟩ := G.out
        exact ⟨_, results_cells3 rfl _ _ rfl rfl rfl (load_box22 _ (hb.boxed g0 (by simp))) (load_box22 _ (hb.boxed g1 (by simp))) (load_box3 _ (hb.boxed g2 (by simp))), p1, c1, p2, c2, rfl, g4.book hb (by simp), g5.book hb (by simp), hb.boxed g3 (by simp), g7.trans (CntB.book hb (by omega) (Nat.le_of_lt g0.lt) (.inl rfl))⟩
end Go.Proofs.YtlhpnkgdnmnclaaDoor
