/- The function that tells the words of all lines one by one, with their lines' numbers. -/
import Derived.Test.YtlhpnkgdnmnclaaDoorToHead
namespace Dim
theorem items_cons (n : Nat) (b : List Int) (h : b ≠ []) : items n (lines b) = (words (cutL b)).map (fun w => (n + 1, w)) ++ items (n + 1) (lines (cutR b)) := by
  rw [lines_cons b h, items]
end Dim
namespace Go.Proofs.YtlhpnkgdnmnclaaDoor
open Go.RowKit
set_option linter.unusedVariables false
attribute [local go_sem] Oper.semAt_some

/-- What a loop's body leaves as it was: what is no cells behind block l, and all variables and texts of these types. -/
def SafeT (t : TypeId) : Prop := t = 22 ∨ t = 53 ∨ t = 87 ∨ t = 3 ∨ t = 5
structure KeepS (l : Nat) (W W' : World) : Prop where
  size : W.heap.size ≤ W'.heap.size
  other : ∀ (k : Nat) (o : Obj), W.heap[k]? = some o → o.isCells = false → l < k → W'.heap[k]? = some o
  cells : ∀ (k : Nat) (cs : Array Value) (t : TypeId) (fr : Nat × Nat), W.heap[k]? = some (Obj.cells cs t fr) → SafeT t → W'.heap[k]? = some (Obj.cells cs t fr)

theorem KeepS.refl (l : Nat) (W : World) : KeepS l W W := ⟨Nat.le_refl _, fun _ _ h _ _ => h, fun _ _ _ _ h _ => h⟩
theorem KeepS.trans {l : Nat} {A B C : World} (h : KeepS l A B) (k : KeepS l B C) : KeepS l A C :=
  ⟨Nat.le_trans h.size k.size, fun i o hi ho hl => k.other i o (h.other i o hi ho hl) ho hl, fun i cs t fr hi ht => k.cells i cs t fr (h.cells i cs t fr hi ht) ht⟩
theorem KeepS.put (W : World) (l : Nat) (o o' : Obj) (h : W.heap[l]? = some o) (ho : o.isCells = false) : KeepS l W (W.putObj l o') := by
  refine ⟨by simp [World.putObj], fun k x hk _ hl => (World.putObj_heap_other (by omega)).trans hk, fun k cs t fr hk _ => ?_⟩
  have : k ≠ l := by
    rintro rfl
    rw [h] at hk
    cases hk
    cases ho
  exact (World.putObj_heap_other this).trans hk
theorem KeepS.boxed {l b : Nat} {W W' : World} {t : TypeId} {v : Value} (h : KeepS l W W') (hb : Boxed W b t v) (ht : SafeT t) : Boxed W' b t v := h.cells b _ t _ hb ht

/-- Block tb is a row of bytes. -/
def TB (tb : Nat) (W : World) : Prop := ∃ cs fr, W.heap[tb]? = some (.cells cs 5 fr)
theorem TB.lt {tb : Nat} {W : World} (h : TB tb W) : tb < W.heap.size := by obtain ⟨_, _, h⟩ := h; exact (Array.getElem?_eq_some_iff.1 h).1
theorem TB.book {tb B : Nat} {c : Option Nat} {W W' : World} (h : TB tb W) (hb : Book c B W W') (hc : c ≠ some tb) : TB tb W' := by obtain ⟨cs, fr, h⟩ := h; exact ⟨cs, fr, hb.same tb _ h hc (.inr rfl)⟩
theorem TB.keepS {tb l : Nat} {W W' : World} (h : TB tb W) (hb : KeepS l W W') : W'.heap[tb]? = W.heap[tb]? := by obtain ⟨cs, fr, h⟩ := h; rw [h]; exact hb.cells tb cs 5 fr h (.inr (.inr (.inr (.inr rfl))))
theorem TB.same {tb : Nat} {W W' : World} (h : TB tb W) (hb : W'.heap[tb]? = W.heap[tb]?) : TB tb W' := by obtain ⟨cs, fr, h⟩ := h; exact ⟨cs, fr, hb.trans h⟩
theorem TB.not_box {tb b : Nat} {W : World} {t : TypeId} {v : Value} (h : TB tb W) (hb : Boxed W b t v) (ht : t ≠ 5) : b ≠ tb := by
  rintro rfl
  obtain ⟨cs, fr, h⟩ := h
  rw [show W.heap[b]? = _ from hb] at h
  cases h
  exact ht rfl

theorem boxes_ne {W : World} {a b : Nat} {t u : TypeId} {v v' : Value} (h : Boxed W a t v) (k : Boxed W b u v') (hne : t ≠ u) : a ≠ b := by
  rintro rfl
  have := (show W.heap[a]? = _ from h).symm.trans k
  cases this
  exact hne rfl

theorem Book.count {B cb : Nat} (A : World) (u : Value) : Book (some cb) B A (A.setCell ⟨cb, 0, none⟩ u) :=
  ⟨rfl, rfl, rfl, by simp [World.setCell], fun k o hk hc _ => (heap_other _ _ (fun e => hc (by rw [e]))).trans hk⟩

/-- The pair of values that round k of a loop over all words is handed. -/
def ItemV (tb : Nat) (its : List (Nat × List Int)) (k : Nat) (x : Value × Value) (W : World) : Prop :=
  x.1 = .int .i64 ((its.getD k (0, [])).1) ∧ SlT tb W x.2 (its.getD k (0, [])).2

set_option maxRecDepth 100000 in
set_option maxHeartbeats 4000000 in
theorem lineWords40 (tb cb bb cx l k0 : Nat) (p : Option Addr) (n c : Nat) (xs : List Int) (J Jx : Nat → World → Prop) (W1 : World) (hn : xs.length = n) (hk0 : k0 + n < 1099511627776) (hlW : l < W1.heap.size)
    (hJ : ∀ k A B, J k A → Book (some cb) W1.heap.size A B → J k B) (hJx : ∀ k A B, Jx k A → Book none W1.heap.size A B → Jx k B)
    (hY : ∀ k x W, k < (Dim.items k0 (Dim.lines xs)).length → J k W → ItemV tb (Dim.items k0 (Dim.lines xs)) k x W → ∀ m, YieldAt Fence.wide m Tryd.prog l #[x.1, x.2] W fun e W' => (e = .returned (.bool true) ∧ J (k + 1) W' ∧ KeepS l W W') ∨ (e = .returned (.bool false) ∧ Jx (k + 1) W' ∧ KeepN l W W'))
    (hbb : Boxed W1 bb 22 (.slice p n c)) (hcx : Boxed W1 cx 53 (cnt cb)) (hcb : Boxed W1 cb 3 (.int .i64 k0)) (hx : Txt tb W1 p c xs) (htb : TB tb W1) (h0 : J 0 W1) :
    CallsIn Fence.wide 9 Tryd.prog 40 #[.func (.yield l) #[] #[], .pointer (some ⟨bb, 0, none⟩), .pointer (some ⟨cx, 0, none⟩)] W1 fun e W' => (∃ v, e = .returned v) ∧
      ((J (Dim.items k0 (Dim.lines xs)).length W' ∧ Boxed W' cb 3 (.int .i64 ((k0 + (Dim.lines xs).length : Nat) : Int))) ∨ ∃ k, k ≤ (Dim.items k0 (Dim.lines xs)).length ∧ Jx k W') := by
  have HX := hid hx
  have HN := hid hn
  have hnb : n ≤ 1099511627776 := by have := hx.2.1; have := hx.2.2.1; omega
  have dbb := (hbb.alloc (.cells #[.func (.yield l) #[] #[]] 87)).cell
  have HJ := hid hJ
  have HJx := hid hJx
  have HY := hid hY
  have HBB := hid hbb
  have HCX := hid hcx
  have HCB := hid hcb
  have HTB := hid htb
  have H0 := hid h0
  clear hx hn hJ hJx hY hbb hcx hcb htb h0
  obtain ⟨its, hits⟩ : ∃ its, Dim.items k0 (Dim.lines xs) = its := ⟨_, rfl⟩
  obtain ⟨tot, htot⟩ : ∃ tot, k0 + (Dim.lines xs).length = tot := ⟨_, rfl⟩
  have HI := hid hits
  have HTot := hid htot
  rw [hits] at HY ⊢
  rw [htot]
  clear hits htot
  refine callsIn_of_wp_marks Tryd.func40 rfl trivial ?_ rfl
  simp only [Tryd.ntmps40, List.size_toArray, List.length_cons, List.length_nil, Nat.reduceAdd, Nat.reduceSub, Array.replicate_succ, Array.replicate_zero, List.push_toArray, List.append_toArray, List.nil_append, List.cons_append]
  gi_wp2
  refine wpIn_loop (fun a' W => ∃ (u5 u6 u7 u8 u9 u10 u11 u12 u13 u14 u15 u16 u17 u18 u19 u20 u21 u22 u23 u24 u25 u26 : Value) (ds : List Deferred) (p' : Option Addr) (c' k idx : Nat) (b : List Int), (Boxed W W1.heap.size 87 (.func (.yield l) #[] #[]) ∧ Boxed W cx 53 (cnt cb) ∧ Boxed W cb 3 (.int .i64 (k : Nat)) ∧ Txt tb W p' c' b ∧ TB tb W ∧ J idx W ∧ its.drop idx = Dim.items k (Dim.lines b) ∧ k + (Dim.lines b).length = tot ∧ idx ≤ its.length ∧ k + b.length ≤ k0 + n ∧ Marks W1.heap.size W ds ∧ W1.heap.size < W.heap.size) ∧ a' = { tmps := #[Value.func (.yield l) #[] #[], Value.pointer (some { block := bb, off := 0 }), Value.pointer (some { block := cx, off := 0 }), Value.pointer (some { block := W1.heap.size, off := 0 }), .slice p' b.length c', u5, u6, u7, u8, u9, u10, u11, u12, u13, u14, u15, u16, u17, u18, u19, u20, u21, u22, u23, u24, u25, u26], defers := ds }) (fun a' _ => lenOf (some (a'.tmps.getD 4 undef))) ?start ?round
  case start =>
    refine ⟨_, _, _, _, _, _, _, _, _, _, _, _, _, _, _, _, _, _, _, _, _, _, [], p, c, k0, 0, xs, ⟨Boxed.new W1 87 _, HCX.out.alloc _, HCB.out.alloc _, HX.out.book (Book.alloc none 0 W1 _) (by simp), HTB.out.book (Book.alloc none 0 W1 _) (by simp), HJ.out 0 _ _ H0.out (Book.alloc _ _ _ _), by rw [HI.out]; rfl, HTot.out, Nat.zero_le _, by have := HN.out; omega, Marks.nil _ _, by simp⟩, by rw [HN.out]⟩
  case round =>
    rintro a' W ⟨u5, u6, u7, u8, u9, u10, u11, u12, u13, u14, u15, u16, u17, u18, u19, u20, u21, u22, u23, u24, u25, u26, ds, p', c', k, idx, b, ⟨b0, b2, b3, ht, htb, hj, hit, htot, hidx, hkb, hm, hsz⟩, rfl⟩
    have d0 := b0.cell
    have d2 := b2.cell
    have d3 := b3.cell
    have f3 := b3.frozen
    have B0 := hid b0
    have B2 := hid b2
    have B3 := hid b3
    have HT := hid ht
    have HTB2 := hid htb
    have HJ2 := hid hj
    have HI2 := hid hit
    have HM := hid hm
    have HTt := hid htot
    have hcl : cb < W.heap.size := b3.lt
    have htl : tb < W.heap.size := htb.lt
    have hct : cb ≠ tb := htb.not_box b3 (by decide)
    clear b0 b2 b3 ht htb hj hit hm htot
    by_cases hb0 : b = []
    · subst hb0
      have hi0 := HI2.out
      rw [Dim.lines_nil] at hi0
      have hlen := List.drop_eq_nil_iff.1 (show its.drop idx = [] from hi0)
      obtain rfl : idx = its.length := by omega
      have htt := HTt.out
      rw [Dim.lines_nil] at htt
      have hkt : k = tot := by simpa using htt
      subst hkt
      clear hi0 htt HX HN HI HTot
      gi_wp2
      exact leave_marks HM.out fun W2 hb => ⟨_, results_none rfl _ _ _, ⟨_, rfl⟩, .inl ⟨HJ.out _ _ _ HJ2.out (hb.any _), hb.boxed B3.out (by simp)⟩⟩
    · have hpos : 0 < b.length := List.length_pos_iff.2 hb0
      have hpos' : (0 : Int) < b.length := by omega
      have hkk : k < 1099511627776 := by omega
      have C37 := hid (cutLine37 tb p' b.length c' b W (.inr (by omega)) rfl HT.out)
      generalize hbl : b.length = bl at hpos hpos' C37 hkb ⊢
      have HBL := hid hbl
      clear hbl
      gi_wp2_with (first
        | (refine ⟨trivial, ?_⟩; gi_at_call 37; refine (callsIn_wide.2 C37.out).mono ?_; clear C37; rintro e1 w3 ⟨p1, c1, p2, c2, rfl, ht1, ht2, hbel⟩
           have X0 := (Book.of_below (B := 0) hbel none).boxed B0.out (by simp)
           have X2 := (Book.of_below (B := 0) hbel none).boxed B2.out (by simp)
           have X3 := (Book.of_below (B := 0) hbel none).boxed B3.out (by simp)
           have x2 := X2.cell
           have x3 := X3.cell
           have y3 := X3.frozen
           replace X0 := hid X0
           replace X2 := hid X2
           replace X3 := hid X3
           replace ht1 := hid ht1
           replace ht2 := hid ht2
           replace hbel := hid hbel)
        | (refine ⟨trivial, ?_⟩; gi_at_call 36; refine (callsIn_wide.2 (count36 cb k _ hkk X3.out.cell X3.out.frozen)).mono ?_; rintro e2 w4 ⟨rfl, hw4⟩; subst hw4)
        | (refine ⟨trivial, ?_⟩; gi_at_call 38; refine (callsIn_wide.2 (words38 _ _ _ _)).mono ?_; rintro e3 w5 ⟨rfl, hw5⟩; subst hw5))
      have hsz3 : W.heap.size ≤ w3.heap.size := hbel.out.size
      have x3l := X3.out.lt
      have Y0 : Boxed (((w3.setCell { block := cb, off := 0 } (Value.int IntKind.i64 (↑k + 1))).alloc (Obj.cells #[Value.int IntKind.i64 (↑k + 1)] 3)).alloc (Obj.cells #[Value.slice p1 (Dim.cutL b).length c1] 22)) W1.heap.size 87 (.func (.yield l) #[] #[]) := ((boxed_apart X0.out (boxes_ne X0.out X3.out (by decide))).alloc _).alloc _
      have Y2 : Boxed (((w3.setCell { block := cb, off := 0 } (Value.int IntKind.i64 (↑k + 1))).alloc (Obj.cells #[Value.int IntKind.i64 (↑k + 1)] 3)).alloc (Obj.cells #[Value.slice p1 (Dim.cutL b).length c1] 22)) cx 53 (cnt cb) := ((boxed_apart X2.out (boxes_ne X2.out X3.out (by decide))).alloc _).alloc _
      have Y3 : Boxed (((w3.setCell { block := cb, off := 0 } (Value.int IntKind.i64 (↑k + 1))).alloc (Obj.cells #[Value.int IntKind.i64 (↑k + 1)] 3)).alloc (Obj.cells #[Value.slice p1 (Dim.cutL b).length c1] 22)) cb 3 (.int .i64 ((k : Int) + 1)) := ((X3.out.set _).alloc _).alloc _
      have Y5 : Boxed (((w3.setCell { block := cb, off := 0 } (Value.int IntKind.i64 (↑k + 1))).alloc (Obj.cells #[Value.int IntKind.i64 (↑k + 1)] 3)).alloc (Obj.cells #[Value.slice p1 (Dim.cutL b).length c1] 22)) w3.heap.size 3 (.int .i64 ((k : Int) + 1)) := by
        have := (Boxed.new (w3.setCell { block := cb, off := 0 } (Value.int IntKind.i64 (↑k + 1))) 3 (.int .i64 ((k : Int) + 1))).alloc (Obj.cells #[Value.slice p1 (Dim.cutL b).length c1] 22)
        simpa [World.setCell] using this
      have Y4 : Boxed (((w3.setCell { block := cb, off := 0 } (Value.int IntKind.i64 (↑k + 1))).alloc (Obj.cells #[Value.int IntKind.i64 (↑k + 1)] 3)).alloc (Obj.cells #[Value.slice p1 (Dim.cutL b).length c1] 22)) (w3.heap.size + 1) 22 (.slice p1 (Dim.cutL b).length c1) := by
        have := Boxed.new ((w3.setCell { block := cb, off := 0 } (Value.int IntKind.i64 (↑k + 1))).alloc (Obj.cells #[Value.int IntKind.i64 (↑k + 1)] 3)) 22 (Value.slice p1 (Dim.cutL b).length c1)
        simpa [World.setCell] using this
      have YS : (((w3.setCell { block := cb, off := 0 } (Value.int IntKind.i64 (↑k + 1))).alloc (Obj.cells #[Value.int IntKind.i64 (↑k + 1)] 3)).alloc (Obj.cells #[Value.slice p1 (Dim.cutL b).length c1] 22)).heap.size = w3.heap.size + 2 := by simp [World.setCell]
      have YB : Book (some cb) W1.heap.size W (((w3.setCell { block := cb, off := 0 } (Value.int IntKind.i64 (↑k + 1))).alloc (Obj.cells #[Value.int IntKind.i64 (↑k + 1)] 3)).alloc (Obj.cells #[Value.slice p1 (Dim.cutL b).length c1] 22)) := (Book.of_below hbel.out _).trans ((Book.count _ _).trans ((Book.alloc _ _ _ _).trans (Book.alloc _ _ _ _)))
      have YC : Book (some cb) 0 w3 (((w3.setCell { block := cb, off := 0 } (Value.int IntKind.i64 (↑k + 1))).alloc (Obj.cells #[Value.int IntKind.i64 (↑k + 1)] 3)).alloc (Obj.cells #[Value.slice p1 (Dim.cutL b).length c1] 22)) := (Book.count _ _).trans ((Book.alloc _ _ _ _).trans (Book.alloc _ _ _ _))
      have YT := HTB2.out.book YB (by simp [hct])
      have YM : Marks W1.heap.size (((w3.setCell { block := cb, off := 0 } (Value.int IntKind.i64 (↑k + 1))).alloc (Obj.cells #[Value.int IntKind.i64 (↑k + 1)] 3)).alloc (Obj.cells #[Value.slice p1 (Dim.cutL b).length c1] 22)) ds := (((HM.out.below hbel.out).set _ _).alloc _).alloc _
      have YJ := HJ.out idx _ _ HJ2.out YB
      have YT1 := ht1.out.book YC (by simp [hct])
      have YT2 := ht2.out.book YC (by simp [hct])
      clear x2 x3 y3 X0 X2 X3 d0 d2 d3 f3 YC YB
      generalize (((w3.setCell { block := cb, off := 0 } (Value.int IntKind.i64 (↑k + 1))).alloc (Obj.cells #[Value.int IntKind.i64 (↑k + 1)] 3)).alloc (Obj.cells #[Value.slice p1 (Dim.cutL b).length c1] 22)) = W5 at Y0 Y2 Y3 Y4 Y5 YS YT YM YJ YT1 YT2 ⊢
      have hit := words_iter tb (w3.heap.size + 1) p1 (Dim.cutL b).length c1 (Dim.cutL b) W5 rfl Y4 YT1
      have hml := YM.lt
      have hdr := HI2.out
      rw [Dim.items_cons k b hb0] at hdr
      have HDR := hid hdr
      clear hdr
      have hcl5 : ∀ (j : Nat) (A A' : World), (J (idx + j) A ∧ Boxed A W1.heap.size 87 (.func (.yield l) #[] #[]) ∧ Boxed A cx 53 (cnt cb) ∧ Boxed A cb 3 (.int .i64 ((k : Int) + 1)) ∧ Boxed A w3.heap.size 3 (.int .i64 ((k : Int) + 1)) ∧ Boxed A (w3.heap.size + 1) 22 (.slice p1 (Dim.cutL b).length c1) ∧ Txt tb A p2 c2 (Dim.cutR b) ∧ TB tb A ∧ Marks W1.heap.size A ds ∧ W1.heap.size < A.heap.size) → Book none W5.heap.size A A' → (J (idx + j) A' ∧ Boxed A' W1.heap.size 87 (.func (.yield l) #[] #[]) ∧ Boxed A' cx 53 (cnt cb) ∧ Boxed A' cb 3 (.int .i64 ((k : Int) + 1)) ∧ Boxed A' w3.heap.size 3 (.int .i64 ((k : Int) + 1)) ∧ Boxed A' (w3.heap.size + 1) 22 (.slice p1 (Dim.cutL b).length c1) ∧ Txt tb A' p2 c2 (Dim.cutR b) ∧ TB tb A' ∧ Marks W1.heap.size A' ds ∧ W1.heap.size < A'.heap.size) := by
        rintro j A A' ⟨gj, g0, g2, g3, g5, g4, gt, gb, gm, gs⟩ hb
        exact ⟨HJ.out _ _ _ gj ((hb.mono (by omega)).any _), hb.boxed g0 (by simp), hb.boxed g2 (by simp), hb.boxed g3 (by simp), hb.boxed g5 (by simp), hb.boxed g4 (by simp), gt.book hb (by simp), gb.book hb (by simp), gm.bookU hml hb, Nat.lt_of_lt_of_le gs hb.size⟩
      have CL := hid hcl5
      clear hcl5
      refine range_law rfl (enters_of Tryd.func47 (by kernel_rfl) rfl) hit (fun _ => rfl) WordV.book Keep2.trans (keep2_put (by omega) (by omega)) (fun _ _ _ _ => trivial)
        (fun j W => J (idx + j) W ∧ Boxed W W1.heap.size 87 (.func (.yield l) #[] #[]) ∧ Boxed W cx 53 (cnt cb) ∧ Boxed W cb 3 (.int .i64 ((k : Int) + 1)) ∧ Boxed W w3.heap.size 3 (.int .i64 ((k : Int) + 1)) ∧ Boxed W (w3.heap.size + 1) 22 (.slice p1 (Dim.cutL b).length c1) ∧ Txt tb W p2 c2 (Dim.cutR b) ∧ TB tb W ∧ Marks W1.heap.size W ds ∧ W1.heap.size < W.heap.size) (fun cd j W => cd = .ret ∧ Jx (idx + j) W ∧ Marks W1.heap.size W ds) ?hI ?hIx (fun _ h => by cases h) ⟨YJ, Y0, Y2, Y3, Y5, Y4, YT2, YT, YM, by omega⟩
        (fun x => { tmps := #[Value.func (Fn.yield l) #[] #[], Value.pointer (some { block := bb, off := 0 }), Value.pointer (some { block := cx, off := 0 }), Value.pointer (some { block := W1.heap.size, off := 0 }), Value.slice p2 (Dim.cutR b).length c2, Value.slice p1 (Dim.cutL b).length c1, Value.pointer (some { block := w3.heap.size, off := 0 }), x, u8, Value.slice p' bl c', Value.int IntKind.i64 ↑bl, Value.bool true, Value.tuple #[Value.slice p1 (Dim.cutL b).length c1, Value.slice p2 (Dim.cutR b).length c2], Value.slice p' bl c', Value.tuple #[Value.slice p1 (Dim.cutL b).length c1, Value.slice p2 (Dim.cutR b).length c2], Value.slice p1 (Dim.cutL b).length c1, Value.slice p2 (Dim.cutR b).length c2, cnt cb, Value.int IntKind.i64 (↑k + 1), Value.slice p1 (Dim.cutL b).length c1, Value.func (Fn.func 47) #[] #[Value.pointer (some { block := w3.heap.size + 1, off := 0 })], x, u22, u23, u24, u25, u26], defers := [] }) ?assign ?body ?done ?stop
      case hI => exact fun j A A' h hb => CL.out j A A' h hb
      case hIx => exact fun cd j A A' h hb => ⟨h.1, HJx.out _ _ _ h.2.1 (hb.mono (by omega)), h.2.2.bookU hml hb⟩
      case assign =>
        intro l2 m x W' K hK
        gi_wp2
        exact hK
      case body =>
        rintro l2 m j x W' hl hj ⟨gj, g0, g2, g3, g5, g4, gt, gb, gm, gs⟩ ⟨px, cx', rfl, tx⟩
        have hget : its[idx + j]? = some (k + 1, (Dim.words (Dim.cutL b)).getD j []) := by
          have := congrArg (fun L : List (Nat × List Int) => L[j]?) HDR.out
          simp only [List.getElem?_drop] at this
          rw [this, List.getElem?_append_left (by simpa using hj)]
          simp [List.getElem?_eq_getElem hj]
        have hlt2 : idx + j < its.length := (List.getElem?_eq_some_iff.1 hget).1
        generalize (Dim.words (Dim.cutL b)).getD j [] = wd at tx hget ⊢
        obtain ⟨fn, tmps, assign, body, hy, hR⟩ := HY.out (idx + j) (.int .i64 ((k : Int) + 1), .slice px wd.length cx') W' hlt2 gj ⟨by rw [getD_of hget]; rfl, px, cx', by rw [getD_of hget], by rw [getD_of hget]; exact tx⟩ (m - 1)
        dsimp only at hy
        have d0 := g0.cell
        have d5 := g5.cell
        have G := hid (And.intro g0 (And.intro g2 (And.intro g3 (And.intro g5 (And.intro g4 (And.intro gt (And.intro gb (And.intro gm gs))))))))
        clear hit Y0 Y2 Y3 Y4 Y5 YT YM YJ YT1 YT2 g0 g2 g3 g5 g4 gt gb gm gs tx hget
        gi_wp2
        refine ⟨fun h => (by cases h), ?_⟩
        refine RoundIn.mono (show RoundIn (Fence.wide.inRound l2) (m - 1) Tryd.prog l fn tmps assign body W' _ from hR) ?_
        rintro e3 W3 (⟨rfl, hJ3, hk3⟩ | ⟨rfl, hJx3, hk3⟩)
        · obtain ⟨g0, g2, g3, g5, g4, gt, gb, gm, gs⟩ := G.out
          have hkf : KeepsFrom W5.heap.size W' W3 := ⟨hk3.size, fun q o hq ho hc => hk3.other q o ho hc (by omega)⟩
          have hkm : KeepsFrom W1.heap.size W' W3 := ⟨hk3.size, fun q o hq ho hc => hk3.other q o ho hc (by omega)⟩
          have hx4 := gb.keepS hk3
          have hbx : W3.heap[w3.heap.size + 1]? = W'.heap[w3.heap.size + 1]? := (show W3.heap[w3.heap.size + 1]? = _ from hk3.boxed g4 (.inl rfl)).trans (show W'.heap[w3.heap.size + 1]? = _ from g4).symm
          clear G
          gi_wp2
          exact ⟨hkf, ⟨hbx, hx4⟩, hJ3, hk3.boxed g0 (.inr (.inr (.inl rfl))), hk3.boxed g2 (.inr (.inl rfl)), hk3.boxed g3 (.inr (.inr (.inr (.inl rfl)))), hk3.boxed g5 (.inr (.inr (.inr (.inl rfl)))), hk3.boxed g4 (.inl rfl), gt.kept hx4, gb.same hx4, gm.kept hkm, Nat.lt_of_lt_of_le gs hk3.size⟩
        · obtain ⟨g0, g2, g3, g5, g4, gt, gb, gm, gs⟩ := G.out
          have hkf : KeepsFrom W5.heap.size W' W3 := ⟨hk3.size, fun q o hq ho hc => hk3.same q o ho hc (by omega)⟩
          have hkm : KeepsFrom W1.heap.size W' W3 := ⟨hk3.size, fun q o hq ho hc => hk3.same q o ho hc (by omega)⟩
          clear G
          gi_wp2
          exact ⟨hkf, rfl, hJx3, gm.kept hkm⟩
      case done =>
        rintro D W' hD _ ⟨gj, g0, g2, g3, g5, g4, gt, gb, gm, gs⟩ hdef
        have hcl := Dim.cut_lt b hb0
        have hbl := HBL.out
        have hdr := HDR.out
        have hlen : its.length = idx + ((Dim.words (Dim.cutL b)).length + (Dim.items (k + 1) (Dim.lines (Dim.cutR b))).length) := by
          have := congrArg List.length hdr
          simp at this; omega
        have hdr2 : its.drop (idx + (Dim.words (Dim.cutL b)).length) = Dim.items (k + 1) (Dim.lines (Dim.cutR b)) := by
          rw [← List.drop_drop, hdr, List.drop_left' (by simp)]
        have htt := HTt.out
        rw [Dim.lines_cons b hb0, List.length_cons] at htt
        have G := hid (And.intro gj (And.intro g0 (And.intro g2 (And.intro g3 (And.intro g5 (And.intro g4 (And.intro gt (And.intro gb (And.intro gm gs)))))))))
        clear hit Y0 Y2 Y3 Y4 Y5 YT YM YJ YT1 YT2 gj g0 g2 g3 g5 g4 gt gb gm gs hdr
        gi_wp2
        obtain ⟨gj, g0, g2, g3, g5, g4, gt, gb, gm, gs⟩ := G.out
        refine ⟨⟨_, _, _, _, _, _, _, _, _, _, _, _, _, _, _, _, _, _, _, _, _, _, _, p2, c2, k + 1, _, Dim.cutR b, ⟨g0, g2, g3, gt, gb, gj, hdr2, by omega, by omega, by omega, gm.cons (D := D) (by omega) hdef (fun d hd D' he => Nat.lt_of_lt_of_le (hml d hd D' he) hD), gs⟩, rfl⟩, ?_⟩
        show (Dim.cutR b).length < bl
        omega
      case stop =>
        rintro D cd j W' hD hj ⟨rfl, hjx, gm⟩ hdef
        have HM2 := hid (gm.cons (D := D) (by omega) hdef (fun d hd D' he => Nat.lt_of_lt_of_le (hml d hd D' he) hD))
        have hlen : idx + (Dim.words (Dim.cutL b)).length ≤ its.length := by
          have := congrArg List.length HDR.out
          simp at this; omega
        have HJX := hid hjx
        clear hit Y0 Y2 Y3 Y4 Y5 YT YM YJ YT1 YT2 gm hjx
        gi_wp2
        exact leave_marks HM2.out fun W2 hb => ⟨_, results_none rfl _ _ _, ⟨_, rfl⟩, .inr ⟨idx + j, by omega, HJx.out _ _ _ HJX.out hb⟩⟩
end Go.Proofs.YtlhpnkgdnmnclaaDoor
