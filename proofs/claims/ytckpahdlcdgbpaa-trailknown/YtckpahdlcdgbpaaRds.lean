/- What the trail tells of itself. -/
import Derived.Test.YtckpahdlcdgbpaaTrM
namespace Go.Proofs.Ytckpahdlcdgbpaa
open Go.RowKit Go.Maps
set_option linter.unusedVariables false
set_option maxRecDepth 100000

theorem var16 (x : Int) (w : World) (h : I32 x) : Calls Try.prog 16 #[.int .i32 x] w fun e w' => e = .returned (.int .i64 (Trl.vr x)) ∧ w' = w := by
  have h1 := h.1
  have h2 := h.2
  clear h
  unfold Trl.vr
  by_cases hx : x < 0
  · rw [if_pos hx]
    go_enter Try.func16, Try.ntmps16
    go_wp2
    go_ret
    exact ⟨rfl, rfl⟩
  · rw [if_neg hx]
    go_enter Try.func16, Try.ntmps16
    go_wp2
    go_ret
    exact ⟨rfl, rfl⟩
theorem var53 (x : Int) (w : World) (h : I32 x) : Calls Try.prog 53 #[.int .i32 x] w fun e w' => e = .returned (.int .i64 (Trl.vr x)) ∧ w' = w := by
  have h1 := h.1
  have h2 := h.2
  clear h
  unfold Trl.vr
  by_cases hx : x < 0
  · rw [if_pos hx]
    go_enter Try.func53, Try.ntmps53
    go_wp2
    go_ret
    exact ⟨rfl, rfl⟩
  · rw [if_neg hx]
    go_enter Try.func53, Try.ntmps53
    go_wp2
    go_ret
    exact ⟨rfl, rfl⟩
theorem len23 {Q : Nat → Prop} {tb gv : Nat} {lv bv : Value} {n : Nat} {f : Nat → Trl.K} {R : List Trl.E} {B : List Nat} {h : Nat} {W : World} (H : Tr Q tb gv lv bv n f R B h W) :
    Calls Try.prog 23 #[.pointer (some ⟨tb, 0, none⟩)] W fun e w' => e = .returned (.int .i64 R.length) ∧ w' = W := by
  obtain ⟨o, c, rfl⟩ := own_slc H.lits
  have c1 := row_cell H.blk 1
  clear H
  go_enter Try.func23, Try.ntmps23
  go_wp2
  go_ret
  exact ⟨rfl, rfl⟩
theorem levels21 {Q : Nat → Prop} {tb gv : Nat} {lv bv : Value} {n : Nat} {f : Nat → Trl.K} {R : List Trl.E} {B : List Nat} {h : Nat} {W : World} (H : Tr Q tb gv lv bv n f R B h W) :
    Calls Try.prog 21 #[.pointer (some ⟨tb, 0, none⟩)] W fun e w' => e = .returned (.int .i64 B.length) ∧ w' = W := by
  obtain ⟨o, c, rfl⟩ := own_slc H.begs
  have c1 := row_cell H.blk 2
  clear H
  go_enter Try.func21, Try.ntmps21
  go_wp2
  go_ret
  exact ⟨rfl, rfl⟩
theorem vars20 {Q : Nat → Prop} {tb gv : Nat} {lv bv : Value} {n : Nat} {f : Nat → Trl.K} {R : List Trl.E} {B : List Nat} {h : Nat} {W : World} (H : Tr Q tb gv lv bv n f R B h W) :
    Calls Try.prog 20 #[.pointer (some ⟨tb, 0, none⟩)] W fun e w' => e = .returned (.int .i64 n) ∧ w' = W := by
  have c1 := row_cell H.blk 0
  clear H
  go_enter Try.func20, Try.ntmps20
  go_wp2
  go_ret
  exact ⟨rfl, rfl⟩
/-- What lies of a variable. -/
theorem Tr.cells {Q : Nat → Prop} {tb gv : Nat} {lv bv : Value} {n : Nat} {f : Nat → Trl.K} {R : List Trl.E} {B : List Nat} {h : Nat} {W : World} (H : Tr Q tb gv lv bv n f R B h W) {v : Nat} (hv : v < n) :
    W.cell? ⟨gv, v * 4, none⟩ = some (.int .i32 (f v).lit) ∧ W.cell? ⟨gv, v * 4 + 1, none⟩ = some (.int .i64 (f v).lev) ∧ W.cell? ⟨gv, v * 4 + 2, none⟩ = some (.int .i64 (f v).rea) ∧ W.cell? ⟨gv, v * 4 + 3, none⟩ = some (.int .i64 (f v).pla) ∧ ∀ t, W.frozen? ⟨gv, t, none⟩ = false := by
  obtain ⟨cur, h1, h2⟩ := H.var
  obtain ⟨a, b, c, d⟩ := h2.2 v hv
  exact ⟨(row_cell h1 _).trans a, (row_cell h1 _).trans b, (row_cell h1 _).trans c, (row_cell h1 _).trans d, fun t => row_frozen h1 t⟩
def Drawn (w w' : World) : Prop := ∃ q, w' = w.drewN q
theorem Drawn.refl (w : World) : Drawn w w := ⟨0, rfl⟩
theorem Drawn.drewN {w w' : World} (h : Drawn w w') (n : Nat) : Drawn w (w'.drewN n) := by obtain ⟨q, rfl⟩ := h; exact ⟨q + n, by rw [World.drewN_drewN]⟩
theorem Drawn.below {w w' : World} (h : Drawn w w') : Below w.heap.size w w' := by obtain ⟨q, rfl⟩ := h; exact ⟨rfl, rfl, rfl, Nat.le_refl _, fun _ _ => rfl⟩
theorem of42 {Q : Nat → Prop} {tb gv : Nat} {lv bv : Value} {n : Nat} {f : Nat → Trl.K} {R : List Trl.E} {B : List Nat} {h : Nat} {W : World} (H : Tr Q tb gv lv bv n f R B h W) (hn : n ≤ 1048576) (l : Int) (hl : I32 l) (v : Nat) (hv : Trl.vr l = (v : Int) + 1) (hvn : v < n) :
    Calls Try.prog 42 #[.pointer (some ⟨tb, 0, none⟩), .int .i32 l] W fun e w' => e = .returned (.pointer (some ⟨gv, v * 4, none⟩)) ∧ Drawn W w' := by
  have C := hid (fun w => var16 l w hl)
  rw [hv] at C
  have c1 := row_cell H.blk 0
  have hv' : (v : Int) < n := by omega
  have hv0 : (0 : Int) ≤ v := by omega
  clear H hv
  go_enter Try.func42, Try.ntmps42
  go_wp2_with (fail)
  go_quiet ((go_at_call 16; exact Calls.quiet_of_same (C.out _)))
  go_wp2
  go_ret
  exact ⟨rfl, nq, rfl⟩
/-- What about tells. -/
def known (k : Trl.K) : Value := .agg #[.int .i32 k.lit, .int .i64 k.lev, .int .i64 k.rea, .int .i64 k.pla]
abbrev zbox : Obj := .cells #[.int .i32 0, .int .i64 0, .int .i64 0, .int .i64 0] 74
theorem results74 {fn : Func} {p : Tmp} (h : fn.results = #[.cell p 74]) (tmps : Array Value) (w : World) (g : Nat) (k : Trl.K) (cs : Array Value) (hp : tmps.getD p undef = .pointer (some ⟨g, 0, none⟩)) (hg : w.heap[g]? = some (.cells cs 74 (0, 0))) (hc : cs = #[.int .i32 k.lit, .int .i64 k.lev, .int .i64 k.rea, .int .i64 k.pla]) :
    (results fn tmps).run Try.prog w = .ok (known k) w := by
  subst hc
  exact results_cell_row h tmps w g 74 _ (0, 0) _ hp hg Try.underlying74 rfl (by kernel_rfl)
theorem about47 {Q : Nat → Prop} {tb gv : Nat} {lv bv : Value} {n : Nat} {f : Nat → Trl.K} {R : List Trl.E} {B : List Nat} {h : Nat} {W : World} (H : Tr Q tb gv lv bv n f R B h W) (hn : n ≤ 1048576) (v : Nat) (hvn : v < n) :
    Calls Try.prog 47 #[.pointer (some ⟨tb, 0, none⟩), .int .i64 ((v : Int) + 1)] W fun e w' => e = .returned (known (f v)) ∧ Below W.heap.size W w' := by
  have hbx := below_box W zbox
  obtain ⟨d0, d1, d2, d3, _⟩ := (H.below hbx).cells hvn
  have c1 := row_cell (H.below hbx).blk 0
  have hv' : (v : Int) < n := by omega
  have hv2 : ¬ (v : Int) + 1 < 1 := by omega
  have hv3 : ¬ (n : Int) < (v : Int) + 1 := by omega
  generalize f v = k at *
  clear H hbx
  go_enter Try.func47, Try.ntmps47
  go_wp2
  refine bodyPost_ret (results74 rfl _ _ W.heap.size k _ rfl (heap_alloc_new _ _) rfl) rfl ?_
  exact ⟨rfl, below_box _ _⟩
theorem about47_no {Q : Nat → Prop} {tb gv : Nat} {lv bv : Value} {n : Nat} {f : Nat → Trl.K} {R : List Trl.E} {B : List Nat} {h : Nat} {W : World} (H : Tr Q tb gv lv bv n f R B h W) (v : Int) (hvn : v < 1 ∨ (n : Int) < v) :
    Calls Try.prog 47 #[.pointer (some ⟨tb, 0, none⟩), .int .i64 v] W fun e w' => e = .returned (known Trl.K0) ∧ Below W.heap.size W w' := by
  have c1 := row_cell (H.below (below_box W zbox)).blk 0
  clear H
  by_cases h2 : v < 1
  · clear hvn
    go_enter Try.func47, Try.ntmps47
    go_wp2
    refine bodyPost_ret (results74 rfl _ _ W.heap.size Trl.K0 _ rfl (heap_alloc_new _ _) rfl) rfl ?_
    exact ⟨rfl, below_box _ _⟩
  · have h3 : (n : Int) < v := by omega
    clear hvn
    go_enter Try.func47, Try.ntmps47
    go_wp2
    refine bodyPost_ret (results74 rfl _ _ W.heap.size Trl.K0 _ rfl (heap_alloc_new _ _) rfl) rfl ?_
    exact ⟨rfl, below_box _ _⟩
/-- Whatever number is asked of. -/
theorem about {Q : Nat → Prop} {tb n : Nat} {s : Trl.S} {W : World} (H : Trx Q tb n s W) (v : Int) :
    Calls Try.prog 47 #[.pointer (some ⟨tb, 0, none⟩), .int .i64 v] W fun e w' => e = .returned (known (Trl.know s.R v)) ∧ Below W.heap.size W w' := by
  obtain ⟨gv, lv, bv, h1, h2⟩ := H
  by_cases h : v < 1 ∨ (n : Int) < v
  · have : Trl.know s.R v = Trl.K0 := by
      unfold Trl.know
      rw [Trl.idx_no (fun e he hv => by have := h2.lits e he; omega)]
      rfl
    rw [this]
    exact about47_no h1 v h
  · obtain ⟨j, rfl⟩ : ∃ j : Nat, v = (j : Int) + 1 := ⟨(v - 1).toNat, by omega⟩
    exact about47 h1 h2.n j (by omega)
/-- The three that tell. -/
def sel : Nat → Trl.K → Int
  | 49, k => k.lev
  | 50, k => k.rea
  | _, k => k.pla
theorem levelOf49 (k : Trl.K) (W : World) : Calls Try.prog 49 #[known k] W fun e w' => e = .returned (.int .i64 k.lev) ∧ Below W.heap.size W w' := by
  unfold known
  go_enter Try.func49, Try.ntmps49
  go_wp2
  go_ret
  exact ⟨rfl, below_box _ _⟩
theorem reasonOf50 (k : Trl.K) (W : World) : Calls Try.prog 50 #[known k] W fun e w' => e = .returned (.int .i64 k.rea) ∧ Below W.heap.size W w' := by
  unfold known
  go_enter Try.func50, Try.ntmps50
  go_wp2
  go_ret
  exact ⟨rfl, below_box _ _⟩
theorem placeOf51 (k : Trl.K) (W : World) : Calls Try.prog 51 #[known k] W fun e w' => e = .returned (.int .i64 k.pla) ∧ Below W.heap.size W w' := by
  unfold known
  go_enter Try.func51, Try.ntmps51
  go_wp2
  go_ret
  exact ⟨rfl, below_box _ _⟩
theorem tell48_49 {Q : Nat → Prop} {tb n : Nat} {s : Trl.S} {W : World} (H : Trx Q tb n s W) (v : Int) :
    Calls Try.prog 48 #[.pointer (some ⟨tb, 0, none⟩), .int .i64 v, .func (.func 49) #[] #[]] W fun e w' => e = .returned (.int .i64 (if (Trl.know s.R v).lit = 0 then -1 else (Trl.know s.R v).lev)) ∧ Below W.heap.size W w' := by
  have C := hid (fun (w' : World) (hb : Below W.heap.size W w') => about (H.below hb) v)
  have CQ := hid (levelOf49 (Trl.know s.R v))
  generalize Trl.know s.R v = k at *
  unfold known at *
  clear H
  by_cases hk : k.lit = 0
  · have hk' : (k.lit == 0) = true := by simpa using hk
    rw [if_pos hk]
    go_enter Try.func48, Try.ntmps48
    go_wp2_with (fail)
    go_at_call 47
    refine (C.out _ (Below.refl _ _)).mono ?_
    rintro e w2 ⟨rfl, hb2⟩
    go_wp2
    go_ret
    exact ⟨rfl, hb2.alloc hb2.size _⟩
  · have hk' : (k.lit == 0) = false := by simpa using hk
    rw [if_neg hk]
    go_enter Try.func48, Try.ntmps48
    go_wp2_with (fail)
    go_at_call 47
    refine (C.out _ (Below.refl _ _)).mono ?_
    rintro e w2 ⟨rfl, hb2⟩
    go_wp2_with (fail)
    go_at_call 49
    refine (CQ.out _).mono ?_
    rintro e w3 ⟨rfl, hb3⟩
    go_wp2
    go_ret
    exact ⟨rfl, (hb2.alloc hb2.size _).trans (hb3.mono (by simp; exact Nat.le_succ_of_le hb2.size))⟩
theorem tell48_50 {Q : Nat → Prop} {tb n : Nat} {s : Trl.S} {W : World} (H : Trx Q tb n s W) (v : Int) :
    Calls Try.prog 48 #[.pointer (some ⟨tb, 0, none⟩), .int .i64 v, .func (.func 50) #[] #[]] W fun e w' => e = .returned (.int .i64 (if (Trl.know s.R v).lit = 0 then -1 else (Trl.know s.R v).rea)) ∧ Below W.heap.size W w' := by
  have C := hid (fun (w' : World) (hb : Below W.heap.size W w') => about (H.below hb) v)
  have CQ := hid (reasonOf50 (Trl.know s.R v))
  generalize Trl.know s.R v = k at *
  unfold known at *
  clear H
  by_cases hk : k.lit = 0
  · have hk' : (k.lit == 0) = true := by simpa using hk
    rw [if_pos hk]
    go_enter Try.func48, Try.ntmps48
    go_wp2_with (fail)
    go_at_call 47
    refine (C.out _ (Below.refl _ _)).mono ?_
    rintro e w2 ⟨rfl, hb2⟩
    go_wp2
    go_ret
    exact ⟨rfl, hb2.alloc hb2.size _⟩
  · have hk' : (k.lit == 0) = false := by simpa using hk
    rw [if_neg hk]
    go_enter Try.func48, Try.ntmps48
    go_wp2_with (fail)
    go_at_call 47
    refine (C.out _ (Below.refl _ _)).mono ?_
    rintro e w2 ⟨rfl, hb2⟩
    go_wp2_with (fail)
    go_at_call 50
    refine (CQ.out _).mono ?_
    rintro e w3 ⟨rfl, hb3⟩
    go_wp2
    go_ret
    exact ⟨rfl, (hb2.alloc hb2.size _).trans (hb3.mono (by simp; exact Nat.le_succ_of_le hb2.size))⟩
theorem tell48_51 {Q : Nat → Prop} {tb n : Nat} {s : Trl.S} {W : World} (H : Trx Q tb n s W) (v : Int) :
    Calls Try.prog 48 #[.pointer (some ⟨tb, 0, none⟩), .int .i64 v, .func (.func 51) #[] #[]] W fun e w' => e = .returned (.int .i64 (if (Trl.know s.R v).lit = 0 then -1 else (Trl.know s.R v).pla)) ∧ Below W.heap.size W w' := by
  have C := hid (fun (w' : World) (hb : Below W.heap.size W w') => about (H.below hb) v)
  have CQ := hid (placeOf51 (Trl.know s.R v))
  generalize Trl.know s.R v = k at *
  unfold known at *
  clear H
  by_cases hk : k.lit = 0
  · have hk' : (k.lit == 0) = true := by simpa using hk
    rw [if_pos hk]
    go_enter Try.func48, Try.ntmps48
    go_wp2_with (fail)
    go_at_call 47
    refine (C.out _ (Below.refl _ _)).mono ?_
    rintro e w2 ⟨rfl, hb2⟩
    go_wp2
    go_ret
    exact ⟨rfl, hb2.alloc hb2.size _⟩
  · have hk' : (k.lit == 0) = false := by simpa using hk
    rw [if_neg hk]
    go_enter Try.func48, Try.ntmps48
    go_wp2_with (fail)
    go_at_call 47
    refine (C.out _ (Below.refl _ _)).mono ?_
    rintro e w2 ⟨rfl, hb2⟩
    go_wp2_with (fail)
    go_at_call 51
    refine (CQ.out _).mono ?_
    rintro e w3 ⟨rfl, hb3⟩
    go_wp2
    go_ret
    exact ⟨rfl, (hb2.alloc hb2.size _).trans (hb3.mono (by simp; exact Nat.le_succ_of_le hb2.size))⟩
theorem level25 {Q : Nat → Prop} {tb n : Nat} {s : Trl.S} {W : World} (H : Trx Q tb n s W) (v : Int) :
    Calls Try.prog 25 #[.pointer (some ⟨tb, 0, none⟩), .int .i64 v] W fun e w' => e = .returned (.int .i64 (Trl.levelOf s.R v)) ∧ Below W.heap.size W w' := by
  have C := hid (tell48_49 H v)
  unfold Trl.levelOf
  generalize (if (Trl.know s.R v).lit = 0 then (-1 : Int) else (Trl.know s.R v).lev) = r at *
  go_enter Try.func25, Try.ntmps25
  go_wp2_with (fail)
  go_at_call 48
  refine C.out.mono ?_
  rintro e w2 ⟨rfl, hb2⟩
  go_wp2
  go_ret
  exact ⟨rfl, hb2⟩
theorem reason26 {Q : Nat → Prop} {tb n : Nat} {s : Trl.S} {W : World} (H : Trx Q tb n s W) (v : Int) :
    Calls Try.prog 26 #[.pointer (some ⟨tb, 0, none⟩), .int .i64 v] W fun e w' => e = .returned (.int .i64 (Trl.reasonOf s.R v)) ∧ Below W.heap.size W w' := by
  have C := hid (tell48_50 H v)
  unfold Trl.reasonOf
  generalize (if (Trl.know s.R v).lit = 0 then (-1 : Int) else (Trl.know s.R v).rea) = r at *
  go_enter Try.func26, Try.ntmps26
  go_wp2_with (fail)
  go_at_call 48
  refine C.out.mono ?_
  rintro e w2 ⟨rfl, hb2⟩
  go_wp2
  go_ret
  exact ⟨rfl, hb2⟩
theorem place27 {Q : Nat → Prop} {tb n : Nat} {s : Trl.S} {W : World} (H : Trx Q tb n s W) (v : Int) :
    Calls Try.prog 27 #[.pointer (some ⟨tb, 0, none⟩), .int .i64 v] W fun e w' => e = .returned (.int .i64 (Trl.placeOf s.R v)) ∧ Below W.heap.size W w' := by
  have C := hid (tell48_51 H v)
  unfold Trl.placeOf
  generalize (if (Trl.know s.R v).lit = 0 then (-1 : Int) else (Trl.know s.R v).pla) = r at *
  go_enter Try.func27, Try.ntmps27
  go_wp2_with (fail)
  go_at_call 48
  refine C.out.mono ?_
  rintro e w2 ⟨rfl, hb2⟩
  go_wp2
  go_ret
  exact ⟨rfl, hb2⟩
theorem field74 (l a b c : Value) (W : World) : (Instr.field 74 (.agg #[l, a, b, c]) 0).run Try.prog W = .ok l W := by kernel_rfl
theorem value24 {Q : Nat → Prop} {tb n : Nat} {s : Trl.S} {W : World} (H : Trx Q tb n s W) (l : Int) (hl : I32 l) :
    Calls Try.prog 24 #[.pointer (some ⟨tb, 0, none⟩), .int .i32 l] W fun e w' => e = .returned (.int .i64 (Trl.valueOf s.R l)) ∧ Below W.heap.size W w' := by
  have C := hid (about H (Trl.vr l))
  have CV := hid (var16 l W hl)
  have hfld := field74
  unfold Trl.valueOf
  generalize Trl.know s.R (Trl.vr l) = k at *
  generalize Trl.vr l = vl at *
  unfold known at *
  clear H
  by_cases hk : k.lit = 0
  · have hk' : (k.lit == 0) = true := by simpa using hk
    rw [if_pos hk]
    go_enter Try.func24, Try.ntmps24
    go_wp2_with (fail)
    go_at_call 16
    refine CV.out.mono ?_
    rintro e w2 ⟨rfl, hw2⟩
    rw [hw2]
    clear hw2
    go_wp2_with (fail)
    go_at_call 47
    refine C.out.mono ?_
    rintro e w2 ⟨rfl, hb2⟩
    go_wp2
    go_ret
    exact ⟨rfl, hb2⟩
  · have hk' : (k.lit == 0) = false := by simpa using hk
    rw [if_neg hk]
    by_cases hkl : k.lit = l
    · have hkl' : (k.lit == l) = true := by simpa using hkl
      rw [if_pos hkl]
      clear hkl
      go_enter Try.func24, Try.ntmps24
      go_wp2_with (fail)
      go_at_call 16
      refine CV.out.mono ?_
      rintro e w2 ⟨rfl, hw2⟩
      rw [hw2]
      clear hw2
      go_wp2_with (fail)
      go_at_call 47
      refine C.out.mono ?_
      rintro e w2 ⟨rfl, hb2⟩
      go_wp2
      go_ret
      exact ⟨rfl, hb2⟩
    · have hkl' : (k.lit == l) = false := by simpa using hkl
      rw [if_neg hkl]
      go_enter Try.func24, Try.ntmps24
      go_wp2_with (fail)
      go_at_call 16
      refine CV.out.mono ?_
      rintro e w2 ⟨rfl, hw2⟩
      rw [hw2]
      clear hw2
      go_wp2_with (fail)
      go_at_call 47
      refine C.out.mono ?_
      rintro e w2 ⟨rfl, hb2⟩
      go_wp2
      go_ret
      exact ⟨rfl, hb2⟩
end Go.Proofs.Ytckpahdlcdgbpaa
