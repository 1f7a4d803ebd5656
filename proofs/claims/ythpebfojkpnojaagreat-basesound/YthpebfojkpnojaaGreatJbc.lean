/- The first model, by the program. -/
import Derived.Test.YthpebfojkpnojaaGreatJbb
/- The first model, by the program. -/
namespace Go.Proofs.YthpebfojkpnojaaGreat.Tr
open Go.RowKit Go.Lib Go.Sort Go.Shelf
set_option linter.unusedVariables false
set_option linter.unusedSimpArgs false

theorem box_on {n b : Nat} {A B : World} {t : TypeId} {v : Value} (h : Below n A B) (hb : Boxed A b t v) (hn : b < n) : Boxed B b t v := (h.block b hn).trans hb
theorem Up.box {C b : Nat} {A B : World} {t : TypeId} {v : Value} (h : Up C A B) (hb : Boxed A b t v) (hn : C ≤ b) : Boxed B b t v := h.same b _ hn hb rfl
theorem Up.set0 {b k : Nat} {W : World} {a : Option Addr} {xs : List Bool} (v : Value) (h : Bools W a xs) (hb : ∀ x, a = some x → x.block ≠ b) : Bools (W.setCell ⟨b, k, none⟩ v) a xs := by
  rcases h with h | ⟨c, off, rfl, hl, hc⟩
  · exact .inl h
  · refine .inr ⟨c, off, rfl, by simpa [World.setCell] using hl, fun j hj => ?_⟩
    rw [World.cell?_of_block (w := W) (a := ⟨c, off + j, none⟩) (heap_other W v (hb ⟨c, off, none⟩ rfl))]
    exact hc j hj

/-- The variables that Find answers by. -/
structure Three (b : Nat) (W : World) (x y z : Value) : Prop where
  b1 : Boxed W (b + 1) 62 x
  b2 : Boxed W (b + 1 + 1) 4 y
  b3 : Boxed W (b + 1 + 1 + 1) 29 z
theorem Three.on {n b : Nat} {A B : World} {x y z : Value} (h : Three b A x y z) (hb : Below n A B) (hn : b + 3 < n) : Three b B x y z := ⟨box_on hb h.b1 (by omega), box_on hb h.b2 (by omega), box_on hb h.b3 (by omega)⟩
theorem Three.up {b : Nat} {A B : World} {x y z : Value} (h : Three b A x y z) (hb : Up 0 A B) : Three b B x y z := ⟨hb.box h.b1 (by omega), hb.box h.b2 (by omega), hb.box h.b3 (by omega)⟩
theorem Three.set {b : Nat} {A : World} {x y z : Value} (x' y' z' : Value) (h : Three b A x y z) : Three b (((A.setCell ⟨b + 1, 0, none⟩ x').setCell ⟨b + 1 + 1, 0, none⟩ y').setCell ⟨b + 1 + 1 + 1, 0, none⟩ z') x' y' z' :=
  ⟨boxed_apart (boxed_apart (h.b1.set _) (by omega)) (by omega), boxed_apart ((boxed_apart h.b2 (by omega)).set _) (by omega), (boxed_apart (boxed_apart h.b3 (by omega)) (by omega)).set _⟩
theorem Three.results {b n : Nat} {W : World} {x y z : Value} (h : Three b W x y z) {tmps : Array Value} (h1 : tmps.getD 2 undef = .pointer (some ⟨b + 1, 0, none⟩)) (h2 : tmps.getD 3 undef = .pointer (some ⟨b + 1 + 1, 0, none⟩)) (h3 : tmps.getD 4 undef = .pointer (some ⟨b + 1 + 1 + 1, 0, none⟩)) : (results Tryz.f28 tmps).run Tryz.prog W = .ok (.tuple #[x, y, z]) W :=
  results_cells3 rfl _ _ h1 h2 h3 (load_box27 _ h.b1) (load_box4 _ h.b2) (load_box28 _ h.b3)

/-- A model in a row of its own, told. -/
def ModelNew (n k b : Nat) (e : Ending) (w : World) : Prop := ∃ cap, e = .returned (.slice (some ⟨b, 0, none⟩) n cap) ∧ Bools w (some ⟨b, 0, none⟩) (Tru.model n k)

set_option maxRecDepth 100000 in
set_option maxHeartbeats 4000000 in
theorem numbered23a (k n : Nat) (w : World) (hk : k < 65536) (hn : n ≤ 16) :
    Calls Tryz.prog 81 #[.int .i64 k, .int .i64 n] w fun e w' => ModelNew n k w.heap.size e w' ∧ Below w.heap.size w w' := by
  have hn0 : (0 : Int) ≤ n := by omega
  have hn1 : (n : Int) ≤ 16 := by omega
  obtain ⟨i0, hi, hz⟩ := Option.map_eq_some_iff.1 info4
  simp only [Prod.mk.injEq] at hz
  have hmk := run_makeSlice (P := Tryz.prog) w 62 4 i0 (.bool false) Tryz.underlying62 hi hz.1 .i64 .i64 (n : Int) (n : Int) (by omega) (Int.le_refl _) (by rw [hz.2.1]; omega) (by rw [hz.2.2]; omega) (by omega)
  rw [hz.2.1, Nat.mul_one, Int.toNat_natCast] at hmk
  obtain ⟨A0, hA0⟩ : ∃ A0, madeCells (Value.bool false).cells n = A0 := ⟨_, rfl⟩
  have hsz : A0.size = n := by rw [← hA0]; exact size_madeCells _ _
  rw [hA0] at hmk
  obtain ⟨W1, hW1⟩ : ∃ W1, w.alloc (.cells A0 4) = W1 := ⟨_, rfl⟩
  have hh : W1.heap[w.heap.size]? = some (.cells A0 4 (0, 0)) := by rw [← hW1]; exact World.alloc_heap_new w _
  have hB : Below w.heap.size w W1 := by rw [← hW1]; exact below_box _ _
  rw [hW1] at hmk
  have HH := hid hh
  have HB := hid hB
  have HK := hid hk
  clear hi hz hA0 hW1 hh hB hk hn1
  go_enter Tryz.func81, Tryz.ntmps81
  go_wp2
  go_loopw [11] (fun i wr => ∃ (j : Nat) (A : Array Value), j ≤ n ∧ i = .int .i64 j ∧ Hid (wr.heap[w.heap.size]? = some (.cells A 4 (0, 0))) ∧ A.size = n ∧ Hid (∀ t, t < j → A[t]? = some (.bool (k.testBit t))) ∧ Hid (Below w.heap.size w wr)) (fun i _ => n - (intOf i).toNat)
  case atStart => exact ⟨0, A0, Nat.zero_le _, rfl, HH, hsz, hid (fun t ht => absurd ht (Nat.not_lt_zero t)), HB⟩
  case round =>
    clear HH HB
    obtain ⟨j, A, hj, rfl, HH, hsA, HA, HB⟩ := hrel
    by_cases hlt : j < n
    · have hlt' : (j : Int) < n := by omega
      have hj0 : (0 : Int) ≤ j := by omega
      have x0 := row_cell HH.out j
      rw [Array.getElem?_eq_getElem (by omega)] at x0
      generalize A[j] = old at x0
      have f0 := row_frozen HH.out j
      have hbt := bit_at k j HK.out
      go_wp2
      go_roundw
      case rel =>
        refine ⟨j + 1, A.setIfInBounds j (.bool (k.testBit j)), by omega, by go_num, hid (heap_set_row HH.out _), by simp [hsA], hid (fun t ht => ?_), hid (HB.out.setCell (p := ⟨w.heap.size, j, none⟩) (Nat.le_refl _) _)⟩
        by_cases htj : t = j
        · subst htj; rw [Array.getElem?_setIfInBounds_self_of_lt (by omega)]
        · rw [Array.getElem?_setIfInBounds_ne (by omega)]; exact HA.out t (by omega)
      case measure => simp [intOf]; omega
    · have hge : ¬ (j : Int) < n := by omega
      obtain rfl : j = n := by omega
      go_wp2
      go_ret
      refine ⟨⟨_, rfl, ?_⟩, HB.out⟩
      rcases Nat.eq_zero_or_pos j with h0 | hp
      · left; subst h0; rfl
      · right
        refine ⟨w.heap.size, 0, rfl, (Array.getElem?_eq_some_iff.1 HH.out).1, fun t ht => ?_⟩
        rw [Tru.model_len] at ht
        rw [Nat.zero_add, row_cell HH.out t, HA.out t ht, Tru.model_get j k t ht]

attribute [local go_sem] Oper.semAt_some
set_option maxRecDepth 100000 in
set_option maxHeartbeats 8000000 in
theorem find8 (u : Nat) (a : Option Addr) (n cap : Nat) (cs : List (List Int)) (w : World) (hn : cs.length = n) (hc : Cls w a cs) (ht : Tru.taken (u : Int) cs = 0) (hu : u ≤ 16) (hN : n ≤ 1048576) (hL : cs.flatten.length ≤ 16777216) (hv : ∀ c ∈ cs, ∀ l ∈ c, 1 ≤ Cnt.vr l ∧ Cnt.vr l ≤ u) :
    Calls Tryz.prog 28 #[.agg #[.int .i64 u, .slice a n cap]] w fun e w' => FindOut u cs e w' ∧ Below w.heap.size w w' := by
  obtain ⟨W1, hW1⟩ : ∃ W1, (((w.alloc (.cells #[.int .i64 u, .slice a n cap] 24)).alloc (.cells #[.slice none 0 0] 62)).alloc (.cells #[.bool false] 4)).alloc (.cells #[.int .i64 0] 29) = W1 := ⟨_, rfl⟩
  have hf1 : Far w (.int .i64 u) (.slice a n cap) W1 := by rw [← hW1]; exact (((Below.refl _ _).alloc (by simp) _).alloc (by simp) _).alloc (by simp) _
  have hS1 : W1.heap.size = w.heap.size + 4 := by rw [← hW1]; simp
  have hT1 : Three w.heap.size W1 (.slice none 0 0) (.bool false) (.int .i64 0) := by
    refine ⟨?_, ?_, ?_⟩
    · have := ((Boxed.new (w.alloc (.cells #[.int .i64 u, .slice a n cap] 24)) 62 (.slice none 0 0)).alloc (.cells #[.bool false] 4)).alloc (.cells #[.int .i64 0] 29)
      rw [hW1] at this; simpa using this
    · have := (Boxed.new ((w.alloc (.cells #[.int .i64 u, .slice a n cap] 24)).alloc (.cells #[.slice none 0 0] 62)) 4 (.bool false)).alloc (.cells #[.int .i64 0] 29)
      rw [hW1] at this; simpa using this
    · have := Boxed.new (((w.alloc (.cells #[.int .i64 u, .slice a n cap] 24)).alloc (.cells #[.slice none 0 0] 62)).alloc (.cells #[.bool false] 4)) 29 (.int .i64 0)
      rw [hW1] at this; simpa using this
  have C := hid (taken19 u a n cap cs W1 hn (hc.below hf1.below))
  rw [ht] at C
  have M1 := hid (fun (W : World) (hW : Below w.heap.size w W) => made21 u a n cap cs W hn hN hu hL (hc.below hW) hv)
  have IT := hid (fun (A T g c5 bv ba : Nat) (ms : List (Nat × Nat)) (hA : A ≤ g) (hm : ∀ p, p ∈ ms ↔ p ∈ Tru.masks cs) (hl : ms.length ≤ cs.length) => iter_made A u cs T g c5 bv ba ms hu hA hv hm (Nat.le_trans hl (by rw [hn]; exact hN)))
  have C23 := hid (fun (k : Nat) (W : World) (hk : k < 65536) => numbered23a k u W hk hu)
  have HP := hid (pow16 u hu).2
  obtain ⟨P, hP⟩ : ∃ P, 2 ^ u = P := ⟨_, rfl⟩
  rw [hP] at IT HP
  have HPP := hid hP
  have HT1 := hid hT1
  have HF := hid hf1
  have x0 := hf1.c0
  have x1 := hf1.c1
  clear hc hn ht hN hL hu hv hP hT1 hf1
  refine (callsIn_wide (n := 9)).1 ?_
  refine callsIn_of_wp_marks Tryz.func28 rfl trivial ?_ rfl
  simp only [Tryz.ntmps28, List.size_toArray, List.length_cons, List.length_nil, Nat.reduceAdd, Nat.reduceSub, Array.replicate_succ, Array.replicate_zero, List.push_toArray, List.append_toArray, List.nil_append, List.cons_append]
  refine wpIn_wide.2 ?_
  go_wp2_with (go_at_call 70; refine C.out.mono ?_; clear C; rintro e A ⟨rfl, hb⟩; have farA := hid (HF.out.on hb); have TA := hid (HT1.out.on hb (by omega)); have hAs : w.heap.size + 4 ≤ A.heap.size := (by have := hb.size; omega); clear hb)
  clear x0 x1 HT1 HF hW1 hS1
  have S2 : ∀ W, Below A.heap.size A W → W.cell? ⟨w.heap.size, 0, none⟩ = some (.int .i64 (u : Int)) ∧ W.cell? ⟨w.heap.size, 1, none⟩ = some (.slice a n cap) ∧ Below A.heap.size A W := fun W hW => ⟨(farA.out.on hW).c0, (farA.out.on hW).c1, hW⟩
  have N1 := hid (fun (W : World) (hW : Below A.heap.size A W) => (M1.out W (farA.out.on hW).below).mono (R' := fun e w' => MadeOut cs W e w' ∧ w'.cell? ⟨w.heap.size, 0, none⟩ = some (.int .i64 (u : Int)) ∧ w'.cell? ⟨w.heap.size, 1, none⟩ = some (.slice a n cap) ∧ Below A.heap.size A w') fun e w' h => ⟨h, S2 w' (hW.trans (h.tab.choose_spec.choose_spec.choose_spec.choose_spec.2.2.2.2.2.mono hW.size))⟩)
  have HS2 := hid S2
  have kk := S2 A.drew (Below.refl _ _).drew
  have KK := hid kk
  clear kk S2 M1
  go_region_held3 (fun W => W.cell? ⟨w.heap.size, 0, none⟩ = some (.int .i64 (u : Int)) ∧ W.cell? ⟨w.heap.size, 1, none⟩ = some (.slice a n cap) ∧ Below A.heap.size A W)
    (first | exact KK.out | exact ⟨z0, z1, hb6⟩ | exact ⟨y0, y1, hb5⟩)
    (first
      | (go_at_call 74; refine (N1.out _ ?_).mono ?_; exact (Below.refl _ _).drew; clear N1; rintro e w5 ⟨hm5, y0, y1, hb5⟩; obtain ⟨T1, g1, c1, ms1, rfl, hx5⟩ := hm5.tab; have HX1 := hid hx5; clear hx5 hm5)
      | (go_at_call 73; refine (models20 u T1 w5).mono ?_; rintro e w6 ⟨rfl, hw6⟩; obtain ⟨z0, z1, hb6⟩ := HS2.out w6 (by rw [hw6]; exact (hb5.alloc hb5.size _).alloc (by simp; have := hb5.size; omega) _); have HW6 := hid hw6; clear hw6))
  have OW := hid (show Own35 T1 g1 c1 w5.heap.size (w5.heap.size + 1) u ms1 w6 from ⟨_, _, HX1.out.1.on (by rw [HW6.out]; exact ((Below.refl _ w5).alloc (Nat.le_refl _) _).alloc (by simp) _), by rw [HW6.out]; exact (Boxed.new w5 3 _).alloc _, by
    rw [HW6.out]
    have := Boxed.new (w5.alloc (.cells #[.int .i64 (u : Int)] 3)) 127 (.func (.func 75) #[.pointer (some ⟨T1, 0, none⟩)] #[])
    simpa using this⟩)
  have hg : A.heap.size ≤ g1 := HX1.out.2.1
  have ITT := hid (IT.out A.heap.size T1 g1 c1 w5.heap.size (w5.heap.size + 1) ms1 hg HX1.out.2.2.1 HX1.out.2.2.2.1)
  have far6 := hid (farA.out.on hb6)
  have T6 := hid (TA.out.on hb6 (by omega))
  have hs5 : A.heap.size ≤ w5.heap.size := hb5.size
  have hs6 : A.heap.size ≤ w6.heap.size := hb6.size
  clear HX1 HW6 hb5 hb6 y0 y1 z0 z1 KK IT HS2 farA TA
  go_wp2
  refine (wpIn_wide (n := 9)).1 ?_
  refine range_up (C := A.heap.size) rfl (enters_of Tryz.func101 (by kernel_rfl) rfl) ITT.out hs6 rfl (Own35.up hg hs5 (by omega)) OW.out
    (fun k W => Far w (.int .i64 (u : Int)) (.slice a n cap) W ∧ Three w.heap.size W (.slice none 0 0) (.bool false) (.int .i64 0) ∧ ∀ j, j < k → Tru.sat cs u j = false)
    (fun cd W => cd = .ret ∧ ∃ (k b4 cap4 : Nat), k < P ∧ Tru.sat cs u k = true ∧ (∀ j, j < k → Tru.sat cs u j = false) ∧ Three w.heap.size W (.slice (some ⟨b4, 0, none⟩) u cap4) (.bool true) (.int .i64 0) ∧ Bools W (some ⟨b4, 0, none⟩) (Tru.model u k) ∧ Below w.heap.size w W) ?hI ?hIx ?hskip ⟨far6.out, T6.out, fun j hj => absurd hj (Nat.not_lt_zero j)⟩
    (fun k => { tmps := #[Value.agg #[Value.int IntKind.i64 ↑u, Value.slice a n cap],
          Value.pointer (some { block := w.heap.size, off := 0 }),
          Value.pointer (some { block := w.heap.size + 1, off := 0 }),
          Value.pointer (some { block := w.heap.size + 1 + 1, off := 0 }),
          Value.pointer (some { block := w.heap.size + 1 + 1 + 1, off := 0 }), Value.int IntKind.i64 0, .int .i64 k,
          Value.agg #[Value.int IntKind.i64 ↑u, Value.slice a n cap], Value.int IntKind.i64 0, Value.int IntKind.i64 0,
          Value.bool false, undef, Value.pointer (some { block := w.heap.size, off := 0 }), Value.int IntKind.i64 ↑u,
          Value.agg #[Value.int IntKind.i64 ↑u, Value.slice a n cap], Value.pointer (some { block := T1, off := 0 }),
          Value.func (Fn.func 75) #[Value.pointer (some { block := T1, off := 0 })] #[],
          Value.func (Fn.func 101) #[]
            #[Value.pointer (some { block := w5.heap.size, off := 0 }),
              Value.pointer (some { block := w5.heap.size + 1, off := 0 })],
          .int .i64 k, undef, undef, undef, undef], defers := [] }) ?assign ?body ?done ?stop
  case hI =>
    rintro k X Y ⟨h1, h2, h3⟩ hb
    exact ⟨Below.trans h1 (hb.mono (by simp; omega)), h2.on hb (by omega), h3⟩
  case hIx =>
    rintro cd X Y ⟨h0, k, b4, cap4, h1, h2, h3, h4, h5, h6⟩ hb hu
    exact ⟨h0, k, b4, cap4, h1, h2, h3, h4.up hu, hu.bools h5, h6.trans (hb.mono (by omega))⟩
  case hskip =>
    rintro k W hk hy ⟨h1, h2, h3⟩
    refine ⟨h1, h2, fun j hj => ?_⟩
    rcases Nat.lt_succ_iff_lt_or_eq.1 hj with h | rfl
    · exact h3 j h
    · exact hy
  case assign =>
    intro l m k W K hK
    gi_wp2
    simpa using hK
  case body =>
    rintro l m k W hl hsz hk hy ⟨h1, h2, h3⟩
    have x0 := h1.c0
    have CC := hid (C23.out k W (by have := HP.out; omega))
    have HH := hid (And.intro h1 (And.intro h2 h3))
    have HY := hid hy
    clear h1 h2 h3 hy OW ITT far6 T6
    gi_wp2_with (refine ⟨trivial, fun h => (by cases h), ?_⟩; gi_at_call 81; refine (CallsIn.inRound l (callsIn_wide.2 CC.out)).mono ?_; clear CC; rintro e w9 ⟨⟨cap4, rfl, hb4⟩, hb9⟩
                 have t9 := HH.out.2.1.on (show Below W.heap.size W w9 from hb9) (by omega)
                 have d1 := t9.b1.cell
                 have d2 := t9.b2.cell
                 have d3 := t9.b3.cell
                 have f1 := t9.b1.frozen
                 have f2 := t9.b2.frozen
                 have f3 := t9.b3.frozen
                 have HB4 := hid hb4
                 have HB9 := hid hb9
                 have HT9 := hid t9
                 clear hb4 hb9 t9)
    have hW9 : W.heap.size ≤ w9.heap.size := HB9.out.size
    have hs9 : A.heap.size ≤ W.heap.size := by omega
    refine ⟨?_, rfl, k, W.heap.size, cap4, hk, HY.out, HH.out.2.2, HT9.out.set _ _ _, ?_, ?_⟩
    · refine (KeepsFrom.trans (KeepsFrom.trans (KeepsFrom.trans ⟨HB9.out.size, fun i o _ hi _ => (HB9.out.block i (Array.getElem?_eq_some_iff.1 hi).1).trans hi⟩ (keeps_set w9 _ ?_)) (keeps_set _ _ ?_)) (keeps_set _ _ ?_)) <;> omega
    · exact Up.set0 _ (Up.set0 _ (Up.set0 _ HB4.out (fun x hx => by cases hx; dsimp only; omega)) (fun x hx => by cases hx; dsimp only; omega)) (fun x hx => by cases hx; dsimp only; omega)
    · have h9 : Below w.heap.size w w9 := HH.out.1.below.trans (HB9.out.mono (by omega))
      exact ((h9.setCell (by dsimp only; omega) _).setCell (by dsimp only; omega) _).setCell (by dsimp only; omega) _
  case done =>
    rintro D W hD ⟨h1, h2, h3⟩ hd
    have d1 := h2.b1.cell
    have d2 := h2.b2.cell
    have d3 := h2.b3.cell
    have f1 := h2.b1.frozen
    have f2 := h2.b2.frozen
    have f3 := h2.b3.frozen
    have HH := hid (And.intro h1 (And.intro h2 h3))
    have HD := hid hd
    clear h1 h2 h3 OW ITT far6 T6 hd
    go_wp2
    have hdD : ∀ (X : World) (b : Nat) (v : Value), X.heap[D]? = some (.deferred (some [])) → b < D → (X.setCell ⟨b, 0, none⟩ v).heap[D]? = some (.deferred (some [])) := fun X b v h hb => (heap_other X v (by omega)).trans h
    refine leave_one (hdD _ _ _ (hdD _ _ _ (hdD _ _ _ HD.out (by omega)) (by omega)) (by omega)) ⟨_, Three.results (n := n) ((HH.out.2.1.set _ _ _).up (Up.put _ (hdD _ _ _ (hdD _ _ _ (hdD _ _ _ HD.out (by omega)) (by omega)) (by omega)) rfl)) rfl rfl rfl, .inr ⟨fun j hj => HH.out.2.2 j (by rw [← HPP.out]; exact hj), rfl⟩, ?_⟩
    exact (((HH.out.1.below.setCell (by dsimp only; omega) _).setCell (by dsimp only; omega) _).setCell (by dsimp only; omega) _).trans (below_put _ _ (by omega))
  case stop =>
    rintro D cd W hD ⟨rfl, k, b4, cap4, h1, h2, h3, h4, h5, h6⟩ hd
    have HH := hid (And.intro h4 (And.intro h5 h6))
    have HD := hid hd
    have HK := hid (And.intro h1 (And.intro h2 h3))
    clear h1 h2 h3 h4 h5 h6 hd OW ITT far6 T6
    gi_wp2
    refine leave_one HD.out ⟨_, Three.results (n := n) (HH.out.1.up (Up.put _ HD.out rfl)) rfl rfl rfl, .inl ⟨k, _, _, by rw [HPP.out]; exact HK.out.1, HK.out.2.1, HK.out.2.2, rfl, (Up.put _ HD.out rfl : Up 0 _ _).bools HH.out.2.1⟩, HH.out.2.2.trans (below_put _ _ (by omega))⟩
end Go.Proofs.YthpebfojkpnojaaGreat.Tr

