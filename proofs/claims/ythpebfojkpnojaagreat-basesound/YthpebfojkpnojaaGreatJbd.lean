/- Whether a clause follows, by the program. -/
import Derived.Test.YthpebfojkpnojaaGreatJbc
/- Whether a clause follows, by the program. -/
namespace Go.Proofs.YthpebfojkpnojaaGreat.Tr
open Go.RowKit Go.Lib Go.Sort Go.Shelf
set_option linter.unusedVariables false
set_option linter.unusedSimpArgs false

/-- The variables that Implies answers by. -/
structure TwoR (b : Nat) (W : World) (y z : Value) : Prop where
  b2 : Boxed W (b + 1) 4 y
  b3 : Boxed W (b + 1 + 1) 29 z
theorem TwoR.on {n b : Nat} {A B : World} {y z : Value} (h : TwoR b A y z) (hb : Below n A B) (hn : b + 2 < n) : TwoR b B y z := ⟨box_on hb h.b2 (by omega), box_on hb h.b3 (by omega)⟩
theorem TwoR.up {b : Nat} {A B : World} {y z : Value} (h : TwoR b A y z) (hb : Up 0 A B) : TwoR b B y z := ⟨hb.box h.b2 (by omega), hb.box h.b3 (by omega)⟩
theorem TwoR.set {b : Nat} {A : World} {y z : Value} (y' z' : Value) (h : TwoR b A y z) : TwoR b ((A.setCell ⟨b + 1, 0, none⟩ y').setCell ⟨b + 1 + 1, 0, none⟩ z') y' z' :=
  ⟨boxed_apart (h.b2.set _) (by omega), (boxed_apart h.b3 (by omega)).set _⟩
theorem TwoR.results {b : Nat} {W : World} {y z : Value} (h : TwoR b W y z) {tmps : Array Value} (h2 : tmps.getD 4 undef = .pointer (some ⟨b + 1, 0, none⟩)) (h3 : tmps.getD 5 undef = .pointer (some ⟨b + 1 + 1, 0, none⟩)) : (results Tryz.f21 tmps).run Tryz.prog W = .ok (.tuple #[y, z]) W :=
  results_cells2 rfl _ _ h2 h3 (load_box4 _ h.b2) (load_box28 _ h.b3)

attribute [local go_sem] Oper.semAt_some
set_option maxRecDepth 100000 in
set_option maxHeartbeats 16000000 in
theorem implies14 (u : Nat) (a ac : Option Addr) (n cap m capc : Nat) (cs : List (List Int)) (c : List Int) (w : World) (hn : cs.length = n) (hc : Cls w a cs) (hm : c.length = m) (hM : m ≤ 1099511627776) (hcl : Lits w ac c) (ht : Tru.taken (u : Int) cs = 0) (hu : u ≤ 16) (hN : n ≤ 1048576) (hL : cs.flatten.length ≤ 16777216) (hv : ∀ c ∈ cs, ∀ l ∈ c, 1 ≤ Cnt.vr l ∧ Cnt.vr l ≤ u) :
    Calls Tryz.prog 21 #[.agg #[.int .i64 u, .slice a n cap], .slice ac m capc] w fun e w' => ImpOut u cs c e ∧ Below w.heap.size w w' := by
  obtain ⟨W1, hW1⟩ : ∃ W1, ((w.alloc (.cells #[.int .i64 u, .slice a n cap] 24)).alloc (.cells #[.bool false] 4)).alloc (.cells #[.int .i64 0] 29) = W1 := ⟨_, rfl⟩
  have hf1 : Far w (.int .i64 u) (.slice a n cap) W1 := by rw [← hW1]; exact ((Below.refl _ _).alloc (by simp) _).alloc (by simp) _
  have hS1 : W1.heap.size = w.heap.size + 3 := by rw [← hW1]; simp
  have hT1 : TwoR w.heap.size W1 (.bool false) (.int .i64 0) := by
    refine ⟨?_, ?_⟩
    · have := (Boxed.new (w.alloc (.cells #[.int .i64 u, .slice a n cap] 24)) 4 (.bool false)).alloc (.cells #[.int .i64 0] 29)
      rw [hW1] at this; simpa using this
    · have := Boxed.new ((w.alloc (.cells #[.int .i64 u, .slice a n cap] 24)).alloc (.cells #[.bool false] 4)) 29 (.int .i64 0)
      rw [hW1] at this; simpa using this
  have C := hid (taken19 u a n cap cs W1 hn (hc.below hf1.below))
  rw [ht] at C
  have M1 := hid (fun (W : World) (hW : Below w.heap.size w W) => made21 u a n cap cs W hn hN hu hL (hc.below hW) hv)
  have IT := hid (fun (A T g c5 bv ba : Nat) (ms : List (Nat × Nat)) (hA : A ≤ g) (hm : ∀ p, p ∈ ms ↔ p ∈ Tru.masks cs) (hl : ms.length ≤ cs.length) => iter_made A u cs T g c5 bv ba ms hu hA hv hm (Nat.le_trans hl (by rw [hn]; exact hN)))
  have C28 := hid (fun (W : World) (hg : Tru.goodC u c = true) (hW : Below w.heap.size w W) => turned28 ac m capc c W hm hM (hcl.below hW) (fun l hl => ⟨((Tru.goodC_true u c).1 hg l hl).1, Int.le_trans ((Tru.goodC_true u c).1 hg l hl).2 (by omega)⟩))
  have HMS := hid (fun (hg : Tru.goodC u c = true) => Tru.mask_small c (fun l hl => ⟨((Tru.goodC_true u c).1 hg l hl).1, Int.le_trans ((Tru.goodC_true u c).1 hg l hl).2 (by omega)⟩))
  have HMV := hid (fun (k : Nat) (hg : Tru.goodC u c = true) => Tru.mh_mask c u k hu ((Tru.goodC_true u c).1 hg))
  have HP := hid (pow16 u hu).2
  obtain ⟨P, hP⟩ : ∃ P, 2 ^ u = P := ⟨_, rfl⟩
  rw [hP] at IT HP
  have HPP := hid hP
  have HT1 := hid hT1
  have HF := hid hf1
  have HCL := hid hcl
  have HM := hid hm
  have x0 := hf1.c0
  have x1 := hf1.c1
  clear hc hn ht hN hL hu hv hP hT1 hf1 hcl hm
  refine (callsIn_wide (n := 9)).1 ?_
  refine callsIn_of_wp_marks Tryz.func21 rfl trivial ?_ rfl
  simp only [Tryz.ntmps21, List.size_toArray, List.length_cons, List.length_nil, Nat.reduceAdd, Nat.reduceSub, Array.replicate_succ, Array.replicate_zero, List.push_toArray, List.append_toArray, List.nil_append, List.cons_append]
  refine wpIn_wide.2 ?_
  go_wp2_with (go_at_call 70; refine C.out.mono ?_; clear C; rintro e A0 ⟨rfl, hb⟩; have farA := hid (HF.out.on hb); have TA := hid (HT1.out.on hb (by omega)); have hAs0 : w.heap.size + 3 ≤ A0.heap.size := (by have := hb.size; omega); clear hb)
  clear x0 x1 HT1 HF hW1 hS1
  have x0 := farA.out.c0
  have d2 := TA.out.b2.cell
  have d3 := TA.out.b3.cell
  have f2 := TA.out.b2.frozen
  have f3 := TA.out.b3.frozen
  go_loop [19] (fun i => ∃ j : Nat, j ≤ m ∧ i = .int .i64 j ∧ Hid (∀ t, t < j → 1 ≤ Cnt.vr (c.getD t 0) ∧ Cnt.vr (c.getD t 0) ≤ u)) (fun i => m - (intOf i).toNat)
  case atStart => exact ⟨0, Nat.zero_le _, rfl, hid (fun t ht => absurd ht (Nat.not_lt_zero t))⟩
  case round =>
    obtain ⟨j, hj, rfl, HG⟩ := hrel
    by_cases hlt : j < m
    · have hlt' : (j : Int) < m := by omega
      obtain ⟨b1, o1, rfl, hc1, hx1, hx2⟩ := HCL.out.at (k := j) (by rw [HM.out]; exact hlt)
      have hcc := (farA.out.below.cell (p := ⟨b1, o1 + j, none⟩) (World.block_lt_of_cell? w _ hc1)).trans hc1
      have HB := hid (fun h => Tru.goodC_at u c j (by rw [HM.out]; exact hlt) h)
      generalize hxx : c.getD j 0 = x at hcc hx1 hx2 HB
      have HXX := hid hxx
      clear hc1 hxx
      have CX := hid (fun (W : World) => var27 x W hx1 hx2)
      generalize hv0 : Cnt.vr x = v at CX HB
      have HVV := hid hv0
      clear hv0
      by_cases hv1 : v < 1
      · have HGF := hid (HB.out (.inl hv1))
        clear HB
        go_wp2_with (go_at_call 71; refine (CX.out _).mono ?_; clear CX; rintro e w9 ⟨rfl, hw9⟩; obtain rfl := hw9.symm)
        refine leave_none ⟨_, (TA.out.set _ _).results rfl rfl, ImpOut.bad HGF.out, (farA.out.below.setCell (by dsimp only; omega) _).setCell (by dsimp only; omega) _⟩
      · by_cases hv2 : (u : Int) < v
        · have HGF := hid (HB.out (.inr hv2))
          clear HB
          go_wp2_with (go_at_call 71; refine (CX.out _).mono ?_; clear CX; rintro e w9 ⟨rfl, hw9⟩; obtain rfl := hw9.symm)
          refine leave_none ⟨_, (TA.out.set _ _).results rfl rfl, ImpOut.bad HGF.out, (farA.out.below.setCell (by dsimp only; omega) _).setCell (by dsimp only; omega) _⟩
        · have HVB := hid (show 1 ≤ v ∧ v ≤ (u : Int) by omega)
          have hv2' : ¬ (u : Int) < v := hv2
          clear HB
          go_wp2_with (go_at_call 71; refine (CX.out _).mono ?_; clear CX; rintro e w9 ⟨rfl, hw9⟩; obtain rfl := hw9.symm)
          go_round
          case rel =>
            refine ⟨j + 1, by omega, by go_num, hid (fun t ht => ?_)⟩
            rcases Nat.lt_succ_iff_lt_or_eq.1 ht with h | rfl
            · exact HG.out t h
            · rw [HXX.out, HVV.out]; exact HVB.out
          case measure => simp [intOf]; omega
    · have hge : ¬ (j : Int) < m := by omega
      obtain rfl : j = m := by omega
      have HGC := hid (show Tru.goodC u c = true by
        rw [Tru.goodC_true]
        intro l hl
        obtain ⟨t, ht, rfl⟩ := List.getElem_of_mem hl
        have := HG.out t (by rw [← HM.out]; exact ht)
        simpa [List.getD, List.getElem?_eq_getElem ht] using this)
      have CT := hid (C28.out A0 HGC.out farA.out.below)
      have HSM := hid (HMS.out HGC.out)
      have HVM := hid (fun k => HMV.out k HGC.out)
      generalize Tru.mask c = mk at CT HSM HVM
      obtain ⟨p1, p2⟩ := mk
      clear d2 d3 f2 f3 x0 C28 HMS HMV HG
      go_wp2_with (go_at_call 72; refine CT.out.mono ?_; clear CT; rintro e A1 ⟨rfl, hb⟩; have farA1 := hid (farA.out.on hb); have TA1 := hid (TA.out.on hb (by omega)); have hAs1 : w.heap.size + 3 ≤ A1.heap.size := (by have := hb.size; omega); clear hb)
      have farB := hid (farA1.out.on ((Below.refl _ A1).alloc (Nat.le_refl _) (.cells #[.int .u32 p1, .int .u32 p2] 122)))
      have TB := hid (TA1.out.on ((Below.refl _ A1).alloc (Nat.le_refl _) (.cells #[.int .u32 p1, .int .u32 p2] 122)) (by omega))
      have nA := hid (World.alloc_heap_new A1 (.cells #[.int .u32 p1, .int .u32 p2] 122))
      obtain ⟨A, hA⟩ : ∃ A, A1.alloc (.cells #[.int .u32 p1, .int .u32 p2] 122) = A := ⟨_, rfl⟩
      obtain ⟨N0, hN0⟩ : ∃ N0, A1.heap.size = N0 := ⟨_, rfl⟩
      have hAs : A.heap.size = N0 + 1 := by rw [← hA, ← hN0]; simp
      have hN1 : w.heap.size + 3 ≤ N0 := by rw [← hN0]; exact hAs1
      rw [hA] at farB TB nA ⊢
      rw [hN0] at nA ⊢
      clear farA farA1 TA TA1 hA hN0 hAs0 hAs1
      have S2 : ∀ W, Below A.heap.size A W → W.cell? ⟨w.heap.size, 0, none⟩ = some (.int .i64 (u : Int)) ∧ W.cell? ⟨w.heap.size, 1, none⟩ = some (.slice a n cap) ∧ Below A.heap.size A W := fun W hW => ⟨(farB.out.on hW).c0, (farB.out.on hW).c1, hW⟩
      have N1 := hid (fun (W : World) (hW : Below A.heap.size A W) => (M1.out W (farB.out.on hW).below).mono (R' := fun e w' => MadeOut cs W e w' ∧ w'.cell? ⟨w.heap.size, 0, none⟩ = some (.int .i64 (u : Int)) ∧ w'.cell? ⟨w.heap.size, 1, none⟩ = some (.slice a n cap) ∧ Below A.heap.size A w') fun e w' h => ⟨h, S2 w' (hW.trans (h.tab.choose_spec.choose_spec.choose_spec.choose_spec.2.2.2.2.2.mono hW.size))⟩)
      have HS2 := hid S2
      have kk := S2 A.drew (Below.refl _ _).drew
      have KK := hid kk
      clear kk S2 M1
      go_region_held3 (fun W => W.cell? ⟨w.heap.size, 0, none⟩ = some (.int .i64 (u : Int)) ∧ W.cell? ⟨w.heap.size, 1, none⟩ = some (.slice a n cap) ∧ Below A.heap.size A W)
        (first | exact KK.out | exact ⟨z0, z1, hb6⟩ | exact ⟨y0, y1, hb5⟩)
        (first
          | (go_at_call 74; refine (N1.out _ ?_).mono ?_; exact (Below.refl _ _).drew; clear N1; rintro e w5 ⟨hm5, y0, y1, hb5⟩; obtain ⟨T1, g1, c1, ms1, rfl, hx5⟩ := hm5.tab; have HX1 := hid hx5; clear hx5 hm5)
          | (go_at_call 73; refine (models20 u T1 w5).mono ?_; rintro e w6 ⟨rfl, hw6⟩; obtain ⟨z0, z1, hb6⟩ := HS2.out w6 (by rw [hw6]; exact (hb5.alloc hb5.size _).alloc (by simp; have := hb5.size; omega) _); have HW6 := hid hw6; clear hw6))
      have OW := hid (show Own35 T1 g1 c1 w5.heap.size (w5.heap.size + 1) u ms1 w6 from ⟨_, _, HX1.out.1.on (by rw [HW6.out]; exact ((Below.refl _ w5).alloc (Nat.le_refl _) _).alloc (by simp) _), by rw [HW6.out]; exact (Boxed.new w5 3 _).alloc _, by
        rw [HW6.out]
        have := Boxed.new (w5.alloc (.cells #[.int .i64 (u : Int)] 3)) 127 (.func (.func 75) #[.pointer (some ⟨T1, 0, none⟩)] #[])
        simpa using this⟩)
      have hg : A.heap.size ≤ g1 := HX1.out.2.1
      have ITT := hid (IT.out A.heap.size T1 g1 c1 w5.heap.size (w5.heap.size + 1) ms1 hg HX1.out.2.2.1 HX1.out.2.2.2.1)
      have far6 := hid (farB.out.on hb6)
      have T6 := hid (TB.out.on hb6 (by omega))
      have n6 := hid ((hb6.block N0 (by omega)).trans nA.out)
      have hs5 : A.heap.size ≤ w5.heap.size := hb5.size
      have hs6 : A.heap.size ≤ w6.heap.size := hb6.size
      clear HX1 HW6 hb5 hb6 y0 y1 z0 z1 KK IT HS2 farB TB nA
      go_wp2
      refine (wpIn_wide (n := 9)).1 ?_
      refine range_up (C := A.heap.size) rfl (enters_of Tryz.func101 (by kernel_rfl) rfl) ITT.out hs6 rfl (Own35.up hg hs5 (by omega)) OW.out
        (fun k W => Below w.heap.size w W ∧ TwoR w.heap.size W (.bool false) (.int .i64 0) ∧ W.heap[N0]? = some (.cells #[.int .u32 p1, .int .u32 p2] 122 (0, 0)) ∧ Tru.impTo cs u c k = true)
        (fun cd W => cd = .ret ∧ Tru.impTo cs u c P = false ∧ TwoR w.heap.size W (.bool false) (.int .i64 0) ∧ Below w.heap.size w W) ?hI ?hIx ?hskip ⟨far6.out.below, T6.out, n6.out, rfl⟩
        (fun k => { tmps := #[Value.agg #[Value.int IntKind.i64 ↑u, Value.slice a n cap], Value.slice ac j capc,
          Value.pointer (some { block := w.heap.size, off := 0 }), undef,
          Value.pointer (some { block := w.heap.size + 1, off := 0 }),
          Value.pointer (some { block := w.heap.size + 1 + 1, off := 0 }), Value.int IntKind.i64 0, undef, u8, u9,
          Value.pointer (some { block := N0, off := 0 }), .int .i64 k,
          Value.agg #[Value.int IntKind.i64 ↑u, Value.slice a n cap], Value.int IntKind.i64 0, Value.int IntKind.i64 0,
          Value.bool false, undef, Value.slice ac j capc, Value.int IntKind.i64 ↑j, Value.int IntKind.i64 ↑j,
          Value.bool false, u21, u22, u23, u24, u25, u26, u27, u28, u29, u30, u31, u32, u33, Value.slice ac j capc,
          Value.agg #[Value.int IntKind.u32 ↑p1, Value.int IntKind.u32 ↑p2], Value.pointer (some { block := w.heap.size, off := 0 }), Value.int IntKind.i64 ↑u,
          Value.agg #[Value.int IntKind.i64 ↑u, Value.slice a n cap], Value.pointer (some { block := T1, off := 0 }),
          Value.func (Fn.func 75) #[Value.pointer (some { block := T1, off := 0 })] #[],
          Value.func (Fn.func 101) #[]
            #[Value.pointer (some { block := w5.heap.size, off := 0 }),
              Value.pointer (some { block := w5.heap.size + 1, off := 0 })],
          .int .i64 k, undef, undef, undef, undef], defers := [] }) ?assign ?body ?done ?stop
      case hI =>
        rintro k X Y ⟨h1, h2, h3, h4⟩ hb
        exact ⟨Below.trans h1 (hb.mono (by omega)), h2.on hb (by omega), (hb.block N0 (by omega)).trans h3, h4⟩
      case hIx =>
        rintro cd X Y ⟨h0, h1, h2, h3⟩ hb hu
        exact ⟨h0, h1, h2.up hu, h3.trans (hb.mono (by omega))⟩
      case hskip =>
        rintro k W hk hy ⟨h1, h2, h3, h4⟩
        refine ⟨h1, h2, h3, ?_⟩
        rw [Tru.impTo, h4, hy]
        rfl
      case assign =>
        intro l m k W K hK
        gi_wp2_with (rw [Oper.semAt_some _ _ _ (fun c => (by intro h; cases h))]; go_simp)
        simpa using hK
      case body =>
        rintro l m k W hl hsz hk hy ⟨h1, h2, h3, h4⟩
        have e0 := row_cell h3 0
        have e1 := row_cell h3 1
        simp only [List.getElem?_toArray, List.getElem?_cons_zero, List.getElem?_cons_succ] at e0 e1
        have d2 := h2.b2.cell
        have d3 := h2.b3.cell
        have f2 := h2.b2.frozen
        have f3 := h2.b3.frozen
        have CC := hid (mholds29 p1 p2 k W HSM.out.1 HSM.out.2 (by have := HP.out; omega))
        have HVK := hid (HVM.out k)
        have HY := hid hy
        have HH := hid (And.intro h1 (And.intro h2 (And.intro h3 h4)))
        clear h1 h2 h3 h4 hy OW ITT far6 T6 n6
        generalize Tru.mh (p1, p2) k = r at CC HVK
        cases r
        · gi_wp2_with (first
            | (refine ⟨trivial, fun h => (by cases h), ?_⟩; gi_at_call 76; refine (CallsIn.inRound l (callsIn_wide.2 CC.out)).mono ?_; clear CC; rintro e w9 ⟨rfl, hb9⟩
               have t9 := HH.out.2.1.on (show Below W.heap.size W w9 from hb9) (by omega)
               have g2 := t9.b2.cell
               have g3 := t9.b3.cell
               have k2 := t9.b2.frozen
               have k3 := t9.b3.frozen
               have HB9 := hid hb9
               have HT9 := hid t9
               clear hb9 t9 e0 e1 d2 d3 f2 f3)
            | (rw [Oper.semAt_some _ _ _ (fun c => (by intro h; cases h))]; go_simp))
          have hW9 : W.heap.size ≤ w9.heap.size := HB9.out.size
          refine ⟨?_, rfl, Tru.impTo_false cs u c k (by rw [HY.out, ← HVK.out]; rfl) P hk, HT9.out.set _ _, ?_⟩
          · refine (KeepsFrom.trans (KeepsFrom.trans ⟨HB9.out.size, fun i o _ hi _ => (HB9.out.block i (Array.getElem?_eq_some_iff.1 hi).1).trans hi⟩ (keeps_set w9 _ ?_)) (keeps_set _ _ ?_)) <;> omega
          · have h9 : Below w.heap.size w w9 := HH.out.1.trans (HB9.out.mono (by omega))
            exact (h9.setCell (by dsimp only; omega) _).setCell (by dsimp only; omega) _
        · gi_wp2_with (first
            | (refine ⟨trivial, fun h => (by cases h), ?_⟩; gi_at_call 76; refine (CallsIn.inRound l (callsIn_wide.2 CC.out)).mono ?_; clear CC; rintro e w9 ⟨rfl, hb9⟩
               have HB9 := hid hb9
               clear hb9 e0 e1 d2 d3 f2 f3)
            | (rw [Oper.semAt_some _ _ _ (fun c => (by intro h; cases h))]; go_simp))
          refine ⟨⟨HB9.out.size, fun i o _ hi _ => (HB9.out.block i (Array.getElem?_eq_some_iff.1 hi).1).trans hi⟩, Up.of_below HB9.out, HH.out.1.trans (HB9.out.mono (by omega)), HH.out.2.1.on HB9.out (by omega), (HB9.out.block N0 (by omega)).trans HH.out.2.2.1, ?_⟩
          rw [Tru.impTo, HH.out.2.2.2, HY.out, ← HVK.out]
          rfl
      case done =>
        rintro D W hD ⟨h1, h2, h3, h4⟩ hd
        have d2 := h2.b2.cell
        have d3 := h2.b3.cell
        have f2 := h2.b2.frozen
        have f3 := h2.b3.frozen
        have HH := hid (And.intro h1 (And.intro h2 h4))
        have HD := hid hd
        clear h1 h2 h3 h4 OW ITT far6 T6 n6 hd
        go_wp2
        have hdD : ∀ (X : World) (b : Nat) (v : Value), X.heap[D]? = some (.deferred (some [])) → b < D → (X.setCell ⟨b, 0, none⟩ v).heap[D]? = some (.deferred (some [])) := fun X b v h hb => (heap_other X v (by omega)).trans h
        refine leave_one (hdD _ _ _ (hdD _ _ _ HD.out (by omega)) (by omega)) ⟨_, TwoR.results ((HH.out.2.1.set _ _).up (Up.put _ (hdD _ _ _ (hdD _ _ _ HD.out (by omega)) (by omega)) rfl)) rfl rfl, ImpOut.good HGC.out (by rw [HPP.out]; exact HH.out.2.2), ?_⟩
        exact ((HH.out.1.setCell (by dsimp only; omega) _).setCell (by dsimp only; omega) _).trans (below_put _ _ (by omega))
      case stop =>
        rintro D cd W hD ⟨rfl, h1, h2, h3⟩ hd
        have HH := hid (And.intro h1 (And.intro h2 h3))
        have HD := hid hd
        clear h1 h2 h3 hd OW ITT far6 T6 n6
        refine wpIn_wide.2 ?_
        go_wp2
        refine leave_one HD.out ⟨_, TwoR.results (HH.out.2.1.up (Up.put _ HD.out rfl)) rfl rfl, ImpOut.good HGC.out (by rw [HPP.out]; exact HH.out.1), HH.out.2.2.trans (below_put _ _ (by omega))⟩
end Go.Proofs.YthpebfojkpnojaaGreat.Tr

