/- Whether two formulas say the same, by the program: both taken, of as many variables. -/
import Derived.Test.YthpebfojkpnojaaGreatJba
import Derived.Test.YthpebfojkpnojaaGreatJab
import Derived.Test.YthpebfojkpnojaaGreatJaq
import Derived.Test.YthpebfojkpnojaaGreatJap
import Derived.Test.YthpebfojkpnojaaGreatJbd
/- Whether two formulas say the same, by the program: both taken, of as many variables. -/
namespace Go.Proofs.YthpebfojkpnojaaGreat.Tr
open Go.RowKit Go.Lib Go.Sort Go.Shelf
set_option linter.unusedVariables false
set_option linter.unusedSimpArgs false

set_option maxRecDepth 100000 in
set_option maxHeartbeats 8000000 in
theorem alike16 (u : Nat) (a b : Option Addr) (n cap m dap : Nat) (cs ds : List (List Int)) (w : World) (hn : cs.length = n) (hc : Cls w a cs) (hm : ds.length = m) (hd : Cls w b ds) (ht : Tru.taken (u : Int) cs = 0) (hs : Tru.taken (u : Int) ds = 0) (hu : u ≤ 16) (hN : n ≤ 1048576) (hL : cs.flatten.length ≤ 16777216) (hM : m ≤ 1048576) (hK : ds.flatten.length ≤ 16777216) (hvc : ∀ c ∈ cs, ∀ l ∈ c, 1 ≤ Cnt.vr l ∧ Cnt.vr l ≤ u) (hvd : ∀ c ∈ ds, ∀ l ∈ c, 1 ≤ Cnt.vr l ∧ Cnt.vr l ≤ u) :
    Calls Tryz.prog 26 #[.agg #[.int .i64 (u : Int), .slice a n cap], .agg #[.int .i64 (u : Int), .slice b m dap]] w fun e w' => e = .returned (.tuple #[.bool (Tru.alikeTo cs ds u (2 ^ u)), .int .i64 0]) ∧ Below w.heap.size w w' := by
  obtain ⟨W0, hW0⟩ : ∃ W0, (w.alloc (.cells #[.int .i64 (u : Int), .slice a n cap] 24)).alloc (.cells #[.int .i64 (u : Int), .slice b m dap] 24) = W0 := ⟨_, rfl⟩
  have hf0 : Far2 w (.int .i64 (u : Int)) (.slice a n cap) (.int .i64 (u : Int)) (.slice b m dap) W0 := by rw [← hW0]; exact Far2.zero w _ _ _ _
  have S1 : ∀ W, Below W0.heap.size W0 W → W.cell? ⟨w.heap.size, 0, none⟩ = some (.int .i64 (u : Int)) ∧ W.cell? ⟨w.heap.size, 1, none⟩ = some (.slice a n cap) ∧ W.cell? ⟨w.heap.size + 1, 0, none⟩ = some (.int .i64 (u : Int)) ∧ W.cell? ⟨w.heap.size + 1, 1, none⟩ = some (.slice b m dap) ∧ Below W0.heap.size W0 W := fun W hW => ⟨(hf0.on hW).c0, (hf0.on hW).c1, (hf0.on hW).d0, (hf0.on hW).d1, hW⟩
  have C := hid (fun (W : World) (hW : Below W0.heap.size W0 W) => (taken19 (u : Int) a n cap cs W hn (hc.below (hf0.on hW).below)).mono (R' := fun e w' => e = .returned (.int .i64 (Tru.taken (u : Int) cs)) ∧ w'.cell? ⟨w.heap.size, 0, none⟩ = some (.int .i64 (u : Int)) ∧ w'.cell? ⟨w.heap.size, 1, none⟩ = some (.slice a n cap) ∧ w'.cell? ⟨w.heap.size + 1, 0, none⟩ = some (.int .i64 (u : Int)) ∧ w'.cell? ⟨w.heap.size + 1, 1, none⟩ = some (.slice b m dap) ∧ Below W0.heap.size W0 w') fun e w' h => ⟨h.1, S1 w' (hW.trans (h.2.mono hW.size))⟩)
  have D := hid (fun (W : World) (hW : Below W0.heap.size W0 W) => (taken19 (u : Int) b m dap ds W hm (hd.below (hf0.on hW).below)).mono (R' := fun e w' => e = .returned (.int .i64 (Tru.taken (u : Int) ds)) ∧ w'.cell? ⟨w.heap.size, 0, none⟩ = some (.int .i64 (u : Int)) ∧ w'.cell? ⟨w.heap.size, 1, none⟩ = some (.slice a n cap) ∧ w'.cell? ⟨w.heap.size + 1, 0, none⟩ = some (.int .i64 (u : Int)) ∧ w'.cell? ⟨w.heap.size + 1, 1, none⟩ = some (.slice b m dap) ∧ Below W0.heap.size W0 w') fun e w' h => ⟨h.1, S1 w' (hW.trans (h.2.mono hW.size))⟩)
  have HS1 := hid S1
  have kk := S1 W0.drew (Below.refl _ _).drew
  have KK := hid kk
  have HF := hid hf0
  rw [ht] at C
  rw [hs] at D
  obtain ⟨hpw, hp2⟩ := pow16 u hu
  have HU := hid hu
  have M1 := hid (fun (W : World) (hW : Below w.heap.size w W) => made21 u a n cap cs W hn hN hu hL (hc.below hW) hvc)
  have M2 := hid (fun (W : World) (hW : Below w.heap.size w W) => made21 u b m dap ds W hm hM hu hK (hd.below hW) hvd)
  have HC1 := hid (fun (ms : List (Nat × Nat)) (k : Nat) (h : ∀ p, p ∈ ms ↔ p ∈ Tru.masks cs) => (Tru.masks_holds cs ms u k hu hvc h : Tru.allH ms k = Tru.sat cs u k))
  have HC2 := hid (fun (ms : List (Nat × Nat)) (k : Nat) (h : ∀ p, p ∈ ms ↔ p ∈ Tru.masks ds) => (Tru.masks_holds ds ms u k hu hvd h : Tru.allH ms k = Tru.sat ds u k))
  have HS1m := hid (Tru.masks_small cs u hu hvc)
  have HS2m := hid (Tru.masks_small ds u hu hvd)
  have HNc := hid hn
  have HNd := hid hm
  have HNN := hid hN
  have HMM := hid hM
  generalize hP : 2 ^ u = P at hpw hp2
  have HP := hid hP
  clear hu hN hL hM hK hvc hvd hP
  clear hc hn hm hd kk S1 hf0 ht hs
  go_enter Tryz.func26, Tryz.ntmps26
  go_wp2_with fail
  go_region_held3 (fun W => W.cell? ⟨w.heap.size, 0, none⟩ = some (.int .i64 (u : Int)) ∧ W.cell? ⟨w.heap.size, 1, none⟩ = some (.slice a n cap) ∧ W.cell? ⟨w.heap.size + 1, 0, none⟩ = some (.int .i64 (u : Int)) ∧ W.cell? ⟨w.heap.size + 1, 1, none⟩ = some (.slice b m dap) ∧ Below W0.heap.size W0 W)
    (first | exact KK.out | exact KA.out | exact ⟨z0, z1, z2, z3, hb9⟩ | exact ⟨y0, y1, y2, y3, hb8⟩)
    (first
      | (go_at_call 70; refine (C.out _ ?_).mono ?_; exact (Below.refl _ _).drew; clear C; rintro e w8 ⟨rfl, y0, y1, y2, y3, hb8⟩)
      | (go_at_call 70; refine (D.out _ hb8).mono ?_; clear D; rintro e w9 ⟨rfl, z0, z1, z2, z3, hb9⟩
         have KA := hid (HS1.out (w9.alloc (.cells #[.int .i64 0, .int .i64 0] 29)) (hb9.alloc hb9.size _)))
      | (go_at_call 80; refine (orErr32 w9.heap.size 0 0 _ (by rw [row_cell (World.alloc_heap_new w9 _) 0]; rfl) (by rw [row_cell (World.alloc_heap_new w9 _) 1]; rfl)).mono ?_; rintro e wz ⟨he, rfl⟩; rw [show Tru.or2 0 0 = 0 from rfl] at he; subst he))
  all_goals
    have far9 := hid (HF.out.on KA.out.2.2.2.2)
    have q0 := far9.out.c0
    have q1 := far9.out.d0
    clear hb8 hb9 y0 y1 y2 y3 z0 z1 z2 z3 KK KA
    clear q0 q1
    generalize w9.alloc (.cells #[.int .i64 0, .int .i64 0] 29) = A at far9
    have q0 := far9.out.c0
    have q1 := far9.out.d0
    go_wp2
    clear q0 q1
    have S2 : ∀ W, Below A.heap.size A W → W.cell? ⟨w.heap.size, 0, none⟩ = some (.int .i64 (u : Int)) ∧ W.cell? ⟨w.heap.size, 1, none⟩ = some (.slice a n cap) ∧ W.cell? ⟨w.heap.size + 1, 0, none⟩ = some (.int .i64 (u : Int)) ∧ W.cell? ⟨w.heap.size + 1, 1, none⟩ = some (.slice b m dap) ∧ Below A.heap.size A W := fun W hW => ⟨(far9.out.on hW).c0, (far9.out.on hW).c1, (far9.out.on hW).d0, (far9.out.on hW).d1, hW⟩
    have N1 := hid (fun (W : World) (hW : Below A.heap.size A W) => (M1.out W (far9.out.on hW).below).mono (R' := fun e w' => MadeOut cs W e w' ∧ w'.cell? ⟨w.heap.size, 0, none⟩ = some (.int .i64 (u : Int)) ∧ w'.cell? ⟨w.heap.size, 1, none⟩ = some (.slice a n cap) ∧ w'.cell? ⟨w.heap.size + 1, 0, none⟩ = some (.int .i64 (u : Int)) ∧ w'.cell? ⟨w.heap.size + 1, 1, none⟩ = some (.slice b m dap) ∧ Below A.heap.size A w') fun e w' h => ⟨h, S2 w' (hW.trans (h.tab.choose_spec.choose_spec.choose_spec.choose_spec.2.2.2.2.2.mono hW.size))⟩)
    have N2 := hid (fun (W : World) (hW : Below A.heap.size A W) => (M2.out W (far9.out.on hW).below).mono (R' := fun e w' => MadeOut ds W e w' ∧ w'.cell? ⟨w.heap.size, 0, none⟩ = some (.int .i64 (u : Int)) ∧ w'.cell? ⟨w.heap.size, 1, none⟩ = some (.slice a n cap) ∧ w'.cell? ⟨w.heap.size + 1, 0, none⟩ = some (.int .i64 (u : Int)) ∧ w'.cell? ⟨w.heap.size + 1, 1, none⟩ = some (.slice b m dap) ∧ Below A.heap.size A w') fun e w' h => ⟨h, S2 w' (hW.trans (h.tab.choose_spec.choose_spec.choose_spec.choose_spec.2.2.2.2.2.mono hW.size))⟩)
    have kk := S2 A.drew (Below.refl _ _).drew
    have KK := hid kk
    clear kk S2 M1 M2
    go_region_held3 (fun W => W.cell? ⟨w.heap.size, 0, none⟩ = some (.int .i64 (u : Int)) ∧ W.cell? ⟨w.heap.size, 1, none⟩ = some (.slice a n cap) ∧ W.cell? ⟨w.heap.size + 1, 0, none⟩ = some (.int .i64 (u : Int)) ∧ W.cell? ⟨w.heap.size + 1, 1, none⟩ = some (.slice b m dap) ∧ Below A.heap.size A W)
      (first | exact KK.out | exact ⟨z0, z1, z2, z3, hb6⟩ | exact ⟨y0, y1, y2, y3, hb5⟩)
      (first
        | (go_at_call 74; refine (N1.out _ ?_).mono ?_; exact (Below.refl _ _).drew; clear N1; rintro e w5 ⟨hm5, y0, y1, y2, y3, hb5⟩; obtain ⟨T1, g1, c1, ms1, rfl, hx5⟩ := hm5.tab; have HX1 := hid hx5; clear hx5 hm5)
        | (go_at_call 74; refine (N2.out _ hb5).mono ?_; clear N2; rintro e w6 ⟨hm6, z0, z1, z2, z3, hb6⟩; obtain ⟨T2, g2, c2, ms2, rfl, hx6⟩ := hm6.tab; have HX2 := hid hx6; clear hx6 hm6))
    all_goals
      have TW := hid (Two.made HX1.out.1 HX2.out.1 HX2.out.2.1 HX2.out.2.2.2.2)
      have HB6 := hid ((far9.out.on hb6).below)
      have E1 := hid HX1.out.2.2.1
      have E2 := hid HX2.out.2.2.1
      have L1 : ms1.length ≤ 1048576 := Nat.le_trans HX1.out.2.2.2.1 (by rw [HNc.out]; exact HNN.out)
      have L2 : ms2.length ≤ 1048576 := Nat.le_trans HX2.out.2.2.2.1 (by rw [HNd.out]; exact HMM.out)
      have SM1 := hid (show ∀ p ∈ ms1, Tru.small p from fun p hp => HS1m.out p ((E1.out p).1 hp))
      have SM2 := hid (show ∀ p ∈ ms2, Tru.small p from fun p hp => HS2m.out p ((E2.out p).1 hp))
      have hT1 : w.heap.size ≤ T1 := by
        have q1 := HX1.out.2.1
        have q2 := HX1.out.1.lt.2.1
        have q3 : A.drew.heap.size = A.heap.size := rfl
        have q4 := far9.out.below.size
        omega
      have hT2 : w.heap.size ≤ T2 := by
        have q1 := TW.out.far
        have q2 := TW.out.two.lt.2.1
        omega
      clear HX1 HX2 y0 y1 y2 y3 hb5 hb6 KK far9
      go_wp2
      clear z0 z1 z2 z3
      rw [hpw]
      clear hpw
      go_loopw [33] (fun i wr => ∃ (k : Nat) (b1 : Int) (o1 : Option Addr) (b2 : Int) (o2 : Option Addr), k ≤ P ∧ i = .int .i64 k ∧ Hid (Tru.alikeTo cs ds u k = true) ∧ Hid (Two T1 g1 c1 ms1 T2 g2 c2 ms2 b1 o1 b2 o2 wr) ∧ Hid (Below w.heap.size w wr)) (fun i _ => P - (intOf i).toNat)
      case atStart => exact ⟨0, _, _, _, _, Nat.zero_le _, rfl, hid rfl, TW, HB6⟩
      case round =>
        clear TW HB6
        obtain ⟨k, b1, o1, b2, o2, hk, rfl, HI, TW, HB6⟩ := hrel
        by_cases hkp : k < P
        · have hkp' : (k : Int) < P := by omega
          obtain ⟨p, hp⟩ : ∃ p, Tru.sat cs u k = p := ⟨_, rfl⟩
          obtain ⟨q, hq⟩ : ∃ q, Tru.sat ds u k = q := ⟨_, rfl⟩
          have HSJ := hid (show (Tru.sat cs u k == Tru.sat ds u k) = (p == q) by rw [hp, hq])
          have HPS := hid (show Cnt.holds cs (Tru.model u k) = p from hp)
          have HQS := hid (show Cnt.holds ds (Tru.model u k) = q from hq)
          clear hp hq
          have C1 := hid (holds22f T1 g1 c1 k ms1 b1 o1 wr (by omega) L1 SM1.out TW.out.one)
          cases p
          · cases q
            · go_wp2_with (first
                | (go_at_call 75; refine C1.out.mono ?_; clear C1; rintro e w7 ⟨he, o1', ht, hb, hu7⟩; rw [HC1.out ms1 k E1.out, HPS.out] at he; subst he
                   have TW7 := hid (TW.out.ask1 ht hu7)
                   have HB7 := hid (HB6.out.trans (hb.mono (by omega)))
                   have C2 := hid (holds22f T2 g2 c2 k ms2 b2 o2 w7 (by omega) L2 SM2.out TW7.out.two)
                   clear ht hb hu7)
                | (go_at_call 75; refine C2.out.mono ?_; clear C2; rintro e w8' ⟨he, o2', ht, hb, hu8⟩; rw [HC2.out ms2 k E2.out, HQS.out] at he; subst he
                   have TW8 := hid (TW7.out.ask2 ht hu8)
                   have HB8 := hid (HB7.out.trans (hb.mono (by omega)))
                   clear ht hb hu8))
              go_roundw
              case rel => exact ⟨k + 1, _, _, _, _, by omega, by go_num, hid (by rw [Tru.alikeTo, HI.out, HSJ.out]; rfl), TW8, HB8⟩
              case measure => simp [intOf]; omega
            · go_wp2_with (first
                | (go_at_call 75; refine C1.out.mono ?_; clear C1; rintro e w7 ⟨he, o1', ht, hb, hu7⟩; rw [HC1.out ms1 k E1.out, HPS.out] at he; subst he
                   have TW7 := hid (TW.out.ask1 ht hu7)
                   have HB7 := hid (HB6.out.trans (hb.mono (by omega)))
                   have C2 := hid (holds22f T2 g2 c2 k ms2 b2 o2 w7 (by omega) L2 SM2.out TW7.out.two)
                   clear ht hb hu7)
                | (go_at_call 75; refine C2.out.mono ?_; clear C2; rintro e w8' ⟨he, o2', ht, hb, hu8⟩; rw [HC2.out ms2 k E2.out, HQS.out] at he; subst he
                   have TW8 := hid (TW7.out.ask2 ht hu8)
                   have HB8 := hid (HB7.out.trans (hb.mono (by omega)))
                   clear ht hb hu8))
              go_ret2
              exact ⟨by rw [Tru.alikeTo_false cs ds u k HSJ.out P hkp]; rfl, HB8.out⟩
          · cases q
            · go_wp2_with (first
                | (go_at_call 75; refine C1.out.mono ?_; clear C1; rintro e w7 ⟨he, o1', ht, hb, hu7⟩; rw [HC1.out ms1 k E1.out, HPS.out] at he; subst he
                   have TW7 := hid (TW.out.ask1 ht hu7)
                   have HB7 := hid (HB6.out.trans (hb.mono (by omega)))
                   have C2 := hid (holds22f T2 g2 c2 k ms2 b2 o2 w7 (by omega) L2 SM2.out TW7.out.two)
                   clear ht hb hu7)
                | (go_at_call 75; refine C2.out.mono ?_; clear C2; rintro e w8' ⟨he, o2', ht, hb, hu8⟩; rw [HC2.out ms2 k E2.out, HQS.out] at he; subst he
                   have TW8 := hid (TW7.out.ask2 ht hu8)
                   have HB8 := hid (HB7.out.trans (hb.mono (by omega)))
                   clear ht hb hu8))
              go_ret2
              exact ⟨by rw [Tru.alikeTo_false cs ds u k HSJ.out P hkp]; rfl, HB8.out⟩
            · go_wp2_with (first
                | (go_at_call 75; refine C1.out.mono ?_; clear C1; rintro e w7 ⟨he, o1', ht, hb, hu7⟩; rw [HC1.out ms1 k E1.out, HPS.out] at he; subst he
                   have TW7 := hid (TW.out.ask1 ht hu7)
                   have HB7 := hid (HB6.out.trans (hb.mono (by omega)))
                   have C2 := hid (holds22f T2 g2 c2 k ms2 b2 o2 w7 (by omega) L2 SM2.out TW7.out.two)
                   clear ht hb hu7)
                | (go_at_call 75; refine C2.out.mono ?_; clear C2; rintro e w8' ⟨he, o2', ht, hb, hu8⟩; rw [HC2.out ms2 k E2.out, HQS.out] at he; subst he
                   have TW8 := hid (TW7.out.ask2 ht hu8)
                   have HB8 := hid (HB7.out.trans (hb.mono (by omega)))
                   clear ht hb hu8))
              go_roundw
              case rel => exact ⟨k + 1, _, _, _, _, by omega, by go_num, hid (by rw [Tru.alikeTo, HI.out, HSJ.out]; rfl), TW8, HB8⟩
              case measure => simp [intOf]; omega
        · have hge : ¬ (k : Int) < P := by omega
          obtain rfl : k = P := by omega
          go_wp2
          go_ret2
          exact ⟨by rw [HI.out]; rfl, HB6.out⟩
end Go.Proofs.YthpebfojkpnojaaGreat.Tr

/- What truth tells of a formula, and what the base's soundness says of it. -/
namespace Bas
/-- A model as values of all literals. -/
def vof (m : List Bool) (l : Int) : Bool := if 1 ≤ vr l ∧ vr l ≤ m.length then m.getD (vr l - 1).toNat false == decide (0 < l) else decide (0 < l)
theorem vof_val (m : List Bool) : Val (vof m) := by
  have flip : ∀ l : Int, l ≠ 0 → decide (0 < -l) = !decide (0 < l) := fun l h0 => by
    by_cases h : 0 < l
    · rw [decide_eq_true h, decide_eq_false (by omega)]; rfl
    · rw [decide_eq_false h, decide_eq_true (by omega)]; rfl
  refine ⟨fun l h => ?_, fun l h0 => ?_⟩
  · by_cases h0 : l = 0
    · subst h0; simp [vof, vr] at h
    · unfold vof at h ⊢
      rw [vr_neg, flip l h0]
      split
      · rename_i hr
        rw [if_pos hr] at h
        revert h
        cases m.getD (vr l - 1).toNat false <;> cases decide (0 < l) <;> decide
      · rename_i hr
        rw [if_neg hr] at h
        rw [h]; rfl
  · unfold vof
    rw [vr_neg, flip l h0]
    split
    · cases m.getD (vr l - 1).toNat false <;> cases decide (0 < l) <;> decide
    · cases decide (0 < l) <;> decide
theorem vof_tr {m : List Bool} {l : Int} (h : 1 ≤ vr l ∧ vr l ≤ m.length) : vof m l = Cnt.tr l m := by
  have e : Cnt.vr l = vr l := rfl
  unfold vof Cnt.tr
  rw [if_pos h, e, decide_eq_true h.1, decide_eq_true h.2, Bool.true_and, Bool.true_and]
def Lit (u : Nat) (c : List Int) : Prop := ∀ l ∈ c, 1 ≤ vr l ∧ vr l ≤ (u : Int)
theorem val_iff {u k : Nat} {c : List Int} (h : Lit u c) : Cnt.val c (Tru.model u k) = true ↔ Tr (vof (Tru.model u k)) c := by
  unfold Cnt.val Tr
  rw [List.any_eq_true]
  have hl : (Tru.model u k).length = u := Tru.model_len u k
  constructor
  · rintro ⟨x, hx, ht⟩
    exact ⟨x, hx, by rw [vof_tr (by rw [hl]; exact h x hx)]; exact ht⟩
  · rintro ⟨x, hx, ht⟩
    exact ⟨x, hx, by rw [vof_tr (by rw [hl]; exact h x hx)] at ht; exact ht⟩
theorem sat_iff {u k : Nat} {cs : List (List Int)} (h : ∀ c ∈ cs, Lit u c) : Tru.sat cs u k = true ↔ ∀ c ∈ cs, Tr (vof (Tru.model u k)) c := by
  unfold Tru.sat Cnt.holds
  rw [List.all_eq_true]
  exact ⟨fun g c hc => (val_iff (h c hc)).1 (g c hc), fun g c hc => (val_iff (h c hc)).2 (g c hc)⟩
theorem impTo_true {cs : List (List Int)} {u : Nat} {c : List Int} (h : ∀ j, Tru.sat cs u j = true → Cnt.val c (Tru.model u j) = true) : ∀ N, Tru.impTo cs u c N = true
  | 0 => rfl
  | N + 1 => by
    rw [Tru.impTo, impTo_true h N, Bool.true_and]
    cases hs : Tru.sat cs u N
    · rfl
    · rw [h N hs]; rfl
theorem alikeTo_true {cs ds : List (List Int)} {u : Nat} (h : ∀ j, Tru.sat cs u j = true ↔ Tru.sat ds u j = true) : ∀ N, Tru.alikeTo cs ds u N = true
  | 0 => rfl
  | N + 1 => by
    rw [Tru.alikeTo, alikeTo_true h N, Bool.true_and, beq_iff_eq]
    have := h N
    cases h1 : Tru.sat cs u N <;> cases h2 : Tru.sat ds u N <;> simp_all
theorem lit_of {vars : Int} {u : Nat} (hu : (u : Int) = vars) {s : S} (hg : Good s) (hv : s.vars = vars) : ∀ e ∈ s.live, Lit u e.lits := fun e he l hl => by
  have := hg.lits e he l hl
  refine ⟨?_, by rw [hu, ← hv]; exact this.2⟩
  have h0 := this.1
  unfold vr
  split <;> omega
/-- What was added follows, as truth tells it. -/
theorem add_imp {s : S} {u : Nat} (hu : (u : Int) = s.vars) (hg : Good s) {c hs : List Int} (h : addE s c hs = 0) : Tru.goodC u c = true ∧ ∀ N, Tru.impTo (s.live.map (·.lits)) u c N = true := by
  unfold addE at h
  split at h
  · simp at h
  · split at h
    · rename_i hh
      have hlc : Lit u c := fun l hl => by
        have := List.all_eq_true.1 hh l hl
        simp only [Bool.and_eq_true, decide_eq_true_eq] at this
        exact ⟨this.1, by rw [hu]; exact this.2⟩
      refine ⟨?_, impTo_true fun j hj => ?_⟩
      · unfold Tru.goodC
        rw [List.all_eq_true]
        intro l hl
        have := hlc l hl
        simp only [Bool.and_eq_true, decide_eq_true_eq]
        exact this
      · rw [val_iff hlc]
        rw [sat_iff (fun d hd => by obtain ⟨e, he, rfl⟩ := List.mem_map.1 hd; exact lit_of hu hg rfl e he)] at hj
        have hv := vof_val (Tru.model u j)
        refine followsD_sound hv.one hv.any (fun q d hd => ?_) (fun x hx => (has_spec hh x hx).1) h
        unfold lookL at hd
        obtain ⟨e, he, rfl⟩ := Option.map_eq_some_iff.1 hd
        exact hj _ (List.mem_map.2 ⟨e, (look_mem he).1, rfl⟩)
    · simp at h
theorem alike_irr {f : List (List Int)} {s : S} {u : Nat} (hu : (u : Int) = s.vars) (hg : Good s) (hf : ∀ c ∈ f, Lit u c) (h : Snd f s.live) : ∀ N, Tru.alikeTo f ((s.live.filter (fun e => !e.red)).map (·.lits)) u N = true := by
  refine alikeTo_true fun j => ?_
  rw [sat_iff hf, sat_iff (fun d hd => by obtain ⟨e, he, rfl⟩ := List.mem_map.1 hd; exact lit_of hu hg rfl e (List.mem_filter.1 he).1)]
  rw [(h _ (vof_val (Tru.model u j))).1]
  constructor
  · intro g c hc
    obtain ⟨e, he, rfl⟩ := List.mem_map.1 hc
    obtain ⟨h1, h2⟩ := List.mem_filter.1 he
    exact g e h1 (by simpa using h2)
  · intro g e he hr
    exact g _ (List.mem_map.2 ⟨e, List.mem_filter.2 ⟨he, by simpa using hr⟩, rfl⟩)
theorem alike_all {f : List (List Int)} {s : S} {u : Nat} (hu : (u : Int) = s.vars) (hg : Good s) (hf : ∀ c ∈ f, Lit u c) (h : Snd f s.live) : ∀ N, Tru.alikeTo f (s.live.map (·.lits)) u N = true := by
  refine alikeTo_true fun j => ?_
  rw [sat_iff hf, sat_iff (fun d hd => by obtain ⟨e, he, rfl⟩ := List.mem_map.1 hd; exact lit_of hu hg rfl e he)]
  have hv := h _ (vof_val (Tru.model u j))
  rw [hv.1]
  constructor
  · intro g c hc
    obtain ⟨e, he, rfl⟩ := List.mem_map.1 hc
    exact hv.2 g e he
  · intro g e he _
    exact g _ (List.mem_map.2 ⟨e, he, rfl⟩)
theorem empty_no {f : List (List Int)} {s : S} {u : Nat} (hf : ∀ c ∈ f, Lit u c) (h : Snd f s.live) (he : emptyOf s.live ≠ 0) (k : Nat) : Tru.sat f u k = false := by
  cases hs : Tru.sat f u k
  · rfl
  · exfalso
    have h1 := (sat_iff hf).1 hs
    refine empty_snd h ?_ (vof_val (Tru.model u k)) h1
    unfold emptyOf at he
    cases hq : s.live.find? (fun e => e.lits.isEmpty) with
    | none => rw [hq] at he; exact absurd rfl he
    | some e => exact ⟨e, List.mem_of_find?_eq_some hq, by have := List.find?_some hq; simpa using this⟩
theorem scan_ok (vars : Int) : ∀ (ls : List Int) (c : Nat), c + ls.length ≤ 16777216 → (∀ l ∈ ls, 1 ≤ vr l ∧ vr l ≤ vars) → Cnt.scan vars c ls = 0
  | [], c, _, _ => by simp [Cnt.scan]
  | l :: ls, c, hc, hl => by
    have h0 := hl l List.mem_cons_self
    have e : Cnt.vr l = vr l := rfl
    simp only [List.length_cons] at hc
    rw [Cnt.scan_on vars c l ls (by omega) (by rw [e]; omega)]
    exact scan_ok vars ls (c + 1) (by omega) (fun x hx => hl x (List.mem_cons_of_mem _ hx))
theorem taken_ok {u : Nat} (hu : u ≤ 16) {cs : List (List Int)} (hn : cs.length ≤ 1048576) (hl : cs.flatten.length ≤ 16777216) (h : ∀ c ∈ cs, Lit u c) : Tru.taken (u : Int) cs = 0 := by
  have hr : Cnt.right (u : Int) cs = 0 := by
    unfold Cnt.right
    rw [if_neg (by omega), if_neg (by omega)]
    exact scan_ok _ _ _ (by omega) (fun l hl => by
      obtain ⟨c, hc, hx⟩ := List.mem_flatten.1 hl
      exact h c hc l hx)
  unfold Tru.taken
  rw [if_pos hr, if_neg (by omega)]
end Bas
namespace Bas
theorem flat_le : ∀ (cs : List (List Int)) (m : Nat), (∀ c ∈ cs, c.length ≤ m) → cs.flatten.length ≤ cs.length * m
  | [], m, _ => by simp
  | c :: cs, m, h => by
    have h1 := h c List.mem_cons_self
    have h2 := flat_le cs m (fun x hx => h x (List.mem_cons_of_mem _ hx))
    rw [List.flatten_cons, List.length_append, List.length_cons, Nat.succ_mul]
    omega
end Bas

