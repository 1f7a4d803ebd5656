/- Whether two formulas say the same, by the program: both taken, of as many variables. -/
import Derived.Test.YtccncojidkdddaaTwo
namespace Go.Proofs.Ytccncojidkdddaa
open Go.RowKit Go.Lib Go.Sort Go.Shelf
set_option linter.unusedVariables false
set_option linter.unusedSimpArgs false

set_option maxRecDepth 100000 in
set_option maxHeartbeats 8000000 in
theorem alike16 (u : Nat) (a b : Option Addr) (n cap m dap : Nat) (cs ds : List (List Int)) (w : World) (hn : cs.length = n) (hc : Cls w a cs) (hm : ds.length = m) (hd : Cls w b ds) (ht : Tru.taken (u : Int) cs = 0) (hs : Tru.taken (u : Int) ds = 0) (hu : u ≤ 16) (hN : n ≤ 1048576) (hL : cs.flatten.length ≤ 16777216) (hM : m ≤ 1048576) (hK : ds.flatten.length ≤ 16777216) (hvc : ∀ c ∈ cs, ∀ l ∈ c, 1 ≤ Cnf.vr l ∧ Cnf.vr l ≤ u) (hvd : ∀ c ∈ ds, ∀ l ∈ c, 1 ≤ Cnf.vr l ∧ Cnf.vr l ≤ u) :
    Calls Try.prog 16 #[.agg #[.int .i64 (u : Int), .slice a n cap], .agg #[.int .i64 (u : Int), .slice b m dap]] w fun e w' => e = .returned (.tuple #[.bool (Tru.alikeTo cs ds u (2 ^ u)), .int .i64 0]) ∧ Below w.heap.size w w' := by
  obtain ⟨W0, hW0⟩ : ∃ W0, (w.alloc (.cells #[.int .i64 (u : Int), .slice a n cap] 24)).alloc (.cells #[.int .i64 (u : Int), .slice b m dap] 24) = W0 := ⟨_, rfl⟩
  have hf0 : Far2 w (.int .i64 (u : Int)) (.slice a n cap) (.int .i64 (u : Int)) (.slice b m dap) W0 := by rw [← hW0]; exact Far2.zero w _ _ _ _
  have S1 : ∀ W, Below W0.heap.size W0 W → W.cell? ⟨w.heap.size, 0, none⟩ = some (.int .i64 (u : Int)) ∧ W.cell? ⟨w.heap.size, 1, none⟩ = some (.slice a n cap) ∧ W.cell? ⟨w.heap.size + 1, 0, none⟩ = some (.int .i64 (u : Int)) ∧ W.cell? ⟨w.heap.size + 1, 1, none⟩ = some (.slice b m dap) ∧ Below W0.heap.size W0 W := fun W hW => ⟨(hf0.on hW).c0, (hf0.on hW).c1, (hf0.on hW).d0, (hf0.on hW).d1, hW⟩
  have C := hid (fun (W : World) (hW : Below W0.heap.size W0 W) => (taken19 (u : Int) a n cap cs W hn (hc.below (hf0.on hW).below)).mono (R' := fun e w' => e = .returned (.int .i64 (Tru.taken (u : Int) cs)) ∧ w'.cell? ⟨w.heap.size, 0, none⟩ = some (.int .i64 (u : Int)) ∧ w'.cell? ⟨w.heap.size, 1, none⟩ = some (.slice a n cap) ∧ w'.cell? ⟨w.heap.size + 1, 0, none⟩ = some (.int .i64 (u : Int)) ∧ w'.cell? ⟨w.heap.size + 1, 1, none⟩ = some (.slice b m dap) ∧ Below W0.heap.size W0 w') fun e w' h => ⟨h.1, S1 w' (hW.trans (h.2.mono hW.size))⟩)
  have D := hid (fun (W : World) (hW : Below W0.heap.size W0 W) => (taken19 (u : Int) b m dap ds W hm (hd.below (hf0.on hW).below)).mono (R' := fun e w' => e = .returned (.int .i64 (Tru.taken (u : Int) ds)) ∧ w'.cell? ⟨w.heap.size, 0, none⟩ = some (.int .i64 (u : Int)) ∧ w'.cell? ⟨w.heap.size, 1, none⟩ = some (.slice a n cap) ∧ w'.cell? ⟨w.heap.size + 1, 0, none⟩ = some (.int .i64 (u : Int)) ∧ w'.cell? ⟨w.heap.size + 1, 1, none⟩ = some (.slice b m dap) ∧ Below W0.heap.size W0 w') fun e w' h => ⟨h.1, S1 w' (hW.trans (h.2.mono hW.size))⟩)
  have HS1 := hid S1
  have kk := S1 W0.drew (Below.refl _ _).drew
  have KK := hid kk
  have HF := hid hf0
  rw [ht] at C
  rw [hs] at D
  obtain ⟨hpw, hp2⟩ := pow16 u hu
  have HU := hid hu
  have M1 := hid (fun (W : World) (hW : Below w.heap.size w W) => made21 u a n cap cs W hn hN hu hL (hc.below hW) hvc)
  have M2 := hid (fun (W : World) (hW : Below w.heap.size w W) => made21 u b m dap ds W hm hM hu hK (hd.below hW) hvd)
  have HC1 := hid (fun (ms : List (Nat × Nat)) (k : Nat) (h : ∀ p, p ∈ ms ↔ p ∈ Tru.masks cs) => (Tru.masks_holds cs ms u k hu hvc h : Tru.allH ms k = Tru.sat cs u k))
  have HC2 := hid (fun (ms : List (Nat × Nat)) (k : Nat) (h : ∀ p, p ∈ ms ↔ p ∈ Tru.masks ds) => (Tru.masks_holds ds ms u k hu hvd h : Tru.allH ms k = Tru.sat ds u k))
  have HS1m := hid (Tru.masks_small cs u hu hvc)
  have HS2m := hid (Tru.masks_small ds u hu hvd)
  have HNc := hid hn
  have HNd := hid hm
  have HNN := hid hN
  have HMM := hid hM
  generalize hP : 2 ^ u = P at hpw hp2
  have HP := hid hP
  clear hu hN hL hM hK hvc hvd hP
  clear hc hn hm hd kk S1 hf0 ht hs
  go_enter Try.func16, Try.ntmps16
  go_wp2_with fail
  go_region_held3 (fun W => W.cell? ⟨w.heap.size, 0, none⟩ = some (.int .i64 (u : Int)) ∧ W.cell? ⟨w.heap.size, 1, none⟩ = some (.slice a n cap) ∧ W.cell? ⟨w.heap.size + 1, 0, none⟩ = some (.int .i64 (u : Int)) ∧ W.cell? ⟨w.heap.size + 1, 1, none⟩ = some (.slice b m dap) ∧ Below W0.heap.size W0 W)
    (first | exact KK.out | exact KA.out | exact ⟨z0, z1, z2, z3, hb9⟩ | exact ⟨y0, y1, y2, y3, hb8⟩)
    (first
      | (go_at_call 19; refine (C.out _ ?_).mono ?_; exact (Below.refl _ _).drew; clear C; rintro e w8 ⟨rfl, y0, y1, y2, y3, hb8⟩)
      | (go_at_call 19; refine (D.out _ hb8).mono ?_; clear D; rintro e w9 ⟨rfl, z0, z1, z2, z3, hb9⟩
         have KA := hid (HS1.out (w9.alloc (.cells #[.int .i64 0, .int .i64 0] 28)) (hb9.alloc hb9.size _)))
      | (go_at_call 32; refine (orErr32 w9.heap.size 0 0 _ (by rw [row_cell (World.alloc_heap_new w9 _) 0]; rfl) (by rw [row_cell (World.alloc_heap_new w9 _) 1]; rfl)).mono ?_; rintro e wz ⟨he, rfl⟩; rw [show Tru.or2 0 0 = 0 from rfl] at he; subst he))
  all_goals
    have far9 := hid (HF.out.on KA.out.2.2.2.2)
    have q0 := far9.out.c0
    have q1 := far9.out.d0
    clear hb8 hb9 y0 y1 y2 y3 z0 z1 z2 z3 KK KA
    clear q0 q1
    generalize w9.alloc (.cells #[.int .i64 0, .int .i64 0] 28) = A at far9
    have q0 := far9.out.c0
    have q1 := far9.out.d0
    go_wp2
    clear q0 q1
    have S2 : ∀ W, Below A.heap.size A W → W.cell? ⟨w.heap.size, 0, none⟩ = some (.int .i64 (u : Int)) ∧ W.cell? ⟨w.heap.size, 1, none⟩ = some (.slice a n cap) ∧ W.cell? ⟨w.heap.size + 1, 0, none⟩ = some (.int .i64 (u : Int)) ∧ W.cell? ⟨w.heap.size + 1, 1, none⟩ = some (.slice b m dap) ∧ Below A.heap.size A W := fun W hW => ⟨(far9.out.on hW).c0, (far9.out.on hW).c1, (far9.out.on hW).d0, (far9.out.on hW).d1, hW⟩
    have N1 := hid (fun (W : World) (hW : Below A.heap.size A W) => (M1.out W (far9.out.on hW).below).mono (R' := fun e w' => MadeOut cs W e w' ∧ w'.cell? ⟨w.heap.size, 0, none⟩ = some (.int .i64 (u : Int)) ∧ w'.cell? ⟨w.heap.size, 1, none⟩ = some (.slice a n cap) ∧ w'.cell? ⟨w.heap.size + 1, 0, none⟩ = some (.int .i64 (u : Int)) ∧ w'.cell? ⟨w.heap.size + 1, 1, none⟩ = some (.slice b m dap) ∧ Below A.heap.size A w') fun e w' h => ⟨h, S2 w' (hW.trans (h.tab.choose_spec.choose_spec.choose_spec.choose_spec.2.2.2.2.2.mono hW.size))⟩)
    have N2 := hid (fun (W : World) (hW : Below A.heap.size A W) => (M2.out W (far9.out.on hW).below).mono (R' := fun e w' => MadeOut ds W e w' ∧ w'.cell? ⟨w.heap.size, 0, none⟩ = some (.int .i64 (u : Int)) ∧ w'.cell? ⟨w.heap.size, 1, none⟩ = some (.slice a n cap) ∧ w'.cell? ⟨w.heap.size + 1, 0, none⟩ = some (.int .i64 (u : Int)) ∧ w'.cell? ⟨w.heap.size + 1, 1, none⟩ = some (.slice b m dap) ∧ Below A.heap.size A w') fun e w' h => ⟨h, S2 w' (hW.trans (h.tab.choose_spec.choose_spec.choose_spec.choose_spec.2.2.2.2.2.mono hW.size))⟩)
    have kk := S2 A.drew (Below.refl _ _).drew
    have KK := hid kk
    clear kk S2 M1 M2
    go_region_held3 (fun W => W.cell? ⟨w.heap.size, 0, none⟩ = some (.int .i64 (u : Int)) ∧ W.cell? ⟨w.heap.size, 1, none⟩ = some (.slice a n cap) ∧ W.cell? ⟨w.heap.size + 1, 0, none⟩ = some (.int .i64 (u : Int)) ∧ W.cell? ⟨w.heap.size + 1, 1, none⟩ = some (.slice b m dap) ∧ Below A.heap.size A W)
      (first | exact KK.out | exact ⟨z0, z1, z2, z3, hb6⟩ | exact ⟨y0, y1, y2, y3, hb5⟩)
      (first
        | (go_at_call 21; refine (N1.out _ ?_).mono ?_; exact (Below.refl _ _).drew; clear N1; rintro e w5 ⟨hm5, y0, y1, y2, y3, hb5⟩; obtain ⟨T1, g1, c1, ms1, rfl, hx5⟩ := hm5.tab; have HX1 := hid hx5; clear hx5 hm5)
        | (go_at_call 21; refine (N2.out _ hb5).mono ?_; clear N2; rintro e w6 ⟨hm6, z0, z1, z2, z3, hb6⟩; obtain ⟨T2, g2, c2, ms2, rfl, hx6⟩ := hm6.tab; have HX2 := hid hx6; clear hx6 hm6))
    all_goals
      have TW := hid (Two.made HX1.out.1 HX2.out.1 HX2.out.2.1 HX2.out.2.2.2.2)
      have HB6 := hid ((far9.out.on hb6).below)
      have E1 := hid HX1.out.2.2.1
      have E2 := hid HX2.out.2.2.1
      have L1 : ms1.length ≤ 1048576 := Nat.le_trans HX1.out.2.2.2.1 (by rw [HNc.out]; exact HNN.out)
      have L2 : ms2.length ≤ 1048576 := Nat.le_trans HX2.out.2.2.2.1 (by rw [HNd.out]; exact HMM.out)
      have SM1 := hid (show ∀ p ∈ ms1, Tru.small p from fun p hp => HS1m.out p ((E1.out p).1 hp))
      have SM2 := hid (show ∀ p ∈ ms2, Tru.small p from fun p hp => HS2m.out p ((E2.out p).1 hp))
      have hT1 : w.heap.size ≤ T1 := by
        have q1 := HX1.out.2.1
        have q2 := HX1.out.1.lt.2.1
        have q3 : A.drew.heap.size = A.heap.size := rfl
        have q4 := far9.out.below.size
        omega
      have hT2 : w.heap.size ≤ T2 := by
        have q1 := TW.out.far
        have q2 := TW.out.two.lt.2.1
        omega
      clear HX1 HX2 y0 y1 y2 y3 hb5 hb6 KK far9
      go_wp2
      clear z0 z1 z2 z3
      rw [hpw]
      clear hpw
      go_loopw [33] (fun i wr => ∃ (k : Nat) (b1 : Int) (o1 : Option Addr) (b2 : Int) (o2 : Option Addr), k ≤ P ∧ i = .int .i64 k ∧ Hid (Tru.alikeTo cs ds u k = true) ∧ Hid (Two T1 g1 c1 ms1 T2 g2 c2 ms2 b1 o1 b2 o2 wr) ∧ Hid (Below w.heap.size w wr)) (fun i _ => P - (intOf i).toNat)
      case atStart => exact ⟨0, _, _, _, _, Nat.zero_le _, rfl, hid rfl, TW, HB6⟩
      case round =>
        clear TW HB6
        obtain ⟨k, b1, o1, b2, o2, hk, rfl, HI, TW, HB6⟩ := hrel
        by_cases hkp : k < P
        · have hkp' : (k : Int) < P := by omega
          obtain ⟨p, hp⟩ : ∃ p, Tru.sat cs u k = p := ⟨_, rfl⟩
          obtain ⟨q, hq⟩ : ∃ q, Tru.sat ds u k = q := ⟨_, rfl⟩
          have HSJ := hid (show (Tru.sat cs u k == Tru.sat ds u k) = (p == q) by rw [hp, hq])
          have HPS := hid (show Cnf.holds cs (Tru.model u k) = p from hp)
          have HQS := hid (show Cnf.holds ds (Tru.model u k) = q from hq)
          clear hp hq
          have C1 := hid (holds22f T1 g1 c1 k ms1 b1 o1 wr (by omega) L1 SM1.out TW.out.one)
          cases p
          · cases q
            · go_wp2_with (first
                | (go_at_call 22; refine C1.out.mono ?_; clear C1; rintro e w7 ⟨he, o1', ht, hb, hu7⟩; rw [HC1.out ms1 k E1.out, HPS.out] at he; subst he
                   have TW7 := hid (TW.out.ask1 ht hu7)
                   have HB7 := hid (HB6.out.trans (hb.mono (by omega)))
                   have C2 := hid (holds22f T2 g2 c2 k ms2 b2 o2 w7 (by omega) L2 SM2.out TW7.out.two)
                   clear ht hb hu7)
                | (go_at_call 22; refine C2.out.mono ?_; clear C2; rintro e w8' ⟨he, o2', ht, hb, hu8⟩; rw [HC2.out ms2 k E2.out, HQS.out] at he; subst he
                   have TW8 := hid (TW7.out.ask2 ht hu8)
                   have HB8 := hid (HB7.out.trans (hb.mono (by omega)))
                   clear ht hb hu8))
              go_roundw
              case rel => exact ⟨k + 1, _, _, _, _, by omega, by go_num, hid (by rw [Tru.alikeTo, HI.out, HSJ.out]; rfl), TW8, HB8⟩
              case measure => simp [intOf]; omega
            · go_wp2_with (first
                | (go_at_call 22; refine C1.out.mono ?_; clear C1; rintro e w7 ⟨he, o1', ht, hb, hu7⟩; rw [HC1.out ms1 k E1.out, HPS.out] at he; subst he
                   have TW7 := hid (TW.out.ask1 ht hu7)
                   have HB7 := hid (HB6.out.trans (hb.mono (by omega)))
                   have C2 := hid (holds22f T2 g2 c2 k ms2 b2 o2 w7 (by omega) L2 SM2.out TW7.out.two)
                   clear ht hb hu7)
                | (go_at_call 22; refine C2.out.mono ?_; clear C2; rintro e w8' ⟨he, o2', ht, hb, hu8⟩; rw [HC2.out ms2 k E2.out, HQS.out] at he; subst he
                   have TW8 := hid (TW7.out.ask2 ht hu8)
                   have HB8 := hid (HB7.out.trans (hb.mono (by omega)))
                   clear ht hb hu8))
              go_ret2
              exact ⟨by rw [Tru.alikeTo_false cs ds u k HSJ.out P hkp]; rfl, HB8.out⟩
          · cases q
            · go_wp2_with (first
                | (go_at_call 22; refine C1.out.mono ?_; clear C1; rintro e w7 ⟨he, o1', ht, hb, hu7⟩; rw [HC1.out ms1 k E1.out, HPS.out] at he; subst he
                   have TW7 := hid (TW.out.ask1 ht hu7)
                   have HB7 := hid (HB6.out.trans (hb.mono (by omega)))
                   have C2 := hid (holds22f T2 g2 c2 k ms2 b2 o2 w7 (by omega) L2 SM2.out TW7.out.two)
                   clear ht hb hu7)
                | (go_at_call 22; refine C2.out.mono ?_; clear C2; rintro e w8' ⟨he, o2', ht, hb, hu8⟩; rw [HC2.out ms2 k E2.out, HQS.out] at he; subst he
                   have TW8 := hid (TW7.out.ask2 ht hu8)
                   have HB8 := hid (HB7.out.trans (hb.mono (by omega)))
                   clear ht hb hu8))
              go_ret2
              exact ⟨by rw [Tru.alikeTo_false cs ds u k HSJ.out P hkp]; rfl, HB8.out⟩
            · go_wp2_with (first
                | (go_at_call 22; refine C1.out.mono ?_; clear C1; rintro e w7 ⟨he, o1', ht, hb, hu7⟩; rw [HC1.out ms1 k E1.out, HPS.out] at he; subst he
                   have TW7 := hid (TW.out.ask1 ht hu7)
                   have HB7 := hid (HB6.out.trans (hb.mono (by omega)))
                   have C2 := hid (holds22f T2 g2 c2 k ms2 b2 o2 w7 (by omega) L2 SM2.out TW7.out.two)
                   clear ht hb hu7)
                | (go_at_call 22; refine C2.out.mono ?_; clear C2; rintro e w8' ⟨he, o2', ht, hb, hu8⟩; rw [HC2.out ms2 k E2.out, HQS.out] at he; subst he
                   have TW8 := hid (TW7.out.ask2 ht hu8)
                   have HB8 := hid (HB7.out.trans (hb.mono (by omega)))
                   clear ht hb hu8))
              go_roundw
              case rel => exact ⟨k + 1, _, _, _, _, by omega, by go_num, hid (by rw [Tru.alikeTo, HI.out, HSJ.out]; rfl), TW8, HB8⟩
              case measure => simp [intOf]; omega
        · have hge : ¬ (k : Int) < P := by omega
          obtain rfl : k = P := by omega
          go_wp2
          go_ret2
          exact ⟨by rw [HI.out]; rfl, HB6.out⟩
end Go.Proofs.Ytccncojidkdddaa
