/- Parse by the document's own function. -/
import Derived.Test.YtlhpnkgdnmnclaaDoorRefP0
namespace Go.Proofs.YtlhpnkgdnmnclaaDoor
open Go.RowKit
set_option linter.unusedVariables false
set_option linter.unusedSimpArgs false

set_option maxRecDepth 100000 in
set_option maxHeartbeats 8000000 in
theorem parse10 (tb o n c : Nat) (xs : List Int) (w : World) (hn : xs.length = n) (hx : Txt tb w (some ⟨tb, o, none⟩) c xs) (htb : tb < w.heap.size) (hnb : n ≤ 100000) :
    Calls Tryd.prog 10 #[.slice (some ⟨tb, o, none⟩) n c] w (FOut (Dim.parse xs) w) := by
  have C27 := hid (lines27 tb o n c xs (w.alloc (.cells #[.int .i64 0, .slice none 0 0] 25)) hn (hx.kept ((below_box w _).block tb htb)) (by simp; omega) hnb)
  have hR0 := World.alloc_heap_new w (.cells #[.int .i64 0, .slice none 0 0] 25)
  have hB0 := below_box w (.cells #[.int .i64 0, .slice none 0 0] 25)
  have hs0 : (w.alloc (.cells #[.int .i64 0, .slice none 0 0] 25)).heap.size = w.heap.size + 1 := by simp
  have HR0 := hid hR0
  have HB0 := hid hB0
  have HS0 := hid hs0
  clear hR0 hB0 hs0
  obtain ⟨A, hA⟩ : ∃ A, Dim.parse xs = A := ⟨_, rfl⟩
  have HA := hid hA
  rw [hA]
  obtain ⟨L, hL⟩ : ∃ L, Dim.lines xs = L := ⟨_, rfl⟩
  have HXN := hid (show xs.length ≤ 100000 by omega)
  have HWD := hid (show ∀ l ∈ L, ∀ u ∈ Dim.words l, u.length ≤ 100000 ∧ Byt u from fun l hl u hu => by
    rw [← hL] at hl
    obtain ⟨h1, h2⟩ := Dim.word_in xs l hl u hu
    exact ⟨by omega, fun c hc => hx.1 c (h2 c hc)⟩)
  have HLn := hid (show L.length ≤ n by rw [← hL, ← hn]; exact Dim.lines_le xs)
  rw [hL] at C27
  have HL := hid hL
  clear hx hn hA hL
  rcases hf : Dim.first L with _ | at_
  · have HP := hid (show A = ⟨20, L.length + 1, 0, []⟩ by rw [← HA.out, Dim.parse_none xs (by rw [HL.out]; exact hf), HL.out])
    have HF := hid hf
    generalize hm : L.length = m at C27 HLn HP
    have hmb : m ≤ 100000 := by have := HLn.out; omega
    have HM := hid hm
    clear hf hm
    go_enter Tryd.func10, Tryd.ntmps10
    go_wp2_with (first
      | (go_at_call 27; refine C27.out.mono ?_; clear C27; rintro e W1 ⟨a1, cap1, ps, rfl, hLn, hb1⟩
         have C28 := hid (head28 _ m a1 cap1 L ps W1 HM.out (by omega) hLn)
         rw [HF.out] at C28
         have hR1 := (hb1.block w.heap.size (by simp)).trans HR0.out
         have x0 := row_cell hR1 0
         have x1 := row_cell hR1 1
         have f0 := row_frozen hR1 0
         have f1 := row_frozen hR1 1
         have HR1 := hid hR1
         have HB1 := hid (HB0.out.trans (hb1.mono HB0.out.size))
         clear hLn hb1 hR1)
      | (go_at_call 28; refine C28.out.mono ?_; clear C28; rintro e W2 ⟨rfl, rfl⟩; simp only [headI]))
    refine bodyPost_ret (results_cell_tmps rfl _ _ rfl (load_row25' _ (heap_set_row (heap_set_row HR1.out _) _))) rfl ?_
    exact .err HP.out (HB1.out.setCell (Nat.le_refl _) _ |>.setCell (Nat.le_refl _) _) rfl (by simp)
  · obtain ⟨ws, hws⟩ : ∃ ws, Dim.words (L.getD at_ []) = ws := ⟨_, rfl⟩
    have hlt := (Dim.first_lt L at_ hf).1
    have hPH := Dim.parse_head xs at_ (by rw [HL.out]; exact hf)
    rw [HL.out, HA.out, Dim.readHead_eq, hws] at hPH
    have HPH := hid hPH
    have HWS := hid hws
    have HF := hid hf
    clear hPH hws hf
    generalize hm : L.length = m at C27 HLn HPH hlt
    have hmb : m ≤ 100000 := by have := HLn.out; omega
    have HM := hid hm
    have hltI : (at_ : Int) < m := by omega
    have hat0 : ¬ (at_ : Int) < 0 := by omega
    clear hm
    have HW4 := hid (fun i (hi : i < L.length) => HWD.out (L.getD i []) (by simp [List.getD, List.getElem?_eq_getElem hi]))
    have ENT := hid (show ∀ (W1 : World) (a1 : Option Addr) (cap1 : Nat) (ps : List (Value × Value)), Lns (w.alloc (.cells #[.int .i64 0, .slice none 0 0] 25)).heap.size W1 (.slice a1 m cap1) L ps → ∃ g a' cap', a1 = some ⟨g, 0, none⟩ ∧ W1.cell? ⟨g, at_ * 2, none⟩ = some (.slice a' ws.length cap') ∧ StrV W1 (.slice a' ws.length cap') ws from fun W1 a1 cap1 ps h => by
      obtain ⟨g, cap, v, e, h0, h1, h2⟩ := h.at (j := at_) (by rw [HM.out]; exact hlt)
      injection e with e1 e2 e3
      rw [HWS.out] at h2
      obtain ⟨a', cap', rfl, h3⟩ := h2
      exact ⟨g, a', cap', e1, h0, ⟨a', cap', rfl, h3⟩⟩)
    by_cases h4 : ws.length = 4
    · have HW0 := hid (HW4.out at_ (by rw [HM.out]; exact hlt))
      rw [HWS.out] at HW0
      have hwd : ∀ i, i < 4 → Dim.ints (Dim.bs (ws.getD i [])) = ws.getD i [] ∧ (Dim.bs (ws.getD i [])).size ≤ 100000 := fun i hi => by
        have hm : ws.getD i [] ∈ ws := by simp [List.getD, List.getElem?_eq_getElem (show i < ws.length by omega)]
        obtain ⟨h1, h2⟩ := HW0.out _ hm
        exact ⟨Dim.ints_bs _ h2, by rw [Dim.bs_size]; exact h1⟩
      have ENT4 := hid (show ∀ (W1 : World) (a1 : Option Addr) (cap1 : Nat) (ps : List (Value × Value)), Lns (w.alloc (.cells #[.int .i64 0, .slice none 0 0] 25)).heap.size W1 (.slice a1 m cap1) L ps → ∃ g g' cap', a1 = some ⟨g, 0, none⟩ ∧ W1.cell? ⟨g, at_ * 2, none⟩ = some (.slice (some ⟨g', 0, none⟩) 4 cap') ∧ W1.cell? ⟨g', 0, none⟩ = some (.string (Dim.bs (ws.getD 0 []))) ∧ W1.cell? ⟨g', 1, none⟩ = some (.string (Dim.bs (ws.getD 1 []))) ∧ W1.cell? ⟨g', 2, none⟩ = some (.string (Dim.bs (ws.getD 2 []))) ∧ W1.cell? ⟨g', 3, none⟩ = some (.string (Dim.bs (ws.getD 3 []))) from fun W1 a1 cap1 ps h => by
        obtain ⟨g, a', cap', e1, h0, h2⟩ := ENT.out W1 a1 cap1 ps h
        obtain ⟨g', c0, q0, k0⟩ := h2.at (i := 0) (by omega)
        obtain ⟨g1, c1, q1, k1⟩ := h2.at (i := 1) (by omega)
        obtain ⟨g2, c2, q2, k2⟩ := h2.at (i := 2) (by omega)
        obtain ⟨g3, c3, q3, k3⟩ := h2.at (i := 3) (by omega)
        cases q0
        cases q1
        cases q2
        cases q3
        rw [h4] at h0
        exact ⟨g, g', cap', e1, h0, k0, k1, k2, k3⟩)
      obtain ⟨i0, z0⟩ := hwd 0 (by omega)
      obtain ⟨i1, z1⟩ := hwd 1 (by omega)
      obtain ⟨i2, z2⟩ := hwd 2 (by omega)
      obtain ⟨i3, z3⟩ := hwd 3 (by omega)
      clear hwd ENT
      have t0 := Dim.ints_lit (Dim.bs (ws.getD 0 [])) [112]
      have t1 := Dim.ints_lit (Dim.bs (ws.getD 1 [])) [99, 110, 102]
      rw [i0] at t0
      rw [i1] at t1
      have N2 := hid (fun W => number29 (Dim.bs (ws.getD 2 [])) false 1048576 W (by omega) (by omega))
      have N3 := hid (fun W => number29 (Dim.bs (ws.getD 3 [])) false 1048576 W (by omega) (by omega))
      rw [i2, Dim.refNum_same _ _ _ (by simp)] at N2
      rw [i3, Dim.refNum_same _ _ _ (by simp)] at N3
      have hHD : Dim.hdB ws = (decide (ws.getD 0 [] = [112]) && decide (ws.getD 1 [] = [99, 110, 102]) && Dim.isNum (ws.getD 2 []) && Dim.isNum (ws.getD 3 [])) := by
        unfold Dim.hdB
        have eb : ∀ a b : List Int, (a == b) = decide (a = b) := fun a b => by by_cases h : a = b <;> simp [h]
        rw [decide_eq_true (show ws.length ≤ 4 by omega), Bool.true_and, eb, eb]
      simp only [List.map_cons, List.map_nil] at t0 t1
      rw [hHD] at HPH
      clear i0 i1 i2 i3 z0 z1 z2 z3 hHD h4
      generalize Dim.bs (ws.getD 0 []) = S0 at ENT4 t0
      generalize Dim.bs (ws.getD 1 []) = S1 at ENT4 t1
      generalize Dim.bs (ws.getD 2 []) = S2 at ENT4 N2
      generalize Dim.bs (ws.getD 3 []) = S3 at ENT4 N3
      generalize ws.getD 0 [] = u0 at t0 HPH
      generalize ws.getD 1 [] = u1 at t1 HPH
      generalize ws.getD 2 [] = u2 at N2 HPH
      generalize ws.getD 3 [] = u3 at N3 HPH
      by_cases h0 : u0 = [112]
      case neg =>
        have HP := hid (show A = ⟨20, at_ + 1, 0, []⟩ by rw [HPH.out, decide_eq_false h0]; rfl)
        have T0 : (S0.toList == [112]) = false := t0.trans (decide_eq_false h0)
        clear t0 t1 h0 HPH N2 N3
        go_enter Tryd.func10, Tryd.ntmps10
        go_wp2_with (first
          | (go_at_call 27; refine C27.out.mono ?_; clear C27; rintro e W1 ⟨a1, cap1, ps, rfl, hLn, hb1⟩
             have C28 := hid (head28 _ m a1 cap1 L ps W1 HM.out (by omega) hLn)
             rw [HF.out] at C28
             have hR1 := (hb1.block w.heap.size (by simp)).trans HR0.out
             have x0 := row_cell hR1 0
             have x1 := row_cell hR1 1
             have f0 := row_frozen hR1 0
             have f1 := row_frozen hR1 1
             have HR1 := hid hR1
             have HB1 := hid (HB0.out.trans (hb1.mono HB0.out.size))
             obtain ⟨g, g', cap', rfl, hcw, d0, d1, d2, d3⟩ := ENT4.out W1 a1 cap1 ps hLn
             have HLN := hid hLn
             clear hLn hb1 hR1)
          | (go_at_call 28; refine C28.out.mono ?_; clear C28; rintro e W2 ⟨rfl, rfl⟩; simp only [headI])
          | (go_at_call_of 29 (Value.string S2); refine (N2.out _).mono ?_; clear N2; rintro e W3 ⟨he, rfl⟩; simp only [NumOut] at he; subst he)
          | (go_at_call 29; refine (N3.out _).mono ?_; clear N3; rintro e W4 ⟨he, rfl⟩; simp only [NumOut] at he; subst he))
        all_goals
          refine bodyPost_ret (results_cell_tmps rfl _ _ rfl (load_row25' _ (heap_set_row (heap_set_row HR1.out _) _))) rfl ?_
          exact .err HP.out (HB1.out.setCell (Nat.le_refl _) _ |>.setCell (Nat.le_refl _) _) rfl (by simp)
      have T0 : (S0.toList == [112]) = true := t0.trans (decide_eq_true h0)
      by_cases h1 : u1 = [99, 110, 102]
      case neg =>
        have HP := hid (show A = ⟨20, at_ + 1, 0, []⟩ by rw [HPH.out, decide_eq_false h1, Bool.and_false]; rfl)
        have T1 : (S1.toList == [99, 110, 102]) = false := t1.trans (decide_eq_false h1)
        clear t0 t1 h0 h1 HPH N2 N3
        go_enter Tryd.func10, Tryd.ntmps10
        go_wp2_with (first
          | (go_at_call 27; refine C27.out.mono ?_; clear C27; rintro e W1 ⟨a1, cap1, ps, rfl, hLn, hb1⟩
             have C28 := hid (head28 _ m a1 cap1 L ps W1 HM.out (by omega) hLn)
             rw [HF.out] at C28
             have hR1 := (hb1.block w.heap.size (by simp)).trans HR0.out
             have x0 := row_cell hR1 0
             have x1 := row_cell hR1 1
             have f0 := row_frozen hR1 0
             have f1 := row_frozen hR1 1
             have HR1 := hid hR1
             have HB1 := hid (HB0.out.trans (hb1.mono HB0.out.size))
             obtain ⟨g, g', cap', rfl, hcw, d0, d1, d2, d3⟩ := ENT4.out W1 a1 cap1 ps hLn
             have HLN := hid hLn
             clear hLn hb1 hR1)
          | (go_at_call 28; refine C28.out.mono ?_; clear C28; rintro e W2 ⟨rfl, rfl⟩; simp only [headI])
          | (go_at_call_of 29 (Value.string S2); refine (N2.out _).mono ?_; clear N2; rintro e W3 ⟨he, rfl⟩; simp only [NumOut] at he; subst he)
          | (go_at_call 29; refine (N3.out _).mono ?_; clear N3; rintro e W4 ⟨he, rfl⟩; simp only [NumOut] at he; subst he))
        all_goals
          refine bodyPost_ret (results_cell_tmps rfl _ _ rfl (load_row25' _ (heap_set_row (heap_set_row HR1.out _) _))) rfl ?_
          exact .err HP.out (HB1.out.setCell (Nat.le_refl _) _ |>.setCell (Nat.le_refl _) _) rfl (by simp)
      have T1 : (S1.toList == [99, 110, 102]) = true := t1.trans (decide_eq_true h1)
      rw [decide_eq_true h0, decide_eq_true h1, Bool.and_self, Bool.true_and] at HPH
      clear t0 t1 h0 h1
      cases k2 : Dim.isNum u2
      case false =>
        have HP := hid (show A = ⟨20, at_ + 1, 0, []⟩ by rw [HPH.out, k2]; rfl)
        rw [Dim.refOf_bad _ _ _ k2] at N2
        generalize Dim.refOf u3 1048576 false = r3 at N3
        obtain ⟨x3, ok3, ft3⟩ := r3
        clear HPH k2
        go_enter Tryd.func10, Tryd.ntmps10
        go_wp2_with (first
          | (go_at_call 27; refine C27.out.mono ?_; clear C27; rintro e W1 ⟨a1, cap1, ps, rfl, hLn, hb1⟩
             have C28 := hid (head28 _ m a1 cap1 L ps W1 HM.out (by omega) hLn)
             rw [HF.out] at C28
             have hR1 := (hb1.block w.heap.size (by simp)).trans HR0.out
             have x0 := row_cell hR1 0
             have x1 := row_cell hR1 1
             have f0 := row_frozen hR1 0
             have f1 := row_frozen hR1 1
             have HR1 := hid hR1
             have HB1 := hid (HB0.out.trans (hb1.mono HB0.out.size))
             obtain ⟨g, g', cap', rfl, hcw, d0, d1, d2, d3⟩ := ENT4.out W1 a1 cap1 ps hLn
             have HLN := hid hLn
             clear hLn hb1 hR1)
          | (go_at_call 28; refine C28.out.mono ?_; clear C28; rintro e W2 ⟨rfl, rfl⟩; simp only [headI])
          | (go_at_call_of 29 (Value.string S2); refine (N2.out _).mono ?_; clear N2; rintro e W3 ⟨he, rfl⟩; simp only [NumOut] at he; subst he)
          | (go_at_call 29; refine (N3.out _).mono ?_; clear N3; rintro e W4 ⟨he, rfl⟩; simp only [NumOut] at he; subst he))
        all_goals
          refine bodyPost_ret (results_cell_tmps rfl _ _ rfl (load_row25' _ (heap_set_row (heap_set_row HR1.out _) _))) rfl ?_
          exact .err HP.out (HB1.out.setCell (Nat.le_refl _) _ |>.setCell (Nat.le_refl _) _) rfl (by simp)
      rw [k2, Bool.true_and] at HPH
      cases k3 : Dim.isNum u3
      case false =>
        have HP := hid (show A = ⟨20, at_ + 1, 0, []⟩ by rw [HPH.out, k3]; rfl)
        rw [Dim.refOf_bad _ _ _ k3] at N3
        rw [show Dim.refOf u2 1048576 false = ((Dim.refOf u2 1048576 false).1, true, (Dim.refOf u2 1048576 false).2.2) by unfold Dim.refOf; rw [k2, if_pos rfl]; split <;> rfl] at N2
        generalize (Dim.refOf u2 1048576 false).1 = x2 at N2
        generalize (Dim.refOf u2 1048576 false).2.2 = ft2 at N2
        clear HPH k2 k3
        go_enter Tryd.func10, Tryd.ntmps10
        go_wp2_with (first
          | (go_at_call 27; refine C27.out.mono ?_; clear C27; rintro e W1 ⟨a1, cap1, ps, rfl, hLn, hb1⟩
             have C28 := hid (head28 _ m a1 cap1 L ps W1 HM.out (by omega) hLn)
             rw [HF.out] at C28
             have hR1 := (hb1.block w.heap.size (by simp)).trans HR0.out
             have x0 := row_cell hR1 0
             have x1 := row_cell hR1 1
             have f0 := row_frozen hR1 0
             have f1 := row_frozen hR1 1
             have HR1 := hid hR1
             have HB1 := hid (HB0.out.trans (hb1.mono HB0.out.size))
             obtain ⟨g, g', cap', rfl, hcw, d0, d1, d2, d3⟩ := ENT4.out W1 a1 cap1 ps hLn
             have HLN := hid hLn
             clear hLn hb1 hR1)
          | (go_at_call 28; refine C28.out.mono ?_; clear C28; rintro e W2 ⟨rfl, rfl⟩; simp only [headI])
          | (go_at_call_of 29 (Value.string S2); refine (N2.out _).mono ?_; clear N2; rintro e W3 ⟨he, rfl⟩; simp only [NumOut] at he; subst he)
          | (go_at_call 29; refine (N3.out _).mono ?_; clear N3; rintro e W4 ⟨he, rfl⟩; simp only [NumOut] at he; subst he))
        all_goals
          refine bodyPost_ret (results_cell_tmps rfl _ _ rfl (load_row25' _ (heap_set_row (heap_set_row HR1.out _) _))) rfl ?_
          exact .err HP.out (HB1.out.setCell (Nat.le_refl _) _ |>.setCell (Nat.le_refl _) _) rfl (by simp)
      rw [k3, if_pos rfl] at HPH
      simp only at HPH
      by_cases g2 : 1048576 < Dim.valGo 0 u2
      case pos =>
        have HP := hid (show A = ⟨22, at_ + 1, 0, []⟩ by rw [HPH.out, if_pos (.inl g2)])
        rw [Dim.refOf_big _ _ _ k2 g2] at N2
        rw [show Dim.refOf u3 1048576 false = ((Dim.refOf u3 1048576 false).1, true, (Dim.refOf u3 1048576 false).2.2) by unfold Dim.refOf; rw [k3, if_pos rfl]; split <;> rfl] at N3
        generalize (Dim.refOf u3 1048576 false).1 = x3 at N3
        generalize (Dim.refOf u3 1048576 false).2.2 = ft3 at N3
        clear HPH k2 k3 g2
        go_enter Tryd.func10, Tryd.ntmps10
        go_wp2_with (first
          | (go_at_call 27; refine C27.out.mono ?_; clear C27; rintro e W1 ⟨a1, cap1, ps, rfl, hLn, hb1⟩
             have C28 := hid (head28 _ m a1 cap1 L ps W1 HM.out (by omega) hLn)
             rw [HF.out] at C28
             have hR1 := (hb1.block w.heap.size (by simp)).trans HR0.out
             have x0 := row_cell hR1 0
             have x1 := row_cell hR1 1
             have f0 := row_frozen hR1 0
             have f1 := row_frozen hR1 1
             have HR1 := hid hR1
             have HB1 := hid (HB0.out.trans (hb1.mono HB0.out.size))
             obtain ⟨g, g', cap', rfl, hcw, d0, d1, d2, d3⟩ := ENT4.out W1 a1 cap1 ps hLn
             have HLN := hid hLn
             clear hLn hb1 hR1)
          | (go_at_call 28; refine C28.out.mono ?_; clear C28; rintro e W2 ⟨rfl, rfl⟩; simp only [headI])
          | (go_at_call_of 29 (Value.string S2); refine (N2.out _).mono ?_; clear N2; rintro e W3 ⟨he, rfl⟩; simp only [NumOut] at he; subst he)
          | (go_at_call 29; refine (N3.out _).mono ?_; clear N3; rintro e W4 ⟨he, rfl⟩; simp only [NumOut] at he; subst he))
        all_goals
          refine bodyPost_ret (results_cell_tmps rfl _ _ rfl (load_row25' _ (heap_set_row (heap_set_row HR1.out _) _))) rfl ?_
          exact .err HP.out (HB1.out.setCell (Nat.le_refl _) _ |>.setCell (Nat.le_refl _) _) rfl (by simp)
      by_cases g3 : 1048576 < Dim.valGo 0 u3
      case pos =>
        have HP := hid (show A = ⟨22, at_ + 1, 0, []⟩ by rw [HPH.out, if_pos (.inr g3)])
        rw [Dim.refOf_big _ _ _ k3 g3] at N3
        rw [Dim.refOf_fit _ _ _ k2 g2] at N2
        simp only [Bool.false_eq_true, if_false] at N2
        generalize Dim.valGo 0 u2 = x2 at N2
        clear HPH k2 k3 g2 g3
        go_enter Tryd.func10, Tryd.ntmps10
        go_wp2_with (first
          | (go_at_call 27; refine C27.out.mono ?_; clear C27; rintro e W1 ⟨a1, cap1, ps, rfl, hLn, hb1⟩
             have C28 := hid (head28 _ m a1 cap1 L ps W1 HM.out (by omega) hLn)
             rw [HF.out] at C28
             have hR1 := (hb1.block w.heap.size (by simp)).trans HR0.out
             have x0 := row_cell hR1 0
             have x1 := row_cell hR1 1
             have f0 := row_frozen hR1 0
             have f1 := row_frozen hR1 1
             have HR1 := hid hR1
             have HB1 := hid (HB0.out.trans (hb1.mono HB0.out.size))
             obtain ⟨g, g', cap', rfl, hcw, d0, d1, d2, d3⟩ := ENT4.out W1 a1 cap1 ps hLn
             have HLN := hid hLn
             clear hLn hb1 hR1)
          | (go_at_call 28; refine C28.out.mono ?_; clear C28; rintro e W2 ⟨rfl, rfl⟩; simp only [headI])
          | (go_at_call_of 29 (Value.string S2); refine (N2.out _).mono ?_; clear N2; rintro e W3 ⟨he, rfl⟩; simp only [NumOut] at he; subst he)
          | (go_at_call 29; refine (N3.out _).mono ?_; clear N3; rintro e W4 ⟨he, rfl⟩; simp only [NumOut] at he; subst he))
        all_goals
          refine bodyPost_ret (results_cell_tmps rfl _ _ rfl (load_row25' _ (heap_set_row (heap_set_row HR1.out _) _))) rfl ?_
          exact .err HP.out (HB1.out.setCell (Nat.le_refl _) _ |>.setCell (Nat.le_refl _) _) rfl (by simp)
      rw [if_neg (show ¬ (1048576 < Dim.valGo 0 u2 ∨ 1048576 < Dim.valGo 0 u3) by omega)] at HPH
      rw [Dim.refOf_fit _ _ _ k2 g2] at N2
      rw [Dim.refOf_fit _ _ _ k3 g3] at N3
      simp only [Bool.false_eq_true, if_false] at N2 N3
      generalize Dim.valGo 0 u2 = vars at N2 HPH g2
      generalize Dim.valGo 0 u3 = clauses at N3 HPH g3
      clear k2 k3
      go_enter Tryd.func10, Tryd.ntmps10
      go_wp2_with (first
        | (go_at_call 27; refine C27.out.mono ?_; clear C27; rintro e W1 ⟨a1, cap1, ps, rfl, hLn, hb1⟩
           have C28 := hid (head28 _ m a1 cap1 L ps W1 HM.out (by omega) hLn)
           rw [HF.out] at C28
           have hR1 := (hb1.block w.heap.size (by simp)).trans HR0.out
           have x0 := row_cell hR1 0
           have x1 := row_cell hR1 1
           have f0 := row_frozen hR1 0
           have f1 := row_frozen hR1 1
           have HR1 := hid hR1
           have HB1 := hid (HB0.out.trans (hb1.mono HB0.out.size))
           obtain ⟨g, g', cap', rfl, hcw, d0, d1, d2, d3⟩ := ENT4.out W1 a1 cap1 ps hLn
           have HLN := hid hLn
           clear hLn hb1 hR1)
        | (go_at_call 28; refine C28.out.mono ?_; clear C28; rintro e W2 ⟨rfl, rfl⟩; simp only [headI])
        | (go_at_call_of 29 (Value.string S2); refine (N2.out _).mono ?_; clear N2; rintro e W3 ⟨he, rfl⟩; simp only [NumOut] at he; subst he)
        | (go_at_call 29; refine (N3.out _).mono ?_; clear N3; rintro e W4 ⟨he, rfl⟩; simp only [NumOut] at he; subst he))
      have hvN : (vars : Int) ≤ 1048576 := by omega
      have hcN : clauses ≤ 1048576 := by omega
      have HPR0 := hid (PRd.start W4 vars clauses hcN)
      have HRL := hid (show w.heap.size < W4.heap.size from (Array.getElem?_eq_some_iff.1 HR1.out).1)
      obtain ⟨PRES, hPRES⟩ : ∃ P, Dim.play vars clauses ⟨[], [], 0⟩ (Dim.items (at_ + 1) (L.drop (at_ + 1))) = P := ⟨_, rfl⟩
      rw [hPRES] at HPH
      have HPS := hid hPRES
      clear hPRES x0 x1 f0 f1 hcw d0 d1 d2 d3 ENT4 hcN
      go_loopw [15, 16, 17] (fun cv lv iv wr => ∃ (i li lc cc lf cf : Nat) (oc of_ : Option Addr) (st : Dim.St), cv = .slice oc lc cc ∧ lv = .int .i64 li ∧ iv = .int .i64 i ∧ i ≤ m ∧ Hid (st.lits = li) ∧ Hid (Dim.play vars clauses st (Dim.items i (L.drop i)) = PRES) ∧ Hid (PRd W4 vars clauses st oc lc cc of_ lf cf wr)) (fun _ _ iv _ => m - (intOf iv).toNat)
      case atStart => exact ⟨at_ + 1, 0, 0, 0, 0, 0, none, none, ⟨[], [], 0⟩, rfl, rfl, by go_num, by omega, hid rfl, HPS, HPR0⟩
      case round =>
        clear HPR0 HPS
        obtain ⟨i, li, lc, cc, lf, cf, oc, of_, st, rfl, rfl, rfl, him, HLI, HPL, HPR⟩ := hrel
        by_cases hil : i < m
        · have hil' : (i : Int) < m := by omega
          have HWI := hid (HW4.out i (by rw [HM.out]; exact hil))
          have HTB := hid (show Dim.play vars clauses st (Dim.todo L i 0) = PRES by rw [← Dim.todo_begin L i (by rw [HM.out]; exact hil)]; exact HPL.out)
          obtain ⟨wl, hwl⟩ : ∃ wl, (Dim.words (L.getD i [])).length = wl := ⟨_, rfl⟩
          have hwb : wl ≤ 100000 := by
            rw [← hwl]
            have h1 := Dim.words_count (L.getD i [])
            have h2 : L.getD i [] ∈ Dim.lines xs := by rw [HL.out]; simp [List.getD, List.getElem?_eq_getElem (show i < L.length by rw [HM.out]; exact hil)]
            have h3 := (Dim.lines_in xs _ h2).1
            have h4 := HXN.out
            omega
          have HWL := hid hwl
          clear HPL hwl
          go_wp2
          go_loopw [15, 16, 18] (fun cv lv kv wr => ∃ (k li lc cc lf cf : Nat) (oc of_ : Option Addr) (st : Dim.St), cv = .slice oc lc cc ∧ lv = .int .i64 li ∧ kv = .int .i64 k ∧ k ≤ wl ∧ Hid (st.lits = li) ∧ Hid (Dim.play vars clauses st (Dim.todo L i k) = PRES) ∧ Hid (PRd W4 vars clauses st oc lc cc of_ lf cf wr)) (fun _ _ kv _ => wl - (intOf kv).toNat)
          case atStart => exact ⟨0, li, lc, cc, lf, cf, oc, of_, st, rfl, rfl, rfl, by omega, HLI, HTB, HPR⟩
          case round =>
            clear HLI HTB HPR
            obtain ⟨k, li, lc, cc, lf, cf, oc, of_, st, rfl, rfl, rfl, hkl, HLI, HPL, HPR⟩ := hrel
            obtain ⟨g9, c9, v9, e9, q0, _, hS9⟩ := (HLN.out.below HPR.out.below).at (j := i) (by rw [HM.out]; exact hil)
            cases e9
            obtain ⟨a9, cap9, rfl, hS8⟩ := hS9
            rw [HWL.out] at q0
            have b0 := row_cell HPR.out.blk 0
            have b1 := row_cell HPR.out.blk 1
            have bf := row_frozen HPR.out.blk 1
            have hLI := HPR.out.li
            rw [HLI.out] at hLI
            by_cases hk : k < wl
            · have hk' : (k : Int) < wl := by omega
              obtain ⟨g8, c8, e8, hcs⟩ := StrV.at (W := wr) (v := .slice a9 (Dim.words (L.getD i [])).length cap9) ⟨a9, cap9, rfl, hS8⟩ (i := k) (by rw [HWL.out]; exact hk)
              cases e8
              have HTW := hid (Dim.todo_word L i k (by rw [HWL.out]; exact hk))
              have hwm : (Dim.words (L.getD i [])).getD k [] ∈ Dim.words (L.getD i []) := Cnf.getD_cls _ k (by rw [HWL.out]; exact hk)
              obtain ⟨hw1, hw2⟩ := HWI.out _ hwm
              generalize (Dim.words (L.getD i [])).getD k [] = wd at hcs HTW hw1 hw2 hwm
              have C29 := hid (number29 (Dim.bs wd) true vars wr (by rw [Dim.bs_size]; omega) (by omega))
              rw [Dim.ints_bs _ hw2, Dim.refNum_signed] at C29
              generalize Dim.bs wd = SW at hcs C29
              have hPL := HPL.out
              rw [HTW.out, Dim.play] at hPL
              clear hw1 hw2 hwm HTW HPL hS8
              rcases hs : Dim.signed wd with _ | ⟨neg, nn⟩
              · have HP := hid (show A = ⟨21, i + 1, 0, []⟩ by
                  have ht : Dim.take vars clauses st wd = .error 21 := by unfold Dim.take; rw [hs]
                  rw [ht] at hPL
                  rw [HPH.out, ← hPL])
                rw [hs] at C29
                clear hPL hs hLI b0 b1 bf
                have hR := (HPR.out.below.block w.heap.size HRL.out).trans HR1.out
                have x0 := row_cell hR 0
                have x1 := row_cell hR 1
                have f0 := row_frozen hR 0
                have f1 := row_frozen hR 1
                have HR := hid hR
                clear hR
                go_wp2_with (first
                  | (go_at_call 29; refine C29.out.mono ?_; clear C29; rintro e W5 ⟨he, rfl⟩; simp only [NumOut] at he; subst he))
                refine bodyPost_ret (results_cell_tmps rfl _ _ rfl (load_row25' _ (heap_set_row (heap_set_row HR.out _) _))) rfl ?_
                exact .err HP.out ((HB1.out.trans (HPR.out.below.mono (Nat.le_of_lt HRL.out))).setCell (Nat.le_refl _) _ |>.setCell (Nat.le_refl _) _) rfl (by simp)
              · rw [hs] at C29
                simp only at C29
                by_cases hcl : lf = clauses
                · have HP := hid (show A = ⟨24, i + 1, 0, []⟩ by
                    have ht : Dim.take vars clauses st wd = .error 24 := by unfold Dim.take; rw [hs]; simp only; rw [if_pos (by rw [HPR.out.lf_]; exact hcl)]
                    rw [ht] at hPL
                    rw [HPH.out, ← hPL])
                  have hclb : ((lf : Int) == (clauses : Int)) = true := by simp; omega
                  rw [show (if vars < nn then ((0 : Int), true, false) else ((if neg = true then -(nn : Int) else nn), true, true)) = ((if vars < nn then (0 : Int) else (if neg = true then -(nn : Int) else nn)), true, decide (¬ vars < nn)) by split <;> simp_all] at C29
                  generalize (if vars < nn then (0 : Int) else (if neg = true then -(nn : Int) else nn)) = nv at C29
                  generalize decide (¬ vars < nn) = fv at C29
                  clear hPL hs hLI hcl
                  have hR := (HPR.out.below.block w.heap.size HRL.out).trans HR1.out
                  have x0 := row_cell hR 0
                  have x1 := row_cell hR 1
                  have f0 := row_frozen hR 0
                  have f1 := row_frozen hR 1
                  have HR := hid hR
                  clear hR
                  go_wp2_with (first
                    | (go_at_call 29; refine C29.out.mono ?_; clear C29; rintro e W5 ⟨he, rfl⟩; simp only [NumOut] at he; subst he))
                  refine bodyPost_ret (results_cell_tmps rfl _ _ rfl (load_row25' _ (heap_set_row (heap_set_row HR.out _) _))) rfl ?_
                  exact .err HP.out ((HB1.out.trans (HPR.out.below.mono (Nat.le_of_lt HRL.out))).setCell (Nat.le_refl _) _ |>.setCell (Nat.le_refl _) _) rfl (by simp)
                have hclb : ((lf : Int) == (clauses : Int)) = false := by rw [beq_eq_false_iff_ne]; omega
                by_cases hz : nn = 0
                · have hng : neg = false := by
                    cases neg
                    · rfl
                    · have := signed_in wd true nn hs rfl; omega
                  subst hz hng
                  have HPN := hid (show Dim.play vars clauses ⟨st.cls ++ [st.opn], [], st.lits⟩ (Dim.todo L i (k + 1)) = PRES by
                    have ht : Dim.take vars clauses st wd = .ok ⟨st.cls ++ [st.opn], [], st.lits⟩ := by unfold Dim.take; rw [hs]; simp only; rw [if_neg (by rw [HPR.out.lf_]; exact hcl), if_pos trivial]
                    rw [ht] at hPL
                    exact hPL)
                  rw [if_neg (by omega)] at C29
                  simp only [Bool.false_eq_true, if_false, Int.natCast_zero, Int.cast_ofNat_Int] at C29
                  obtain ⟨o', cp', B, hr, hBl, hPR'⟩ := HPR.out.push (by omega)
                  have HAR := hid hr
                  have D1 := hid (row_cell hBl 1)
                  have D2 := hid (row_frozen hBl 1)
                  have HPR2 := hid hPR'
                  clear hr hBl hPR' hPL hs hLI hcl
                  go_wp2_with (first
                    | (go_at_call 29; refine C29.out.mono ?_; clear C29; rintro e W5 ⟨he, rfl⟩; simp only [NumOut] at he; subst he)
                    | (at_builtin; refine wpList_append_run rfl (.tmp 152) (.tmp 154) 23 rfl rfl rfl HAR.out ?_; clear b0 b1 bf; have b1 := D1.out; have bf := D2.out))
                  go_roundw
                  case rel => exact ⟨k + 1, li, 0, 0, lf + 1, cp', none, o', ⟨st.cls ++ [st.opn], [], st.lits⟩, rfl, rfl, by go_num, by omega, HLI, HPN, HPR2⟩
                  case measure => simp [intOf]; omega
                · by_cases hbg : vars < nn
                  · have HP := hid (show A = ⟨22, i + 1, 0, []⟩ by
                      have ht : Dim.take vars clauses st wd = .error 22 := by unfold Dim.take; rw [hs]; simp only; rw [if_neg (by rw [HPR.out.lf_]; exact hcl), if_neg hz, if_pos (.inl hbg)]
                      rw [ht] at hPL
                      rw [HPH.out, ← hPL])
                    rw [if_pos hbg] at C29
                    clear hPL hs hLI hcl hz
                    have hR := (HPR.out.below.block w.heap.size HRL.out).trans HR1.out
                    have x0 := row_cell hR 0
                    have x1 := row_cell hR 1
                    have f0 := row_frozen hR 0
                    have f1 := row_frozen hR 1
                    have HR := hid hR
                    clear hR
                    go_wp2_with (first
                      | (go_at_call 29; refine C29.out.mono ?_; clear C29; rintro e W5 ⟨he, rfl⟩; simp only [NumOut] at he; subst he))
                    refine bodyPost_ret (results_cell_tmps rfl _ _ rfl (load_row25' _ (heap_set_row (heap_set_row HR.out _) _))) rfl ?_
                    exact .err HP.out ((HB1.out.trans (HPR.out.below.mono (Nat.le_of_lt HRL.out))).setCell (Nat.le_refl _) _ |>.setCell (Nat.le_refl _) _) rfl (by simp)
                  rw [if_neg hbg] at C29
                  have hnz : ((if neg = true then -(nn : Int) else nn) != 0) = true := by cases neg <;> simp <;> omega
                  have hnz2 : ((if neg = true then -(nn : Int) else nn) == 0) = false := by cases neg <;> simp <;> omega
                  have hnb : -1048576 ≤ (if neg = true then -(nn : Int) else nn) ∧ (if neg = true then -(nn : Int) else nn) ≤ 1048576 := by cases neg <;> simp <;> omega
                  by_cases hmx : li = 16777216
                  · have HP := hid (show A = ⟨22, i + 1, 0, []⟩ by
                      have ht : Dim.take vars clauses st wd = .error 22 := by unfold Dim.take; rw [hs]; simp only; rw [if_neg (by rw [HPR.out.lf_]; exact hcl), if_neg hz, if_pos (.inr (by rw [HLI.out]; exact hmx))]
                      rw [ht] at hPL
                      rw [HPH.out, ← hPL])
                    have hmxb : ((li : Int) == 16777216) = true := by simp; omega
                    generalize (if neg = true then -(nn : Int) else nn) = nv at C29 hnz hnz2
                    clear hPL hs hLI hcl hz hmx hnb hbg hnz2
                    have hR := (HPR.out.below.block w.heap.size HRL.out).trans HR1.out
                    have x0 := row_cell hR 0
                    have x1 := row_cell hR 1
                    have f0 := row_frozen hR 0
                    have f1 := row_frozen hR 1
                    have HR := hid hR
                    clear hR
                    go_wp2_with (first
                      | (go_at_call 29; refine C29.out.mono ?_; clear C29; rintro e W5 ⟨he, rfl⟩; simp only [NumOut] at he; subst he))
                    refine bodyPost_ret (results_cell_tmps rfl _ _ rfl (load_row25' _ (heap_set_row (heap_set_row HR.out _) _))) rfl ?_
                    exact .err HP.out ((HB1.out.trans (HPR.out.below.mono (Nat.le_of_lt HRL.out))).setCell (Nat.le_refl _) _ |>.setCell (Nat.le_refl _) _) rfl (by simp)
                  have HPN := hid (show Dim.play vars clauses ⟨st.cls, st.opn ++ [if neg = true then -(nn : Int) else nn], st.lits + 1⟩ (Dim.todo L i (k + 1)) = PRES by
                    have ht : Dim.take vars clauses st wd = .ok ⟨st.cls, st.opn ++ [if neg = true then -(nn : Int) else nn], st.lits + 1⟩ := by unfold Dim.take; rw [hs]; simp only; rw [if_neg (by rw [HPR.out.lf_]; exact hcl), if_neg hz, if_neg (by rw [HLI.out]; omega)]
                    rw [ht] at hPL
                    exact hPL)
                  have hmxb : ((li : Int) == 16777216) = false := by rw [beq_eq_false_iff_ne]; omega
                  obtain ⟨o', cp', B, hr, hPR'⟩ := HPR.out.lit _ hnb (by rw [HLI.out]; omega) (by omega)
                  generalize (if neg = true then -(nn : Int) else nn) = nv at C29 hnz hnz2 HPN hr hPR' hnb
                  have HAR := hid hr
                  have HPR2 := hid hPR'
                  have hlb : (li : Int) ≤ 1099511627776 := by omega
                  have hw32 : IntKind.i32.wrap nv = nv := by
                    rw [show IntKind.i32.wrap nv = if 2147483648 ≤ nv % 4294967296 then nv % 4294967296 - 4294967296 else nv % 4294967296 by simp [IntKind.wrap, IntKind.bits, IntKind.signed]]
                    split <;> omega
                  clear hr hPR' hPL hs hLI hcl hz hmx hbg hnb
                  go_wp2_with (first
                    | (go_at_call 29; refine C29.out.mono ?_; clear C29; rintro e W5 ⟨he, rfl⟩; simp only [NumOut] at he; subst he)
                    | (at_builtin; refine wpList_append_run rfl (.tmp 157) (.tmp 160) 52 rfl rfl rfl HAR.out ?_))
                  go_roundw
                  case rel => exact ⟨k + 1, li + 1, lc + 1, cp', lf, cf, o', of_, ⟨st.cls, st.opn ++ [nv], st.lits + 1⟩, rfl, by go_num, by go_num, by omega, hid (by rw [HLI.out]), HPN, HPR2⟩
                  case measure => simp [intOf]; omega
            · have hk' : ¬ (k : Int) < wl := by omega
              have HPN := hid (show Dim.play vars clauses st (Dim.items (i + 1) (L.drop (i + 1))) = PRES by rw [← Dim.todo_line L i k (by rw [HWL.out]; omega)]; exact HPL.out)
              clear hLI b0 b1 bf hS8
              go_wp2
              go_roundw
              case rel => exact ⟨i + 1, li, lc, cc, lf, cf, oc, of_, st, rfl, rfl, by go_num, by omega, HLI, HPN, HPR⟩
              case measure => simp [intOf]; omega
        · have hil' : ¬ (i : Int) < m := by omega
          have hPE := HPL.out
          rw [Dim.items_end L i (by rw [HM.out]; omega), Dim.play] at hPE
          have HPA := hid (show A = if st.cls.length < clauses then ⟨23, m + 1, 0, []⟩ else ⟨0, 0, vars, st.cls⟩ by rw [HPH.out, ← hPE])
          clear hPE HPL HPH
          have b0 := row_cell HPR.out.blk 0
          have b1 := row_cell HPR.out.blk 1
          have hLI := HPR.out.li
          have hR := (HPR.out.below.block w.heap.size HRL.out).trans HR1.out
          have x0 := row_cell hR 0
          have x1 := row_cell hR 1
          have f0 := row_frozen hR 0
          have f1 := row_frozen hR 1
          have HR := hid hR
          clear hR
          by_cases hlc : 0 < lc
          · have HP := hid (show A = ⟨23, m + 1, 0, []⟩ by rw [HPA.out, if_pos (by rw [HPR.out.lf_]; exact hLI.2.2.2 hlc)])
            have hlc' : (0 : Int) < lc := by omega
            clear hLI
            go_wp2
            refine bodyPost_ret (results_cell_tmps rfl _ _ rfl (load_row25' _ (heap_set_row (heap_set_row HR.out _) _))) rfl ?_
            exact .err HP.out ((HB1.out.trans (HPR.out.below.mono (Nat.le_of_lt HRL.out))).setCell (Nat.le_refl _) _ |>.setCell (Nat.le_refl _) _) rfl (by simp)
          have hlc' : ¬ (0 : Int) < lc := by omega
          clear hLI
          by_cases hlf : lf < clauses
          · have HP := hid (show A = ⟨23, m + 1, 0, []⟩ by rw [HPA.out, if_pos (by rw [HPR.out.lf_]; exact hlf)])
            have hlf' : (lf : Int) < clauses := by omega
            go_wp2
            refine bodyPost_ret (results_cell_tmps rfl _ _ rfl (load_row25' _ (heap_set_row (heap_set_row HR.out _) _))) rfl ?_
            exact .err HP.out ((HB1.out.trans (HPR.out.below.mono (Nat.le_of_lt HRL.out))).setCell (Nat.le_refl _) _ |>.setCell (Nat.le_refl _) _) rfl (by simp)
          have hlf' : ¬ (lf : Int) < clauses := by omega
          have HP := hid (show A = ⟨0, 0, vars, st.cls⟩ by rw [HPA.out, if_neg (by rw [HPR.out.lf_]; exact hlf)])
          have ld := load_row25' wr HPR.out.blk
          go_wp2
          refine bodyPost_ret (results_cell_tmps rfl _ _ rfl (load_row25' _ (heap_set_row (heap_set_row HR.out _) _))) rfl ?_
          rw [HP.out]
          obtain ⟨vals, hrd⟩ := HPR.out.rd
          have hrd2 := (hrd.set (b := w.heap.size) (k := 0) (by have := HRL.out; omega) (.int .i64 vars)).set (b := w.heap.size) (k := 1) (by have := HRL.out; omega) (.slice of_ lf cf)
          obtain ⟨a7, c7, e7, hC7⟩ := hrd2.cls
          cases e7
          refine ⟨of_, cf, rfl, hC7, ?_⟩
          exact ((HB1.out.trans (HPR.out.below.mono (Nat.le_of_lt HRL.out))).setCell (Nat.le_refl _) _).setCell (Nat.le_refl _) _
    · have HP := hid (show A = ⟨20, at_ + 1, 0, []⟩ by
        have : Dim.hdB ws = false := by
          unfold Dim.hdB
          rcases Nat.lt_or_ge 4 ws.length with h | h
          · rw [decide_eq_false (by omega)]; rfl
          · have : ws.getD 3 [] = [] := by simp [List.getD, List.getElem?_eq_none (show ws.length ≤ 3 by omega)]
            rw [this]; simp [Dim.isNum]
        rw [HPH.out, this]; rfl)
      generalize hwl : ws.length = wl at h4 ENT
      have h4' : ((wl : Int) != 4) = true := by simp; omega
      clear HPH h4
      go_enter Tryd.func10, Tryd.ntmps10
      go_wp2_with (first
        | (go_at_call 27; refine C27.out.mono ?_; clear C27; rintro e W1 ⟨a1, cap1, ps, rfl, hLn, hb1⟩
           have C28 := hid (head28 _ m a1 cap1 L ps W1 HM.out (by omega) hLn)
           rw [HF.out] at C28
           have hR1 := (hb1.block w.heap.size (by simp)).trans HR0.out
           have x0 := row_cell hR1 0
           have x1 := row_cell hR1 1
           have f0 := row_frozen hR1 0
           have f1 := row_frozen hR1 1
           have HR1 := hid hR1
           have HB1 := hid (HB0.out.trans (hb1.mono HB0.out.size))
           obtain ⟨g, a', cap', rfl, hcw, hsv⟩ := ENT.out W1 a1 cap1 ps hLn
           clear hLn hb1 hR1 hsv)
        | (go_at_call 28; refine C28.out.mono ?_; clear C28; rintro e W2 ⟨rfl, rfl⟩; simp only [headI]))
      refine bodyPost_ret (results_cell_tmps rfl _ _ rfl (load_row25' _ (heap_set_row (heap_set_row HR1.out _) _))) rfl ?_
      exact .err HP.out (HB1.out.setCell (Nat.le_refl _) _ |>.setCell (Nat.le_refl _) _) rfl (by simp)
end Go.Proofs.YtlhpnkgdnmnclaaDoor
