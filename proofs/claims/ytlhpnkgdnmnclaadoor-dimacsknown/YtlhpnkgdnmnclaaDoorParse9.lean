/- The call of Parse: it answers what the text says. -/
import Derived.Test.YtlhpnkgdnmnclaaDoorParse
namespace Go.Proofs.YtlhpnkgdnmnclaaDoor
open Go.RowKit
set_option linter.unusedVariables false
attribute [local go_sem] Oper.semAt_some

set_option maxRecDepth 100000 in
set_option maxHeartbeats 4000000 in
theorem parse9 (tb : Nat) (p : Option Addr) (n c : Nat) (xs : List Int) (w : World) (htb : TB tb w) (hn : xs.length = n) (hx : Txt tb w p c xs) (hnb : n < 549755813888) :
    Calls Tryd.prog 9 #[.slice p n c] w fun e w' => ∃ a cap, e = .returned (.tuple #[.agg #[.int .i64 (Dim.parse xs).vars, .slice a (Dim.parse xs).cls.length cap], .int .i64 (Dim.parse xs).err, .int .i64 (Dim.parse xs).at_]) ∧ Cls w' a (Dim.parse xs).cls ∧ Below w.heap.size w w' := by
  have HX := hid hx
  have HN := hid hn
  have HTB := hid htb
  clear hx hn htb
  obtain ⟨ans, hans⟩ : ∃ ans, Dim.parse xs = ans := ⟨_, rfl⟩
  have HA := hid hans
  rw [hans]
  clear hans
  -- the world behind the four variables
  obtain ⟨W4, hW4⟩ : ∃ W4, (((w.alloc (.cells #[.int .i64 0, .slice none 0 0] 25)).alloc (.cells #[.int .i64 0] 26)).alloc (.cells #[.int .i64 0] 3)).alloc (.cells #[.int .i64 0] 3) = W4 := ⟨_, rfl⟩
  have hB4 : Below w.heap.size w W4 := by rw [← hW4]; exact ((((Below.refl _ w).alloc (Nat.le_refl _) _).alloc (by simp) _).alloc (by simp; omega) _).alloc (by simp; omega) _
  have hS4 : W4.heap.size = w.heap.size + 4 := by rw [← hW4]; simp
  have hF0 : W4.heap[w.heap.size]? = some (.cells #[.int .i64 0, .slice none 0 0] 25 (0, 0)) := by
    rw [← hW4, Below.heap_alloc _ _ _ (by simp; omega), Below.heap_alloc _ _ _ (by simp; omega), Below.heap_alloc _ _ _ (by simp)]
    exact World.alloc_heap_new w _
  have hF1 : Boxed W4 (w.heap.size + 1) 26 (.int .i64 0) := by
    have := ((Boxed.new (w.alloc (.cells #[.int .i64 0, .slice none 0 0] 25)) 26 (.int .i64 0)).alloc (.cells #[.int .i64 0] 3)).alloc (.cells #[.int .i64 0] 3)
    rw [hW4] at this; simpa using this
  have hF2 : Boxed W4 (w.heap.size + 1 + 1) 3 (.int .i64 0) := by
    have := (Boxed.new ((w.alloc (.cells #[.int .i64 0, .slice none 0 0] 25)).alloc (.cells #[.int .i64 0] 26)) 3 (.int .i64 0)).alloc (.cells #[.int .i64 0] 3)
    rw [hW4] at this; simpa using this
  have hF3 : Boxed W4 (w.heap.size + 3) 3 (.int .i64 ((0 : Nat) : Int)) := by
    have := Boxed.new (((w.alloc (.cells #[.int .i64 0, .slice none 0 0] 25)).alloc (.cells #[.int .i64 0] 26)).alloc (.cells #[.int .i64 0] 3)) 3 (.int .i64 0)
    rw [hW4] at this; simpa using this
  have htl := HTB.out.lt
  have hT4 : Txt tb W4 p c xs := HX.out.kept (hB4.block tb htl)
  have hTB4 : TB tb W4 := HTB.out.same (hB4.block tb htl)
  have C23 := hid (toHead23 tb (w.heap.size + 3) 0 p n c xs W4 (by omega) hF3 (by omega) HN.out hT4 (by omega))
  have HF0 := hid hF0
  have HF1 := hid hF1
  have HF2 := hid hF2
  have HF3 := hid hF3
  have HTB4 := hid hTB4
  have HB4 := hid hB4
  clear hF0 hF1 hF2 hF3 hT4 hTB4 hB4
  obtain ⟨hd, hhd⟩ : ∃ hd, Dim.headT 0 xs = hd := ⟨_, rfl⟩
  have HHD := hid hhd
  rw [hhd] at C23
  clear hhd
  cases hok : Dim.hdB (Dim.words hd.1)
  case false =>
    have hans : ans = ⟨20, hd.2.2, 0, []⟩ := by
      rw [← HA.out]
      unfold Dim.parse
      rw [HHD.out, Dim.readHead_eq, hok]
      rfl
    subst hans
    refine (callsIn_wide (n := 9)).1 ?_
    refine callsIn_of_wp_marks Tryd.func9 rfl trivial ?_ rfl
    simp only [Tryd.ntmps9, List.size_toArray, List.length_cons, List.length_nil, Nat.reduceAdd, Nat.reduceSub, Array.replicate_succ, Array.replicate_zero, List.push_toArray, List.append_toArray, List.nil_append, List.cons_append]
    gi_wp2_with (first
      | (refine ⟨trivial, ?_⟩; gi_at_call 22; refine (callsIn_wide.2 (counter22 _)).mono ?_; rintro e1 w1 ⟨rfl, hw1⟩; simp only [World.size_alloc] at hw1 ⊢; rw [hW4] at hw1; rw [hw1]; clear hw1)
      | (refine ⟨trivial, ?_⟩; gi_at_call 23; refine (callsIn_wide.2 C23.out).mono ?_; clear C23; rintro e2 W5 ⟨p1, c1, p2, c2, rfl, ht1, ht2, hcb5, hcn5⟩; replace ht1 := hid ht1; replace ht2 := hid ht2; replace hcb5 := hid hcb5; replace hcn5 := hid hcn5))
    refine ⟨trivial, ?_⟩
    refine (callsIn_wide.2 (readHead24 tb p1 _ c1 hd.1 W5 (Nat.lt_of_lt_of_le (by omega : tb < W4.heap.size) hcn5.out.size) rfl ht1.out)).mono ?_
    rintro e3 W6 ⟨va, vb, rfl, hab, hbel6⟩
    rw [hok] at hab ⊢
    have F0 := (hbel6.block (w.heap.size) (by have := hcn5.out.size; omega)).trans ((hcn5.out.block w.heap.size (by omega) (by omega)).trans HF0.out)
    have F1 : Boxed W6 (w.heap.size + 1) 26 (.int .i64 0) := (hbel6.block (w.heap.size + 1) (by have := hcn5.out.size; omega)).trans ((hcn5.out.block (w.heap.size + 1) (by omega) (by omega)).trans HF1.out)
    have F2 : Boxed W6 (w.heap.size + 1 + 1) 3 (.int .i64 0) := (hbel6.block (w.heap.size + 1 + 1) (by have := hcn5.out.size; omega)).trans ((hcn5.out.block (w.heap.size + 1 + 1) (by omega) (by omega)).trans HF2.out)
    have F3 : Boxed W6 (w.heap.size + 3) 3 (.int .i64 hd.2.2) := (hbel6.block (w.heap.size + 3) (by have := hcn5.out.size; omega)).trans hcb5.out
    have B6 : Below w.heap.size w W6 := HB4.out.trans (Below.trans ⟨hcn5.out.os, hcn5.out.tape, hcn5.out.output, hcn5.out.size, fun k hk => hcn5.out.block k (by omega) (by omega)⟩ (hbel6.mono (by have := hcn5.out.size; omega)))
    have T6 : Txt tb W6 p2 c2 hd.2.1 := ht2.out.kept (hbel6.block tb (by have := hcn5.out.size; omega))
    have TB6 : TB tb W6 := HTB.out.same (B6.block tb htl)
    have S6 : w.heap.size + 4 ≤ W6.heap.size := by have h1 := hcn5.out.size; have h2 := hbel6.size; omega
    have z00 := row_cell F0 0
    have z01 := row_cell F0 1
    simp only [List.getElem?_toArray, List.getElem?_cons_zero, List.getElem?_cons_succ] at z00 z01
    have y00 := row_frozen F0 0
    have y01 := row_frozen F0 1
    have z1 := F1.cell
    have y1 := F1.frozen
    have z2 := F2.cell
    have y2 := F2.frozen
    replace F0 := hid F0
    replace F1 := hid F1
    replace F2 := hid F2
    replace F3 := hid F3
    replace B6 := hid B6
    replace T6 := hid T6
    replace TB6 := hid TB6
    replace hab := hid hab
    clear hbel6 hcb5 hcn5 ht1 ht2
    clear hab
    gi_wp2
    refine leave_marks (Marks.nil w.heap.size _) fun W2 hb => ?_
    refine ⟨_, results_cells3 rfl _ _ rfl rfl rfl (load_row25 _ (hb.same _ _ ((heap_other _ _ (by omega)).trans ((heap_other _ _ (by omega)).trans (heap_set_row (heap_set_row F0.out _) _))) (by simp) (.inr rfl))) (load_box26 _ (hb.boxed (boxed_apart ((boxed_apart (boxed_apart F1.out (by omega)) (by omega)).set _) (by omega)) (by simp))) (load_box3 _ (hb.boxed ((boxed_apart (boxed_apart (boxed_apart F2.out (by omega)) (by omega)) (by omega)).set _) (by simp))), none, 0, rfl, Cls.nil _ _, Book.below (n := w.heap.size) ((((B6.out.setCell (p := ⟨w.heap.size, 0, none⟩) (Nat.le_refl _) _).setCell (p := ⟨w.heap.size, 1, none⟩) (Nat.le_refl _) _).setCell (p := ⟨w.heap.size + 1, 0, none⟩) (by dsimp only; omega) _).setCell (p := ⟨w.heap.size + 1 + 1, 0, none⟩) (by dsimp only; omega) _) (Nat.le_refl _) hb (by simp) (Nat.le_refl _)⟩
  case true =>
    refine (callsIn_wide (n := 9)).1 ?_
    refine callsIn_of_wp_marks Tryd.func9 rfl trivial ?_ rfl
    simp only [Tryd.ntmps9, List.size_toArray, List.length_cons, List.length_nil, Nat.reduceAdd, Nat.reduceSub, Array.replicate_succ, Array.replicate_zero, List.push_toArray, List.append_toArray, List.nil_append, List.cons_append]
    gi_wp2_with (first
      | (refine ⟨trivial, ?_⟩; gi_at_call 22; refine (callsIn_wide.2 (counter22 _)).mono ?_; rintro e1 w1 ⟨rfl, hw1⟩; simp only [World.size_alloc] at hw1 ⊢; rw [hW4] at hw1; rw [hw1]; clear hw1)
      | (refine ⟨trivial, ?_⟩; gi_at_call 23; refine (callsIn_wide.2 C23.out).mono ?_; clear C23; rintro e2 W5 ⟨p1, c1, p2, c2, rfl, ht1, ht2, hcb5, hcn5⟩; replace ht1 := hid ht1; replace ht2 := hid ht2; replace hcb5 := hid hcb5; replace hcn5 := hid hcn5))
    refine ⟨trivial, ?_⟩
    refine (callsIn_wide.2 (readHead24 tb p1 _ c1 hd.1 W5 (Nat.lt_of_lt_of_le (by omega : tb < W4.heap.size) hcn5.out.size) rfl ht1.out)).mono ?_
    rintro e3 W6 ⟨va, vb, rfl, hab, hbel6⟩
    rw [hok] at hab ⊢
    have F0 := (hbel6.block (w.heap.size) (by have := hcn5.out.size; omega)).trans ((hcn5.out.block w.heap.size (by omega) (by omega)).trans HF0.out)
    have F1 : Boxed W6 (w.heap.size + 1) 26 (.int .i64 0) := (hbel6.block (w.heap.size + 1) (by have := hcn5.out.size; omega)).trans ((hcn5.out.block (w.heap.size + 1) (by omega) (by omega)).trans HF1.out)
    have F2 : Boxed W6 (w.heap.size + 1 + 1) 3 (.int .i64 0) := (hbel6.block (w.heap.size + 1 + 1) (by have := hcn5.out.size; omega)).trans ((hcn5.out.block (w.heap.size + 1 + 1) (by omega) (by omega)).trans HF2.out)
    have F3 : Boxed W6 (w.heap.size + 3) 3 (.int .i64 hd.2.2) := (hbel6.block (w.heap.size + 3) (by have := hcn5.out.size; omega)).trans hcb5.out
    have B6 : Below w.heap.size w W6 := HB4.out.trans (Below.trans ⟨hcn5.out.os, hcn5.out.tape, hcn5.out.output, hcn5.out.size, fun k hk => hcn5.out.block k (by omega) (by omega)⟩ (hbel6.mono (by have := hcn5.out.size; omega)))
    have T6 : Txt tb W6 p2 c2 hd.2.1 := ht2.out.kept (hbel6.block tb (by have := hcn5.out.size; omega))
    have TB6 : TB tb W6 := HTB.out.same (B6.block tb htl)
    have S6 : w.heap.size + 4 ≤ W6.heap.size := by have h1 := hcn5.out.size; have h2 := hbel6.size; omega
    have z00 := row_cell F0 0
    have z01 := row_cell F0 1
    simp only [List.getElem?_toArray, List.getElem?_cons_zero, List.getElem?_cons_succ] at z00 z01
    have y00 := row_frozen F0 0
    have y01 := row_frozen F0 1
    have z1 := F1.cell
    have y1 := F1.frozen
    have z2 := F2.cell
    have y2 := F2.frozen
    replace F0 := hid F0
    replace F1 := hid F1
    replace F2 := hid F2
    replace F3 := hid F3
    replace B6 := hid B6
    replace T6 := hid T6
    replace TB6 := hid TB6
    replace hab := hid hab
    clear hbel6 hcb5 hcn5 ht1 ht2
    obtain ⟨hva, hvb⟩ := hab.out rfl
    have hn2 : Dim.isNum ((Dim.words hd.1).getD 2 []) = true := by
      unfold Dim.hdB at hok; simp only [Bool.and_eq_true] at hok; exact hok.2.1.2
    have hn3 : Dim.isNum ((Dim.words hd.1).getD 3 []) = true := by
      unfold Dim.hdB at hok; simp only [Bool.and_eq_true] at hok; exact hok.2.2
    rw [Dim.numV_yes hn2] at hva
    rw [Dim.numV_yes hn3] at hvb
    have hrh := Dim.readHead_eq hd.1
    rw [hok, if_pos rfl] at hrh
    generalize Dim.valGo 0 ((Dim.words hd.1).getD 2 []) = nv at hva hrh
    generalize Dim.valGo 0 ((Dim.words hd.1).getD 3 []) = nc at hvb hrh
    have HRH := hid hrh
    clear hab hn2 hn3 hrh
    by_cases hbig : 1048576 < nv ∨ 1048576 < nc
    · have hans : ans = ⟨22, hd.2.2, 0, []⟩ := by
        rw [← HA.out]
        unfold Dim.parse
        rw [HHD.out, HRH.out]
        simp only [if_pos hbig]
      subst hans
      have hb2 : (1048576 : Int) < va ∨ (¬ (1048576 : Int) < va ∧ (1048576 : Int) < vb) := by
        have h1 := Dim.sat_gt nv 1048576 (by omega)
        have h2 := Dim.sat_gt nc 1048576 (by omega)
        omega
      clear hva hvb hbig
      rcases hb2 with hb2 | ⟨hb2, hb3⟩
      · gi_wp2
        refine leave_marks (Marks.nil w.heap.size _) fun W2 hb => ?_
        refine ⟨_, results_cells3 rfl _ _ rfl rfl rfl (load_row25 _ (hb.same _ _ ((heap_other _ _ (by omega)).trans ((heap_other _ _ (by omega)).trans (heap_set_row (heap_set_row F0.out _) _))) (by simp) (.inr rfl))) (load_box26 _ (hb.boxed (boxed_apart ((boxed_apart (boxed_apart F1.out (by omega)) (by omega)).set _) (by omega)) (by simp))) (load_box3 _ (hb.boxed ((boxed_apart (boxed_apart (boxed_apart F2.out (by omega)) (by omega)) (by omega)).set _) (by simp))), none, ⟨0, rfl⟩, Cls.nil _ _, Book.below (n := w.heap.size) ((((B6.out.setCell (p := ⟨w.heap.size, 0, none⟩) (Nat.le_refl _) _).setCell (p := ⟨w.heap.size, 1, none⟩) (Nat.le_refl _) _).setCell (p := ⟨w.heap.size + 1, 0, none⟩) (by dsimp only; omega) _).setCell (p := ⟨w.heap.size + 1 + 1, 0, none⟩) (by dsimp only; omega) _) (Nat.le_refl _) hb (by simp) (Nat.le_refl _)⟩
      · gi_wp2
        refine leave_marks (Marks.nil w.heap.size _) fun W2 hb => ?_
        refine ⟨_, results_cells3 rfl _ _ rfl rfl rfl (load_row25 _ (hb.same _ _ ((heap_other _ _ (by omega)).trans ((heap_other _ _ (by omega)).trans (heap_set_row (heap_set_row F0.out _) _))) (by simp) (.inr rfl))) (load_box26 _ (hb.boxed (boxed_apart ((boxed_apart (boxed_apart F1.out (by omega)) (by omega)).set _) (by omega)) (by simp))) (load_box3 _ (hb.boxed ((boxed_apart (boxed_apart (boxed_apart F2.out (by omega)) (by omega)) (by omega)).set _) (by simp))), none, ⟨0, rfl⟩, Cls.nil _ _, Book.below (n := w.heap.size) ((((B6.out.setCell (p := ⟨w.heap.size, 0, none⟩) (Nat.le_refl _) _).setCell (p := ⟨w.heap.size, 1, none⟩) (Nat.le_refl _) _).setCell (p := ⟨w.heap.size + 1, 0, none⟩) (by dsimp only; omega) _).setCell (p := ⟨w.heap.size + 1 + 1, 0, none⟩) (by dsimp only; omega) _) (Nat.le_refl _) hb (by simp) (Nat.le_refl _)⟩
    · have hva2 : va = nv := by have := Dim.sat_of_le nv (by omega); omega
      have hvb2 : vb = nc := by have := Dim.sat_of_le nc (by omega); omega
      subst hva2 hvb2
      have hv1 : ¬ (1048576 : Int) < nv := by omega
      have hv2 : ¬ (1048576 : Int) < nc := by omega
      have HBIG := hid hbig
      clear hva hvb hbig
      have C25 := hid (fun W => lineWords25 p2 hd.2.1.length c2 (w.heap.size + 3) W)
      gi_wp2_with (refine ⟨trivial, ?_⟩; gi_at_call 25; refine (callsIn_wide.2 (C25.out _)).mono ?_; rintro e4 w7 ⟨rfl, rfl⟩)
      have S8 : (((W6.alloc (Obj.cells #[Value.int IntKind.i64 ↑nv, Value.slice none 0 0, Value.int IntKind.i64 ↑nc, Value.int IntKind.i64 0, Value.slice none 0 0] 60)).alloc (Obj.cells #[Value.slice p2 hd.snd.fst.length c2] 22)).alloc (Obj.cells #[cnt (w.heap.size + 3)] 53)).heap.size = W6.heap.size + 3 := by simp
      have B8 : Below W6.heap.size W6 (((W6.alloc (Obj.cells #[Value.int IntKind.i64 ↑nv, Value.slice none 0 0, Value.int IntKind.i64 ↑nc, Value.int IntKind.i64 0, Value.slice none 0 0] 60)).alloc (Obj.cells #[Value.slice p2 hd.snd.fst.length c2] 22)).alloc (Obj.cells #[cnt (w.heap.size + 3)] 53)) := (((Below.refl _ W6).alloc (Nat.le_refl _) _).alloc (by simp) _).alloc (by simp; omega) _
      have X1 : Boxed (((W6.alloc (Obj.cells #[Value.int IntKind.i64 ↑nv, Value.slice none 0 0, Value.int IntKind.i64 ↑nc, Value.int IntKind.i64 0, Value.slice none 0 0] 60)).alloc (Obj.cells #[Value.slice p2 hd.snd.fst.length c2] 22)).alloc (Obj.cells #[cnt (w.heap.size + 3)] 53)) (W6.heap.size + 1) 22 (.slice p2 hd.2.1.length c2) := by
        have := (Boxed.new (W6.alloc (Obj.cells #[Value.int IntKind.i64 ↑nv, Value.slice none 0 0, Value.int IntKind.i64 ↑nc, Value.int IntKind.i64 0, Value.slice none 0 0] 60)) 22 (Value.slice p2 hd.2.1.length c2)).alloc (Obj.cells #[cnt (w.heap.size + 3)] 53)
        simpa using this
      have X2 : Boxed (((W6.alloc (Obj.cells #[Value.int IntKind.i64 ↑nv, Value.slice none 0 0, Value.int IntKind.i64 ↑nc, Value.int IntKind.i64 0, Value.slice none 0 0] 60)).alloc (Obj.cells #[Value.slice p2 hd.snd.fst.length c2] 22)).alloc (Obj.cells #[cnt (w.heap.size + 3)] 53)) (W6.heap.size + 1 + 1) 53 (cnt (w.heap.size + 3)) := by
        have := Boxed.new ((W6.alloc (Obj.cells #[Value.int IntKind.i64 ↑nv, Value.slice none 0 0, Value.int IntKind.i64 ↑nc, Value.int IntKind.i64 0, Value.slice none 0 0] 60)).alloc (Obj.cells #[Value.slice p2 hd.2.1.length c2] 22)) 53 (cnt (w.heap.size + 3))
        simpa using this
      have X0 : (((W6.alloc (Obj.cells #[Value.int IntKind.i64 ↑nv, Value.slice none 0 0, Value.int IntKind.i64 ↑nc, Value.int IntKind.i64 0, Value.slice none 0 0] 60)).alloc (Obj.cells #[Value.slice p2 hd.snd.fst.length c2] 22)).alloc (Obj.cells #[cnt (w.heap.size + 3)] 53)).heap[W6.heap.size]? = some (.cells #[.int .i64 nv, .slice none 0 0, .int .i64 nc, .int .i64 ((0 : Nat) : Int), .slice none 0 0] 60 (0, 0)) := by
        rw [Below.heap_alloc _ _ _ (by simp; omega), Below.heap_alloc _ _ _ (by simp)]
        exact World.alloc_heap_new W6 _
      clear z00 z01 y00 y01 z1 y1 z2 y2
      generalize (((W6.alloc (Obj.cells #[Value.int IntKind.i64 ↑nv, Value.slice none 0 0, Value.int IntKind.i64 ↑nc, Value.int IntKind.i64 0, Value.slice none 0 0] 60)).alloc (Obj.cells #[Value.slice p2 hd.snd.fst.length c2] 22)).alloc (Obj.cells #[cnt (w.heap.size + 3)] 53)) = W8 at S8 B8 X1 X2 X0 ⊢
      have hnv : nv ≤ 1048576 := by have := HBIG.out; omega
      have hnc : nc ≤ 1048576 := by have := HBIG.out; omega
      have RD0 : Rd W6.heap.size W6.heap.size nv nc W8 ⟨[], [], 0⟩ (.slice none 0 0) (.slice none 0 0) [] :=
        ⟨X0, Nat.le_refl _, World.ownsRow_nil _ _ _ _, World.ownsRow_nil _ _ _ _, fun j hj => (by cases hj), ⟨fun c hc => (by cases hc), fun x hx => (by cases hx)⟩, Nat.zero_le _, Nat.zero_le _, Nat.zero_le _, hnc, hnv, fun c hc => (by cases hc)⟩
      have G0 := (B8.block w.heap.size (by omega)).trans F0.out
      have G1 : Boxed W8 (w.heap.size + 1) 26 (.int .i64 ((0 : Nat) : Int)) := (B8.block (w.heap.size + 1) (by omega)).trans F1.out
      have G2 : Boxed W8 (w.heap.size + 1 + 1) 3 (.int .i64 ((0 : Nat) : Int)) := (B8.block (w.heap.size + 1 + 1) (by omega)).trans F2.out
      have G3 : Boxed W8 (w.heap.size + 3) 3 (.int .i64 hd.2.2) := (B8.block (w.heap.size + 3) (by omega)).trans F3.out
      have GB : Below w.heap.size w W8 := B6.out.trans (B8.mono (by omega))
      have GT : Txt tb W8 p2 c2 hd.2.1 := T6.out.kept (B8.block tb (by omega))
      have GTB : TB tb W8 := TB6.out.same (B8.block tb (by omega))
      have hlen0 : hd.2.2 + hd.2.1.length < 1099511627776 := by
        have := Dim.headT_len 0 xs
        rw [HHD.out, HN.out] at this
        omega
      clear hv1 hv2 hnv hnc
      have hit := lines_iter tb (w.heap.size + 3) (W6.heap.size + 1) (W6.heap.size + 1 + 1) hd.2.2 p2 hd.2.1.length c2 hd.2.1 W8 rfl hlen0 X1 X2 G3 GT GTB
      obtain ⟨its, hits⟩ : ∃ its, Dim.items hd.2.2 (Dim.lines hd.2.1) = its := ⟨_, rfl⟩
      obtain ⟨tot, htot⟩ : ∃ tot, hd.2.2 + (Dim.lines hd.2.1).length = tot := ⟨_, rfl⟩
      rw [hits, htot] at hit
      have HIT := hid hits
      have HTO := hid htot
      clear hits htot
      generalize decide ((1048576 : Int) < (nv : Int)) = dv
      generalize decide ((1048576 : Int) < (nc : Int)) = dc
      refine range_law rfl (enters_of Tryd.func40 (by kernel_rfl) rfl) hit (fun _ => rfl) ?hV KeepS.trans ?hKb (fun A B h hb => hb.boxed h (by simp))
        (fun k W => (∃ st cv ov vals, Rd W6.heap.size W6.heap.size nv nc W st cv ov vals ∧ Dim.play nv nc ⟨[], [], 0⟩ (its.take k) = .ok st) ∧ W.heap[w.heap.size]? = some (.cells #[.int .i64 0, .slice none 0 0] 25 (0, 0)) ∧ Boxed W (w.heap.size + 1) 26 (.int .i64 ((0 : Nat) : Int)) ∧ Boxed W (w.heap.size + 1 + 1) 3 (.int .i64 ((0 : Nat) : Int)) ∧ TB tb W ∧ Below w.heap.size w W)
        (fun cd k W => cd = .ret ∧ ∃ er at_ : Nat, Dim.play nv nc ⟨[], [], 0⟩ its = .error (er, at_) ∧ W.heap[w.heap.size]? = some (.cells #[.int .i64 0, .slice none 0 0] 25 (0, 0)) ∧ Boxed W (w.heap.size + 1) 26 (.int .i64 (er : Nat)) ∧ Boxed W (w.heap.size + 1 + 1) 3 (.int .i64 (at_ : Nat)) ∧ TB tb W ∧ Below w.heap.size w W)
        ?hI ?hIx (fun k h => by cases h; omega) ⟨⟨_, _, _, _, RD0, rfl⟩, G0, G1, G2, GTB, GB⟩
        (fun x => { tmps := #[Value.slice p n c, undef, Value.pointer (some { block := w.heap.size, off := 0 }), Value.pointer (some { block := w.heap.size + 1, off := 0 }), Value.pointer (some { block := w.heap.size + 1 + 1, off := 0 }), Value.func (Fn.func 36) #[] #[Value.pointer (some { block := w.heap.size + 1 + 1 + 1, off := 0 })], Value.slice p1 hd.fst.length c1, Value.slice p2 hd.snd.fst.length c2, Value.int IntKind.i64 ↑hd.snd.snd, Value.int IntKind.i64 ↑nv, Value.int IntKind.i64 ↑nc, Value.bool true, Value.pointer (some { block := W6.heap.size, off := 0 }), x.1, x.2, undef, Value.func (Fn.func 36) #[] #[Value.pointer (some { block := w.heap.size + 1 + 1 + 1, off := 0 })], Value.tuple #[Value.slice p1 hd.fst.length c1, Value.slice p2 hd.snd.fst.length c2, Value.int IntKind.i64 ↑hd.snd.snd], Value.slice p n c, Value.func (Fn.func 36) #[] #[Value.pointer (some { block := w.heap.size + 1 + 1 + 1, off := 0 })], Value.tuple #[Value.slice p1 hd.fst.length c1, Value.slice p2 hd.snd.fst.length c2, Value.int IntKind.i64 ↑hd.snd.snd], Value.slice p1 hd.fst.length c1, Value.slice p2 hd.snd.fst.length c2, Value.int IntKind.i64 ↑hd.snd.snd, Value.tuple #[Value.int IntKind.i64 ↑nv, Value.int IntKind.i64 ↑nc, Value.bool true], Value.slice p1 hd.fst.length c1, Value.tuple #[Value.int IntKind.i64 ↑nv, Value.int IntKind.i64 ↑nc, Value.bool true], Value.int IntKind.i64 ↑nv, Value.int IntKind.i64 ↑nc, Value.bool true, Value.bool true, Value.bool false, undef, undef, Value.int IntKind.i64 ↑nv, Value.bool (dv), Value.bool (dv), Value.int IntKind.i64 ↑nc, Value.bool (dc), Value.bool (dv || dc), undef, undef, Value.int IntKind.i64 ↑nv, Value.agg #[Value.int IntKind.i64 ↑nv, Value.slice none 0 0], Value.int IntKind.i64 ↑nc, Value.agg #[Value.int IntKind.i64 ↑nv, Value.slice none 0 0, Value.int IntKind.i64 ↑nc, Value.int IntKind.i64 0, Value.slice none 0 0], Value.slice p2 hd.snd.fst.length c2, Value.func (Fn.func 36) #[] #[Value.pointer (some { block := w.heap.size + 1 + 1 + 1, off := 0 })], Value.func (Fn.func 40) #[] #[Value.pointer (some { block := W6.heap.size + 1, off := 0 }), Value.pointer (some { block := W6.heap.size + 1 + 1, off := 0 })], x.1, x.2, undef, undef, undef, undef, undef, undef, undef, undef, undef, undef, undef, undef, undef, undef, undef, undef, undef, undef], defers := [] }) ?assign ?body ?done ?stop
      case hV =>
        rintro k x A B ⟨h1, h2⟩ hb
        exact ⟨h1, h2.book hb (by simp)⟩
      case hKb =>
        rintro W l o o' rfl h ho
        exact KeepS.put W _ o o' h ho
      case hI =>
        rintro k A B ⟨⟨st, cv, ov, vals, h1, h2⟩, g0, g1, g2, g3, g4⟩ hb
        refine ⟨⟨st, cv, ov, vals, h1.book hb (by omega), h2⟩, hb.same _ _ g0 (by simp) (.inr rfl), hb.boxed g1 (by simp), hb.boxed g2 (by simp), g3.book hb (by simp; omega), Book.below g4 (by omega) hb (fun k hk => by cases hk; omega) (Nat.le_refl _)⟩
      case hIx =>
        rintro cd k A B ⟨h0, er, at_, h1, g0, g1, g2, g3, g4⟩ hb
        exact ⟨h0, er, at_, h1, hb.same _ _ g0 (by simp) (.inr rfl), hb.boxed g1 (by simp), hb.boxed g2 (by simp), g3.book hb (by simp), Book.below g4 (by omega) hb (by simp) (Nat.le_refl _)⟩
      case assign =>
        intro l m x W K hK
        gi_wp2
        exact hK
      case body =>
        rintro l m k ⟨x1, x2⟩ W hl hk ⟨⟨st, cv, ov, vals, hrd, hpl⟩, g0, g1, g2, g3, g4⟩ ⟨hx1, pw, cw, hx2, htx⟩
        dsimp only at hx1 hx2
        subst hx1 hx2
        have hget : its[k]? = some (its.getD k (0, [])) := by simp [List.getD, List.getElem?_eq_getElem hk]
        have hsplit : its = its.take k ++ its.getD k (0, []) :: its.drop (k + 1) := by
          have := List.take_append_drop k its
          rw [List.drop_eq_getElem_cons hk] at this
          simp only [List.getD, List.getElem?_eq_getElem hk, Option.getD_some]
          exact this.symm
        have htk : its.take (k + 1) = its.take k ++ [its.getD k (0, [])] := by
          rw [List.take_succ_eq_append_getElem hk]; simp [List.getD, List.getElem?_eq_getElem hk]
        generalize its.getD k (0, []) = it at htx hget hsplit htk ⊢
        have hrl : W6.heap.size < W.heap.size := (Array.getElem?_eq_some_iff.1 hrd.blk).1
        have C26 := hid (take26 W6.heap.size W6.heap.size tb nv nc pw it.2.length cw it.2 W st cv ov vals (by omega) hrd g3 rfl htx)
        have HPL := hid hpl
        have HSP := hid hsplit
        have HTK := hid htk
        have GG := hid (And.intro g0 (And.intro g1 (And.intro g2 (And.intro g3 g4))))
        clear hit hrd hpl hsplit htk hget g0 g1 g2 g3 g4 RD0 G0 G1 G2 G3 GB GT GTB X0 X1 X2 B8
        cases hT : Dim.take nv nc st it.2 with
        | error er =>
          gi_wp2_with (refine ⟨trivial, fun h => (by cases h), ?_⟩; gi_at_call 26; refine (CallsIn.inRound l (callsIn_wide.2 C26.out)).mono ?_; clear C26
                       rintro e3 W3 ⟨en, rfl, hkr, herr, hok2⟩
                       obtain ⟨hen, hne⟩ := herr er hT
                       subst hen
                       have hne' : ¬ (en : Int) = 0 := by omega
                       have q0 := hkr.same _ _ GG.out.1 ⟨by decide, by decide, by decide⟩
                       have q1 := hkr.boxed GG.out.2.1 ⟨by decide, by decide, by decide⟩
                       have q2 := hkr.boxed GG.out.2.2.1 ⟨by decide, by decide, by decide⟩
                       have z00 := row_cell q0 0
                       have z01 := row_cell q0 1
                       simp only [List.getElem?_toArray, List.getElem?_cons_zero, List.getElem?_cons_succ] at z00 z01
                       have y00 := row_frozen q0 0
                       have y01 := row_frozen q0 1
                       have z1 := q1.cell
                       have y1 := q1.frozen
                       have z2 := q2.cell
                       have y2 := q2.frozen
                       replace q0 := hid q0
                       replace q1 := hid q1
                       replace q2 := hid q2
                       replace hkr := hid hkr
                       clear herr hok2 hne)
          obtain ⟨g0, g1, g2, g3, g4⟩ := GG.out
          refine ⟨hkr.out.from.trans (((((KeepsOthers.setCell _ _ _).trans (KeepsOthers.setCell _ _ _)).trans (KeepsOthers.setCell _ _ _)).trans (KeepsOthers.setCell _ _ _)).from _), rfl, en, it.1, by rw [HSP.out]; exact Dim.play_error HPL.out hT, ?_, ?_, ?_, ?_, ?_⟩
          · exact (heap_other _ _ (by omega)).trans ((heap_other _ _ (by omega)).trans (heap_set_row (heap_set_row q0.out _) _))
          · exact boxed_apart ((boxed_apart (boxed_apart q1.out (by omega)) (by omega)).set _) (by omega)
          · exact (boxed_apart (boxed_apart (boxed_apart q2.out (by omega)) (by omega)) (by omega)).set _
          · exact g3.same ((heap_other _ _ (by omega)).trans ((heap_other _ _ (by omega)).trans ((heap_other _ _ (by omega)).trans ((heap_other _ _ (by omega)).trans (hkr.out.text g3)))))
          · exact ((((g4.trans (hkr.out.below.mono (by omega))).setCell (p := ⟨w.heap.size, 0, none⟩) (Nat.le_refl _) _).setCell (p := ⟨w.heap.size, 1, none⟩) (Nat.le_refl _) _).setCell (p := ⟨w.heap.size + 1, 0, none⟩) (by dsimp only; omega) _).setCell (p := ⟨w.heap.size + 1 + 1, 0, none⟩) (by dsimp only; omega) _
        | ok st' =>
          gi_wp2_with (refine ⟨trivial, fun h => (by cases h), ?_⟩; gi_at_call 26; refine (CallsIn.inRound l (callsIn_wide.2 C26.out)).mono ?_; clear C26
                       rintro e3 W3 ⟨en, rfl, hkr, herr, hok2⟩
                       obtain ⟨hen, hrd3⟩ := hok2 st' hT
                       subst hen
                       replace hkr := hid hkr
                       replace hrd3 := hid hrd3
                       clear herr hok2)
          obtain ⟨g0, g1, g2, g3, g4⟩ := GG.out
          obtain ⟨cv', ov', vals', hr'⟩ := hrd3.out
          exact ⟨hkr.out.from, hkr.out.keepS, ⟨st', cv', ov', vals', hr', by rw [HTK.out]; exact Dim.play_snoc_ok HPL.out hT⟩, hkr.out.same _ _ g0 ⟨by decide, by decide, by decide⟩, hkr.out.boxed g1 ⟨by decide, by decide, by decide⟩, hkr.out.boxed g2 ⟨by decide, by decide, by decide⟩, g3.same (hkr.out.text g3), g4.trans (hkr.out.below.mono (by omega))⟩
      case done =>
        rintro D W hD hE ⟨⟨st, cv, ov, vals, hrd, hpl⟩, g0, g1, g2, g3, g4⟩ hdef
        rw [List.take_length] at hpl
        obtain ⟨ac, capc, rfl, _⟩ := hrd.cls
        have c0 := row_cell hrd.blk 0
        have c1 := row_cell hrd.blk 1
        simp only [List.getElem?_toArray, List.getElem?_cons_zero, List.getElem?_cons_succ] at c0 c1
        have z00 := row_cell g0 0
        have z01 := row_cell g0 1
        simp only [List.getElem?_toArray, List.getElem?_cons_zero, List.getElem?_cons_succ] at z00 z01
        have y00 := row_frozen g0 0
        have y01 := row_frozen g0 1
        have z1 := g1.cell
        have y1 := g1.frozen
        have z2 := g2.cell
        have y2 := g2.frozen
        have z3 := hE.cell
        have y3 := hE.frozen
        have HM := hid ((Marks.nil W8.heap.size W).cons hD hdef (by simp))
        have HRD := hid hrd
        have HE := hid hE
        have GG := hid (And.intro g0 (And.intro g1 (And.intro g2 (And.intro g3 g4))))
        have HPL := hid hpl
        have hcl := hrd.li.2.2.1
        have htt : tot < 1099511627776 := by have := Dim.lines_len hd.2.1; have := HTO.out; omega
        generalize hcn : st.cls.length = cl at c1 hcl
        have HCN := hid hcn
        clear hit hrd hpl g0 g1 g2 g3 g4 hE RD0 G0 G1 G2 G3 GB GT GTB X0 X1 X2 B8 hcn
        by_cases hlt : cl < nc
        · have hlt' : (cl : Int) < nc := by omega
          have hans : ans = ⟨23, tot + 1, 0, []⟩ := by
            rw [← HA.out]
            unfold Dim.parse
            rw [HHD.out, HRH.out]
            simp only [if_neg HBIG.out, HIT.out, HPL.out, HCN.out, if_pos hlt, HTO.out]
          subst hans
          gi_wp2_with (refine ⟨trivial, ?_⟩; gi_at_call 36; refine (callsIn_wide.2 (count36 (w.heap.size + 3) tot _ htt z3 y3)).mono ?_; rintro e5 w9 ⟨rfl, rfl⟩)
          obtain ⟨g0, g1, g2, g3, g4⟩ := GG.out
          refine leave_marks (((((HM.out.set _ _).set _ _).set _ _).set _ _).set _ _) fun W2 hb => ?_
          refine ⟨_, results_cells3 rfl _ _ rfl rfl rfl (load_row25 _ (hb.same _ _ ((heap_other _ _ (by omega)).trans ((heap_other _ _ (by omega)).trans (heap_set_row (heap_set_row ((heap_other _ _ (by omega)).trans g0) _) _))) (by simp) (.inr rfl))) (load_box26 _ (hb.boxed (boxed_apart ((boxed_apart (boxed_apart (boxed_apart g1 (by omega)) (by omega)) (by omega)).set _) (by omega)) (by simp))) (load_box3 _ (hb.boxed ((boxed_apart (boxed_apart (boxed_apart (boxed_apart g2 (by omega)) (by omega)) (by omega)) (by omega)).set _) (by simp))), none, ⟨0, rfl⟩, Cls.nil _ _, ?_⟩
          exact Book.below (n := w.heap.size) (((((g4.setCell (p := ⟨w.heap.size + 3, 0, none⟩) (by dsimp only; omega) _).setCell (p := ⟨w.heap.size, 0, none⟩) (Nat.le_refl _) _).setCell (p := ⟨w.heap.size, 1, none⟩) (Nat.le_refl _) _).setCell (p := ⟨w.heap.size + 1, 0, none⟩) (by dsimp only; omega) _).setCell (p := ⟨w.heap.size + 1 + 1, 0, none⟩) (by dsimp only; omega) _) (by omega) hb (by simp) (Nat.le_refl _)
        · have hlt' : ¬ (cl : Int) < nc := by omega
          have hans : ans = ⟨0, 0, nv, st.cls⟩ := by
            rw [← HA.out]
            unfold Dim.parse
            rw [HHD.out, HRH.out]
            simp only [if_neg HBIG.out, HIT.out, HPL.out, HCN.out, if_neg hlt]
          subst hans
          gi_wp2
          obtain ⟨g0, g1, g2, g3, g4⟩ := GG.out
          refine leave_marks ((((HM.out.set _ _).set _ _).set _ _).set _ _) fun W2 hb => ?_
          have hR2 := ((HRD.out.up (W' := (((W.setCell ⟨w.heap.size, 0, none⟩ (.int .i64 nv)).setCell ⟨w.heap.size, 1, none⟩ (.slice ac cl capc)).setCell ⟨w.heap.size + 1, 0, none⟩ (.int .i64 0)).setCell ⟨w.heap.size + 1 + 1, 0, none⟩ (.int .i64 0)) (fun g hg => (heap_other _ _ (by omega)).trans ((heap_other _ _ (by omega)).trans ((heap_other _ _ (by omega)).trans (heap_other _ _ (by omega)))))).book (hb.any (some (w.heap.size + 3))) (by omega)).cls
          obtain ⟨a', cap', e', hcls⟩ := hR2
          injection e' with e1 _ e3
          subst e1 e3
          refine ⟨_, results_cells3 rfl _ _ rfl rfl rfl (load_row25 _ (hb.same _ _ ((heap_other _ _ (by omega)).trans ((heap_other _ _ (by omega)).trans (heap_set_row (heap_set_row g0 _) _))) (by simp) (.inr rfl))) (load_box26 _ (hb.boxed (boxed_apart ((boxed_apart (boxed_apart g1 (by omega)) (by omega)).set _) (by omega)) (by simp))) (load_box3 _ (hb.boxed ((boxed_apart (boxed_apart (boxed_apart g2 (by omega)) (by omega)) (by omega)).set _) (by simp))), ?_⟩
          exact ⟨ac, ⟨capc, by rw [HCN.out]⟩, hcls, Book.below (n := w.heap.size) ((((g4.setCell (p := ⟨w.heap.size, 0, none⟩) (Nat.le_refl _) _).setCell (p := ⟨w.heap.size, 1, none⟩) (Nat.le_refl _) _).setCell (p := ⟨w.heap.size + 1, 0, none⟩) (by dsimp only; omega) _).setCell (p := ⟨w.heap.size + 1 + 1, 0, none⟩) (by dsimp only; omega) _) (by omega) hb (by simp) (Nat.le_refl _)⟩
      case stop =>
        rintro D cd k W hD hk ⟨rfl, er, at_, hpl, g0, g1, g2, g3, g4⟩ hdef
        have hans : ans = ⟨er, at_, 0, []⟩ := by
          rw [← HA.out]
          unfold Dim.parse
          rw [HHD.out, HRH.out]
          simp only [if_neg HBIG.out, HIT.out, hpl]
        subst hans
        have HM := hid ((Marks.nil W8.heap.size W).cons hD hdef (by simp))
        have GG := hid (And.intro g0 (And.intro g1 (And.intro g2 (And.intro g3 g4))))
        clear hit hpl g0 g1 g2 g3 g4 RD0 G0 G1 G2 G3 GB GT GTB X0 X1 X2 B8
        gi_wp2
        obtain ⟨g0, g1, g2, g3, g4⟩ := GG.out
        refine leave_marks HM.out fun W2 hb => ?_
        exact ⟨_, results_cells3 rfl _ _ rfl rfl rfl (load_row25 _ (hb.same _ _ g0 (by simp) (.inr rfl))) (load_box26 _ (hb.boxed g1 (by simp))) (load_box3 _ (hb.boxed g2 (by simp))), none, ⟨0, rfl⟩, Cls.nil _ _, Book.below g4 (by omega) hb (by simp) (Nat.le_refl _)⟩
end Go.Proofs.YtlhpnkgdnmnclaaDoor
