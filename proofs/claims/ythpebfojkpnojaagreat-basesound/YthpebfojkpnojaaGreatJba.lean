/- The first error that is none of OK. -/
import Derived.Test.YthpebfojkpnojaaGreatJav
import Derived.Test.YthpebfojkpnojaaGreatJay
import Derived.Test.YthpebfojkpnojaaGreatJaz
/- The first error that is none of OK. -/
namespace Go.Proofs.YthpebfojkpnojaaGreat.Tr
open Go.RowKit
set_option linter.unusedVariables false

set_option maxHeartbeats 1000000 in
theorem orErr32 (b : Nat) (x y : Int) (w : World) (h0 : w.cell? ⟨b, 0, none⟩ = some (.int .i64 x)) (h1 : w.cell? ⟨b, 1, none⟩ = some (.int .i64 y)) :
    Calls Tryz.prog 80 #[.slice (some ⟨b, 0, none⟩) 2 2] w fun e w' => e = .returned (.int .i64 (Tru.or2 x y)) ∧ w' = w := by
  by_cases hx : x = 0
  · have hx' : (x != 0) = false := by simp [hx]
    have HO := hid (show Tru.or2 x y = y by unfold Tru.or2; rw [if_pos hx])
    by_cases hy : y = 0
    · have hy' : (y != 0) = false := by simp [hy]
      have HY := hid hy
      clear hx hy
      go_enter Tryz.func80, Tryz.ntmps80
      go_wp2
      refine wp_loop_rounds 3 ?_
      rw [rounds_succ]
      go_wp2
      rw [rounds_succ]
      go_wp2
      rw [rounds_succ]
      go_wp2
      go_ret
      exact ⟨ret_num (by rw [HO.out, HY.out]), rfl⟩
    · have hy' : (y != 0) = true := by simp [hy]
      clear hx hy
      go_enter Tryz.func80, Tryz.ntmps80
      go_wp2
      refine wp_loop_rounds 2 ?_
      rw [rounds_succ]
      go_wp2
      rw [rounds_succ]
      go_wp2
      go_ret
      exact ⟨ret_num HO.out.symm, rfl⟩
  · have hx' : (x != 0) = true := by simp [hx]
    have HO := hid (show Tru.or2 x y = x by unfold Tru.or2; rw [if_neg hx])
    clear hx
    go_enter Tryz.func80, Tryz.ntmps80
    go_wp2
    refine wp_loop_rounds 1 ?_
    rw [rounds_succ]
    go_wp2
    go_ret
    exact ⟨ret_num HO.out.symm, rfl⟩

end Go.Proofs.YthpebfojkpnojaaGreat.Tr

/- Whether two formulas say the same, by the program. -/
namespace Go.Proofs.YthpebfojkpnojaaGreat.Tr
open Go.RowKit Go.Lib Go.Sort Go.Shelf
set_option linter.unusedVariables false

set_option maxRecDepth 100000 in
set_option maxHeartbeats 4000000 in
theorem alike16_err (vars wars : Int) (a b : Option Addr) (n cap m dap : Nat) (cs ds : List (List Int)) (w : World) (hn : cs.length = n) (hc : Cls w a cs) (hm : ds.length = m) (hd : Cls w b ds) (hne : ¬ Tru.or2 (Tru.taken vars cs) (Tru.taken wars ds) = 0) :
    Calls Tryz.prog 26 #[.agg #[.int .i64 vars, .slice a n cap], .agg #[.int .i64 wars, .slice b m dap]] w fun e w' => e = .returned (.tuple #[.bool false, .int .i64 (Tru.or2 (Tru.taken vars cs) (Tru.taken wars ds))]) ∧ Below w.heap.size w w' := by
  obtain ⟨W0, hW0⟩ : ∃ W0, (w.alloc (.cells #[.int .i64 vars, .slice a n cap] 24)).alloc (.cells #[.int .i64 wars, .slice b m dap] 24) = W0 := ⟨_, rfl⟩
  have hf0 : Far2 w (.int .i64 vars) (.slice a n cap) (.int .i64 wars) (.slice b m dap) W0 := by rw [← hW0]; exact Far2.zero w _ _ _ _
  have S1 : ∀ W, Below W0.heap.size W0 W → W.cell? ⟨w.heap.size, 0, none⟩ = some (.int .i64 vars) ∧ W.cell? ⟨w.heap.size, 1, none⟩ = some (.slice a n cap) ∧ W.cell? ⟨w.heap.size + 1, 0, none⟩ = some (.int .i64 wars) ∧ W.cell? ⟨w.heap.size + 1, 1, none⟩ = some (.slice b m dap) ∧ Below W0.heap.size W0 W := fun W hW => ⟨(hf0.on hW).c0, (hf0.on hW).c1, (hf0.on hW).d0, (hf0.on hW).d1, hW⟩
  have C := hid (fun (W : World) (hW : Below W0.heap.size W0 W) => (taken19 vars a n cap cs W hn (hc.below (hf0.on hW).below)).mono (R' := fun e w' => e = .returned (.int .i64 (Tru.taken vars cs)) ∧ w'.cell? ⟨w.heap.size, 0, none⟩ = some (.int .i64 vars) ∧ w'.cell? ⟨w.heap.size, 1, none⟩ = some (.slice a n cap) ∧ w'.cell? ⟨w.heap.size + 1, 0, none⟩ = some (.int .i64 wars) ∧ w'.cell? ⟨w.heap.size + 1, 1, none⟩ = some (.slice b m dap) ∧ Below W0.heap.size W0 w') fun e w' h => ⟨h.1, S1 w' (hW.trans (h.2.mono hW.size))⟩)
  have D := hid (fun (W : World) (hW : Below W0.heap.size W0 W) => (taken19 wars b m dap ds W hm (hd.below (hf0.on hW).below)).mono (R' := fun e w' => e = .returned (.int .i64 (Tru.taken wars ds)) ∧ w'.cell? ⟨w.heap.size, 0, none⟩ = some (.int .i64 vars) ∧ w'.cell? ⟨w.heap.size, 1, none⟩ = some (.slice a n cap) ∧ w'.cell? ⟨w.heap.size + 1, 0, none⟩ = some (.int .i64 wars) ∧ w'.cell? ⟨w.heap.size + 1, 1, none⟩ = some (.slice b m dap) ∧ Below W0.heap.size W0 w') fun e w' h => ⟨h.1, S1 w' (hW.trans (h.2.mono hW.size))⟩)
  have HS1 := hid S1
  have kk := S1 W0.drew (Below.refl _ _).drew
  have KK := hid kk
  have HF := hid hf0
  generalize Tru.taken vars cs = t at hne C
  generalize Tru.taken wars ds = s at hne D
  clear hc hn hm hd kk S1 hf0
  go_enter Tryz.func26, Tryz.ntmps26
  go_wp2_with fail
  go_region_held3 (fun W => W.cell? ⟨w.heap.size, 0, none⟩ = some (.int .i64 vars) ∧ W.cell? ⟨w.heap.size, 1, none⟩ = some (.slice a n cap) ∧ W.cell? ⟨w.heap.size + 1, 0, none⟩ = some (.int .i64 wars) ∧ W.cell? ⟨w.heap.size + 1, 1, none⟩ = some (.slice b m dap) ∧ Below W0.heap.size W0 W)
    (first | exact KK.out | exact KA.out | exact ⟨z0, z1, z2, z3, hb9⟩ | exact ⟨y0, y1, y2, y3, hb8⟩)
    (first
      | (go_at_call 70; refine (C.out _ ?_).mono ?_; exact (Below.refl _ _).drew; clear C; rintro e w8 ⟨rfl, y0, y1, y2, y3, hb8⟩)
      | (go_at_call 70; refine (D.out _ hb8).mono ?_; clear D; rintro e w9 ⟨rfl, z0, z1, z2, z3, hb9⟩
         have KA := hid (HS1.out (w9.alloc (.cells #[.int .i64 t, .int .i64 s] 29)) (hb9.alloc hb9.size _)))
      | (go_at_call 80; refine (orErr32 w9.heap.size t s _ (by rw [row_cell (World.alloc_heap_new w9 _) 0]; rfl) (by rw [row_cell (World.alloc_heap_new w9 _) 1]; rfl)).mono ?_; rintro e wz ⟨rfl, rfl⟩))
  all_goals
    have far9 := hid (HF.out.on KA.out.2.2.2.2)
    clear hb8 hb9 y0 y1 y2 y3 z0 z1 z2 z3 KK KA
    go_wp2
    go_ret2
    exact ⟨rfl, far9.out.below⟩
set_option maxRecDepth 100000 in
set_option maxHeartbeats 4000000 in
theorem alike16_arg (vars wars : Int) (a b : Option Addr) (n cap m dap : Nat) (cs ds : List (List Int)) (w : World) (hn : cs.length = n) (hc : Cls w a cs) (hm : ds.length = m) (hd : Cls w b ds) (ht : Tru.taken vars cs = 0) (hs : Tru.taken wars ds = 0) (hne : (vars == wars) = false) :
    Calls Tryz.prog 26 #[.agg #[.int .i64 vars, .slice a n cap], .agg #[.int .i64 wars, .slice b m dap]] w fun e w' => e = .returned (.tuple #[.bool false, .int .i64 2]) ∧ Below w.heap.size w w' := by
  obtain ⟨W0, hW0⟩ : ∃ W0, (w.alloc (.cells #[.int .i64 vars, .slice a n cap] 24)).alloc (.cells #[.int .i64 wars, .slice b m dap] 24) = W0 := ⟨_, rfl⟩
  have hf0 : Far2 w (.int .i64 vars) (.slice a n cap) (.int .i64 wars) (.slice b m dap) W0 := by rw [← hW0]; exact Far2.zero w _ _ _ _
  have S1 : ∀ W, Below W0.heap.size W0 W → W.cell? ⟨w.heap.size, 0, none⟩ = some (.int .i64 vars) ∧ W.cell? ⟨w.heap.size, 1, none⟩ = some (.slice a n cap) ∧ W.cell? ⟨w.heap.size + 1, 0, none⟩ = some (.int .i64 wars) ∧ W.cell? ⟨w.heap.size + 1, 1, none⟩ = some (.slice b m dap) ∧ Below W0.heap.size W0 W := fun W hW => ⟨(hf0.on hW).c0, (hf0.on hW).c1, (hf0.on hW).d0, (hf0.on hW).d1, hW⟩
  have C := hid (fun (W : World) (hW : Below W0.heap.size W0 W) => (taken19 vars a n cap cs W hn (hc.below (hf0.on hW).below)).mono (R' := fun e w' => e = .returned (.int .i64 (Tru.taken vars cs)) ∧ w'.cell? ⟨w.heap.size, 0, none⟩ = some (.int .i64 vars) ∧ w'.cell? ⟨w.heap.size, 1, none⟩ = some (.slice a n cap) ∧ w'.cell? ⟨w.heap.size + 1, 0, none⟩ = some (.int .i64 wars) ∧ w'.cell? ⟨w.heap.size + 1, 1, none⟩ = some (.slice b m dap) ∧ Below W0.heap.size W0 w') fun e w' h => ⟨h.1, S1 w' (hW.trans (h.2.mono hW.size))⟩)
  have D := hid (fun (W : World) (hW : Below W0.heap.size W0 W) => (taken19 wars b m dap ds W hm (hd.below (hf0.on hW).below)).mono (R' := fun e w' => e = .returned (.int .i64 (Tru.taken wars ds)) ∧ w'.cell? ⟨w.heap.size, 0, none⟩ = some (.int .i64 vars) ∧ w'.cell? ⟨w.heap.size, 1, none⟩ = some (.slice a n cap) ∧ w'.cell? ⟨w.heap.size + 1, 0, none⟩ = some (.int .i64 wars) ∧ w'.cell? ⟨w.heap.size + 1, 1, none⟩ = some (.slice b m dap) ∧ Below W0.heap.size W0 w') fun e w' h => ⟨h.1, S1 w' (hW.trans (h.2.mono hW.size))⟩)
  have HS1 := hid S1
  have kk := S1 W0.drew (Below.refl _ _).drew
  have KK := hid kk
  have HF := hid hf0
  rw [ht] at C
  rw [hs] at D
  clear hc hn hm hd kk S1 hf0 ht hs
  go_enter Tryz.func26, Tryz.ntmps26
  go_wp2_with fail
  go_region_held3 (fun W => W.cell? ⟨w.heap.size, 0, none⟩ = some (.int .i64 vars) ∧ W.cell? ⟨w.heap.size, 1, none⟩ = some (.slice a n cap) ∧ W.cell? ⟨w.heap.size + 1, 0, none⟩ = some (.int .i64 wars) ∧ W.cell? ⟨w.heap.size + 1, 1, none⟩ = some (.slice b m dap) ∧ Below W0.heap.size W0 W)
    (first | exact KK.out | exact KA.out | exact ⟨z0, z1, z2, z3, hb9⟩ | exact ⟨y0, y1, y2, y3, hb8⟩)
    (first
      | (go_at_call 70; refine (C.out _ ?_).mono ?_; exact (Below.refl _ _).drew; clear C; rintro e w8 ⟨rfl, y0, y1, y2, y3, hb8⟩)
      | (go_at_call 70; refine (D.out _ hb8).mono ?_; clear D; rintro e w9 ⟨rfl, z0, z1, z2, z3, hb9⟩
         have KA := hid (HS1.out (w9.alloc (.cells #[.int .i64 0, .int .i64 0] 29)) (hb9.alloc hb9.size _)))
      | (go_at_call 80; refine (orErr32 w9.heap.size 0 0 _ (by rw [row_cell (World.alloc_heap_new w9 _) 0]; rfl) (by rw [row_cell (World.alloc_heap_new w9 _) 1]; rfl)).mono ?_; rintro e wz ⟨he, rfl⟩; rw [show Tru.or2 0 0 = 0 from rfl] at he; subst he))
  all_goals
    have far9 := hid (HF.out.on KA.out.2.2.2.2)
    have q0 := far9.out.c0
    have q1 := far9.out.d0
    clear hb8 hb9 y0 y1 y2 y3 z0 z1 z2 z3 KK KA
    go_wp2
    go_ret2
    exact ⟨rfl, far9.out.below⟩
end Go.Proofs.YthpebfojkpnojaaGreat.Tr

/- Two tables side by side: each is asked, the other stands. -/
namespace Go.Proofs.YthpebfojkpnojaaGreat.Tr
open Go.RowKit Go.Lib Go.Sort Go.Shelf
set_option linter.unusedVariables false
set_option linter.unusedSimpArgs false

theorem TabO.stay {T g cap : Nat} {ms : List (Nat × Nat)} {bb : Int} {o : Option Addr} {W W' : World} (h : TabO T g cap ms bb o W) (hs : ∀ k, (k = T ∨ k = g ∨ ∃ a, o = some a ∧ k = a.block) → k < W.heap.size → W'.heap[k]? = W.heap[k]?) : TabO T g cap ms bb o W' := by
  obtain ⟨no, cap2, os, hT, hg, hH, hos, hno, hown, hop⟩ := h
  have hTs := (Array.getElem?_eq_some_iff.1 hT).1
  refine ⟨no, cap2, os, (hs T (.inl rfl) hTs).trans hT, hg, fun t ht => ?_, hos, hno, ⟨hown.1, ?_⟩, hop⟩
  · have := hH t ht
    have hk := hs g (.inr (.inl rfl)) (by omega)
    exact ⟨by rw [← this.1]; simp [World.cell?, hk], by rw [← this.2]; exact frozen_block hk⟩
  · rcases hown.2 with h0 | ⟨b, c, cur, e1, h1, h2, h3⟩
    · exact .inl h0
    · injection e1 with e1 e2 e3
      subst e1 e3
      exact .inr ⟨b, _, cur, rfl, h1, (hs b (.inr (.inr ⟨_, rfl, rfl⟩)) (Array.getElem?_eq_some_iff.1 h2).1).trans h2, h3⟩
theorem TabO.lt {T g cap : Nat} {ms : List (Nat × Nat)} {bb : Int} {o : Option Addr} {W : World} (h : TabO T g cap ms bb o W) : T < W.heap.size ∧ g < T ∧ ∀ a, o = some a → T < a.block ∧ a.block < W.heap.size := by
  obtain ⟨no, cap2, os, hT, hg, hH, hos, hno, hown, hop⟩ := h
  refine ⟨(Array.getElem?_eq_some_iff.1 hT).1, hg, fun a ha => ?_⟩
  subst ha
  rcases hown.2 with ⟨e, _⟩ | ⟨b, c, cur, e1, h1, h2, h3⟩
  · cases e
  · injection e1 with e1 e2 e3
    injection e1 with e1
    subst e1
    exact ⟨h1, (Array.getElem?_eq_some_iff.1 h2).1⟩

/-- Two tables, the second made behind the first. -/
structure Two (T1 g1 c1 : Nat) (ms1 : List (Nat × Nat)) (T2 g2 c2 : Nat) (ms2 : List (Nat × Nat)) (b1 : Int) (o1 : Option Addr) (b2 : Int) (o2 : Option Addr) (W : World) : Prop where
  one : TabO T1 g1 c1 ms1 b1 o1 W
  two : TabO T2 g2 c2 ms2 b2 o2 W
  far : T1 < g2
  o1T : ∀ a, o1 = some a → a.block ≠ T2 ∧ a.block ≠ g2
  o12 : ∀ a a', o1 = some a → o2 = some a' → a.block ≠ a'.block
theorem Two.ask1 {T1 g1 c1 : Nat} {ms1 : List (Nat × Nat)} {T2 g2 c2 : Nat} {ms2 : List (Nat × Nat)} {b1 : Int} {o1 : Option Addr} {b2 : Int} {o2 : Option Addr} {W W' : World} {b1' : Int} {o1' : Option Addr} (h : Two T1 g1 c1 ms1 T2 g2 c2 ms2 b1 o1 b2 o2 W) (ht : TabO T1 g1 c1 ms1 b1' o1' W') (hu : Turn T1 o1 o1' W W') : Two T1 g1 c1 ms1 T2 g2 c2 ms2 b1' o1' b2 o2 W' := by
  obtain ⟨l1, l2, l3⟩ := h.one.lt
  obtain ⟨k1, k2, k3⟩ := h.two.lt
  have hf := h.far
  refine ⟨ht, h.two.stay (fun k hk hlt => hu.same k hlt ?_ ?_), hf, fun a ha => ?_, fun a a' ha ha' => ?_⟩
  · rcases hk with rfl | rfl | ⟨a, ha, rfl⟩
    · omega
    · omega
    · have := k3 a ha; omega
  · intro a ha
    rcases hk with rfl | rfl | ⟨a2, ha2, rfl⟩
    · exact fun e => (h.o1T a ha).1 e.symm
    · exact fun e => (h.o1T a ha).2 e.symm
    · exact fun e => h.o12 a a2 ha ha2 e.symm
  · rcases hu.lies a ha with ⟨a0, e1, e2⟩ | h3
    · rw [← e2]; exact h.o1T a0 e1
    · omega
  · have q := k3 a' ha'
    rcases hu.lies a ha with ⟨a0, e1, e2⟩ | h3
    · rw [← e2]; exact h.o12 a0 a' e1 ha'
    · omega
theorem Two.ask2 {T1 g1 c1 : Nat} {ms1 : List (Nat × Nat)} {T2 g2 c2 : Nat} {ms2 : List (Nat × Nat)} {b1 : Int} {o1 : Option Addr} {b2 : Int} {o2 : Option Addr} {W W' : World} {b2' : Int} {o2' : Option Addr} (h : Two T1 g1 c1 ms1 T2 g2 c2 ms2 b1 o1 b2 o2 W) (ht : TabO T2 g2 c2 ms2 b2' o2' W') (hu : Turn T2 o2 o2' W W') : Two T1 g1 c1 ms1 T2 g2 c2 ms2 b1 o1 b2' o2' W' := by
  obtain ⟨l1, l2, l3⟩ := h.one.lt
  obtain ⟨k1, k2, k3⟩ := h.two.lt
  have hf := h.far
  refine ⟨h.one.stay (fun k hk hlt => hu.same k hlt ?_ ?_), ht, hf, h.o1T, fun a a' ha ha' => ?_⟩
  · rcases hk with rfl | rfl | ⟨a, ha, rfl⟩
    · omega
    · omega
    · exact (h.o1T a ha).1
  · intro a ha
    have := k3 a ha
    rcases hk with rfl | rfl | ⟨a2, ha2, rfl⟩
    · omega
    · omega
    · exact h.o12 a2 a ha2 ha
  · have q := l3 a ha
    rcases hu.lies a' ha' with ⟨a0, e1, e2⟩ | h3
    · rw [← e2]; exact h.o12 a a0 ha e1
    · omega
theorem MadeOut.tab {cs : List (List Int)} {w : World} {e : Ending} {w' : World} (h : MadeOut cs w e w') : ∃ (T g cap : Nat) (ms : List (Nat × Nat)), e = .returned (.pointer (some ⟨T, 0, none⟩)) ∧ TabO T g cap ms (-1) none w' ∧ w.heap.size ≤ g ∧ (∀ p, p ∈ ms ↔ p ∈ Tru.masks cs) ∧ ms.length ≤ cs.length ∧ Below w.heap.size w w' := by
  obtain ⟨g, T, cap, ms, he, hT, h1, h2, h3, h4, h5, h6⟩ := h
  exact ⟨T, g, cap, ms, he, ⟨0, 0, [], hT, h2, h3, rfl, Nat.zero_le _, World.ownsRow_nil _ _ _ _, fun h => by omega⟩, h1, h4, h5, h6⟩
theorem Two.made {T1 g1 c1 : Nat} {ms1 : List (Nat × Nat)} {T2 g2 c2 : Nat} {ms2 : List (Nat × Nat)} {W W' : World} (h1 : TabO T1 g1 c1 ms1 (-1) none W) (h2 : TabO T2 g2 c2 ms2 (-1) none W') (hg : W.heap.size ≤ g2) (hb : Below W.heap.size W W') : Two T1 g1 c1 ms1 T2 g2 c2 ms2 (-1) none (-1) none W' :=
  ⟨h1.on hb, h2, (by have := h1.lt.1; omega), (fun a ha => (by cases ha)), (fun a a' ha _ => (by cases ha))⟩
end Go.Proofs.YthpebfojkpnojaaGreat.Tr

/- The iterator over a formula's models, made. -/
namespace Go.Proofs.YthpebfojkpnojaaGreat.Tr
open Go.RowKit Go.Lib Go.Sort Go.Shelf
set_option linter.unusedVariables false

set_option maxHeartbeats 1000000 in
theorem models20 (u T : Nat) (w : World) :
    Calls Tryz.prog 73 #[.int .i64 u, .func (.func 75) #[.pointer (some ⟨T, 0, none⟩)] #[]] w fun e w' => e = .returned (.func (.func 101) #[] #[.pointer (some ⟨w.heap.size, 0, none⟩), .pointer (some ⟨w.heap.size + 1, 0, none⟩)]) ∧ w' = (w.alloc (.cells #[.int .i64 u] 3)).alloc (.cells #[.func (.func 75) #[.pointer (some ⟨T, 0, none⟩)] #[]] 127) := by
  go_enter Tryz.func73, Tryz.ntmps73
  go_wp2
  go_ret
  exact ⟨rfl, rfl⟩
end Go.Proofs.YthpebfojkpnojaaGreat.Tr

