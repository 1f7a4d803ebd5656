/- Whether two formulas say the same, by the program. -/
import Derived.Test.YtccncojidkdddaaHolds
import Derived.Test.YtccncojidkdddaaRefAlike
import Derived.Test.YtccncojidkdddaaOr
namespace Go.Proofs.Ytccncojidkdddaa
open Go.RowKit Go.Lib Go.Sort Go.Shelf
set_option linter.unusedVariables false

set_option maxRecDepth 100000 in
set_option maxHeartbeats 4000000 in
theorem alike16_err (vars wars : Int) (a b : Option Addr) (n cap m dap : Nat) (cs ds : List (List Int)) (w : World) (hn : cs.length = n) (hc : Cls w a cs) (hm : ds.length = m) (hd : Cls w b ds) (hne : ¬ Tru.or2 (Tru.taken vars cs) (Tru.taken wars ds) = 0) :
    Calls Try.prog 16 #[.agg #[.int .i64 vars, .slice a n cap], .agg #[.int .i64 wars, .slice b m dap]] w fun e w' => e = .returned (.tuple #[.bool false, .int .i64 (Tru.or2 (Tru.taken vars cs) (Tru.taken wars ds))]) ∧ Below w.heap.size w w' := by
  obtain ⟨W0, hW0⟩ : ∃ W0, (w.alloc (.cells #[.int .i64 vars, .slice a n cap] 24)).alloc (.cells #[.int .i64 wars, .slice b m dap] 24) = W0 := ⟨_, rfl⟩
  have hf0 : Far2 w (.int .i64 vars) (.slice a n cap) (.int .i64 wars) (.slice b m dap) W0 := by rw [← hW0]; exact Far2.zero w _ _ _ _
  have S1 : ∀ W, Below W0.heap.size W0 W → W.cell? ⟨w.heap.size, 0, none⟩ = some (.int .i64 vars) ∧ W.cell? ⟨w.heap.size, 1, none⟩ = some (.slice a n cap) ∧ W.cell? ⟨w.heap.size + 1, 0, none⟩ = some (.int .i64 wars) ∧ W.cell? ⟨w.heap.size + 1, 1, none⟩ = some (.slice b m dap) ∧ Below W0.heap.size W0 W := fun W hW => ⟨(hf0.on hW).c0, (hf0.on hW).c1, (hf0.on hW).d0, (hf0.on hW).d1, hW⟩
  have C := hid (fun (W : World) (hW : Below W0.heap.size W0 W) => (taken19 vars a n cap cs W hn (hc.below (hf0.on hW).below)).mono (R' := fun e w' => e = .returned (.int .i64 (Tru.taken vars cs)) ∧ w'.cell? ⟨w.heap.size, 0, none⟩ = some (.int .i64 vars) ∧ w'.cell? ⟨w.heap.size, 1, none⟩ = some (.slice a n cap) ∧ w'.cell? ⟨w.heap.size + 1, 0, none⟩ = some (.int .i64 wars) ∧ w'.cell? ⟨w.heap.size + 1, 1, none⟩ = some (.slice b m dap) ∧ Below W0.heap.size W0 w') fun e w' h => ⟨h.1, S1 w' (hW.trans (h.2.mono hW.size))⟩)
  have D := hid (fun (W : World) (hW : Below W0.heap.size W0 W) => (taken19 wars b m dap ds W hm (hd.below (hf0.on hW).below)).mono (R' := fun e w' => e = .returned (.int .i64 (Tru.taken wars ds)) ∧ w'.cell? ⟨w.heap.size, 0, none⟩ = some (.int .i64 vars) ∧ w'.cell? ⟨w.heap.size, 1, none⟩ = some (.slice a n cap) ∧ w'.cell? ⟨w.heap.size + 1, 0, none⟩ = some (.int .i64 wars) ∧ w'.cell? ⟨w.heap.size + 1, 1, none⟩ = some (.slice b m dap) ∧ Below W0.heap.size W0 w') fun e w' h => ⟨h.1, S1 w' (hW.trans (h.2.mono hW.size))⟩)
  have HS1 := hid S1
  have kk := S1 W0.drew (Below.refl _ _).drew
  have KK := hid kk
  have HF := hid hf0
  generalize Tru.taken vars cs = t at hne C
  generalize Tru.taken wars ds = s at hne D
  clear hc hn hm hd kk S1 hf0
  go_enter Try.func16, Try.ntmps16
  go_wp2_with fail
  go_region_held3 (fun W => W.cell? ⟨w.heap.size, 0, none⟩ = some (.int .i64 vars) ∧ W.cell? ⟨w.heap.size, 1, none⟩ = some (.slice a n cap) ∧ W.cell? ⟨w.heap.size + 1, 0, none⟩ = some (.int .i64 wars) ∧ W.cell? ⟨w.heap.size + 1, 1, none⟩ = some (.slice b m dap) ∧ Below W0.heap.size W0 W)
    (first | exact KK.out | exact KA.out | exact ⟨z0, z1, z2, z3, hb9⟩ | exact ⟨y0, y1, y2, y3, hb8⟩)
    (first
      | (go_at_call 19; refine (C.out _ ?_).mono ?_; exact (Below.refl _ _).drew; clear C; rintro e w8 ⟨rfl, y0, y1, y2, y3, hb8⟩)
      | (go_at_call 19; refine (D.out _ hb8).mono ?_; clear D; rintro e w9 ⟨rfl, z0, z1, z2, z3, hb9⟩
         have KA := hid (HS1.out (w9.alloc (.cells #[.int .i64 t, .int .i64 s] 28)) (hb9.alloc hb9.size _)))
      | (go_at_call 32; refine (orErr32 w9.heap.size t s _ (by rw [row_cell (World.alloc_heap_new w9 _) 0]; rfl) (by rw [row_cell (World.alloc_heap_new w9 _) 1]; rfl)).mono ?_; rintro e wz ⟨rfl, rfl⟩))
  all_goals
    have far9 := hid (HF.out.on KA.out.2.2.2.2)
    clear hb8 hb9 y0 y1 y2 y3 z0 z1 z2 z3 KK KA
    go_wp2
    go_ret2
    exact ⟨rfl, far9.out.below⟩
set_option maxRecDepth 100000 in
set_option maxHeartbeats 4000000 in
theorem alike16_arg (vars wars : Int) (a b : Option Addr) (n cap m dap : Nat) (cs ds : List (List Int)) (w : World) (hn : cs.length = n) (hc : Cls w a cs) (hm : ds.length = m) (hd : Cls w b ds) (ht : Tru.taken vars cs = 0) (hs : Tru.taken wars ds = 0) (hne : (vars == wars) = false) :
    Calls Try.prog 16 #[.agg #[.int .i64 vars, .slice a n cap], .agg #[.int .i64 wars, .slice b m dap]] w fun e w' => e = .returned (.tuple #[.bool false, .int .i64 2]) ∧ Below w.heap.size w w' := by
  obtain ⟨W0, hW0⟩ : ∃ W0, (w.alloc (.cells #[.int .i64 vars, .slice a n cap] 24)).alloc (.cells #[.int .i64 wars, .slice b m dap] 24) = W0 := ⟨_, rfl⟩
  have hf0 : Far2 w (.int .i64 vars) (.slice a n cap) (.int .i64 wars) (.slice b m dap) W0 := by rw [← hW0]; exact Far2.zero w _ _ _ _
  have S1 : ∀ W, Below W0.heap.size W0 W → W.cell? ⟨w.heap.size, 0, none⟩ = some (.int .i64 vars) ∧ W.cell? ⟨w.heap.size, 1, none⟩ = some (.slice a n cap) ∧ W.cell? ⟨w.heap.size + 1, 0, none⟩ = some (.int .i64 wars) ∧ W.cell? ⟨w.heap.size + 1, 1, none⟩ = some (.slice b m dap) ∧ Below W0.heap.size W0 W := fun W hW => ⟨(hf0.on hW).c0, (hf0.on hW).c1, (hf0.on hW).d0, (hf0.on hW).d1, hW⟩
  have C := hid (fun (W : World) (hW : Below W0.heap.size W0 W) => (taken19 vars a n cap cs W hn (hc.below (hf0.on hW).below)).mono (R' := fun e w' => e = .returned (.int .i64 (Tru.taken vars cs)) ∧ w'.cell? ⟨w.heap.size, 0, none⟩ = some (.int .i64 vars) ∧ w'.cell? ⟨w.heap.size, 1, none⟩ = some (.slice a n cap) ∧ w'.cell? ⟨w.heap.size + 1, 0, none⟩ = some (.int .i64 wars) ∧ w'.cell? ⟨w.heap.size + 1, 1, none⟩ = some (.slice b m dap) ∧ Below W0.heap.size W0 w') fun e w' h => ⟨h.1, S1 w' (hW.trans (h.2.mono hW.size))⟩)
  have D := hid (fun (W : World) (hW : Below W0.heap.size W0 W) => (taken19 wars b m dap ds W hm (hd.below (hf0.on hW).below)).mono (R' := fun e w' => e = .returned (.int .i64 (Tru.taken wars ds)) ∧ w'.cell? ⟨w.heap.size, 0, none⟩ = some (.int .i64 vars) ∧ w'.cell? ⟨w.heap.size, 1, none⟩ = some (.slice a n cap) ∧ w'.cell? ⟨w.heap.size + 1, 0, none⟩ = some (.int .i64 wars) ∧ w'.cell? ⟨w.heap.size + 1, 1, none⟩ = some (.slice b m dap) ∧ Below W0.heap.size W0 w') fun e w' h => ⟨h.1, S1 w' (hW.trans (h.2.mono hW.size))⟩)
  have HS1 := hid S1
  have kk := S1 W0.drew (Below.refl _ _).drew
  have KK := hid kk
  have HF := hid hf0
  rw [ht] at C
  rw [hs] at D
  clear hc hn hm hd kk S1 hf0 ht hs
  go_enter Try.func16, Try.ntmps16
  go_wp2_with fail
  go_region_held3 (fun W => W.cell? ⟨w.heap.size, 0, none⟩ = some (.int .i64 vars) ∧ W.cell? ⟨w.heap.size, 1, none⟩ = some (.slice a n cap) ∧ W.cell? ⟨w.heap.size + 1, 0, none⟩ = some (.int .i64 wars) ∧ W.cell? ⟨w.heap.size + 1, 1, none⟩ = some (.slice b m dap) ∧ Below W0.heap.size W0 W)
    (first | exact KK.out | exact KA.out | exact ⟨z0, z1, z2, z3, hb9⟩ | exact ⟨y0, y1, y2, y3, hb8⟩)
    (first
      | (go_at_call 19; refine (C.out _ ?_).mono ?_; exact (Below.refl _ _).drew; clear C; rintro e w8 ⟨rfl, y0, y1, y2, y3, hb8⟩)
      | (go_at_call 19; refine (D.out _ hb8).mono ?_; clear D; rintro e w9 ⟨rfl, z0, z1, z2, z3, hb9⟩
         have KA := hid (HS1.out (w9.alloc (.cells #[.int .i64 0, .int .i64 0] 28)) (hb9.alloc hb9.size _)))
      | (go_at_call 32; refine (orErr32 w9.heap.size 0 0 _ (by rw [row_cell (World.alloc_heap_new w9 _) 0]; rfl) (by rw [row_cell (World.alloc_heap_new w9 _) 1]; rfl)).mono ?_; rintro e wz ⟨he, rfl⟩; rw [show Tru.or2 0 0 = 0 from rfl] at he; subst he))
  all_goals
    have far9 := hid (HF.out.on KA.out.2.2.2.2)
    have q0 := far9.out.c0
    have q1 := far9.out.d0
    clear hb8 hb9 y0 y1 y2 y3 z0 z1 z2 z3 KK KA
    go_wp2
    go_ret2
    exact ⟨rfl, far9.out.below⟩
end Go.Proofs.Ytccncojidkdddaa
