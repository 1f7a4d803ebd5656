/- How many models there are, by the document's own function. -/
import Derived.Test.YtccncojidkdddaaRefFind
import Derived.Deep.RegionHeld3
namespace Go.Proofs.Ytccncojidkdddaa
open Go.RowKit
set_option linter.unusedVariables false

set_option maxHeartbeats 2000000 in
theorem count11_err (vars : Int) (a : Option Addr) (n cap : Nat) (cs : List (List Int)) (w : World) (hn : cs.length = n) (hc : Cls w a cs) (ht : ¬ Tru.taken vars cs = 0) :
    Calls Try.prog 11 #[.agg #[.int .i64 vars, .slice a n cap]] w fun e w' => e = .returned (.tuple #[.int .i64 0, .int .i64 (Tru.taken vars cs)]) ∧ Below w.heap.size w w' := by
  have C := hid (taken24 vars a n cap cs (w.alloc (.cells #[.int .i64 vars, .slice a n cap] 24)) hn (hc.below (below_box _ _)))
  generalize Tru.taken vars cs = t at ht C
  clear hc hn
  go_enter Try.func11, Try.ntmps11
  go_wp2_with (go_at_call 24; refine C.out.mono ?_; clear C; rintro e W2 ⟨rfl, hb⟩; have far := hid (show Far w (.int .i64 vars) (.slice a n cap) W2 from hb); clear hb)
  go_ret2
  exact ⟨rfl, far.out.below⟩

set_option maxRecDepth 100000 in
set_option maxHeartbeats 4000000 in
theorem count11 (u : Nat) (a : Option Addr) (n cap : Nat) (cs : List (List Int)) (w : World) (hn : cs.length = n) (hc : Cls w a cs) (ht : Tru.taken u cs = 0) (hu : u ≤ 16) (hN : n ≤ 1048576) (hL : cs.flatten.length ≤ 16777216) :
    Calls Try.prog 11 #[.agg #[.int .i64 u, .slice a n cap]] w fun e w' => e = .returned (.tuple #[.int .i64 (Tru.count cs u (2 ^ u)), .int .i64 0]) ∧ Below w.heap.size w w' := by
  have C := hid (taken24 u a n cap cs (w.alloc (.cells #[.int .i64 u, .slice a n cap] 24)) hn (hc.below (below_box _ _)))
  rw [ht] at C
  obtain ⟨hpw, hp2⟩ := pow16 u hu
  have HL := hid (clause_bnd (w := w) (a := a) hL)
  have HC := hid hc
  have HN := hid hn
  have HNN := hid hN
  have HU := hid hu
  generalize hP : 2 ^ u = P at hpw hp2
  have HP := hid hP
  clear hc hn ht hN hL hu hP
  go_enter Try.func11, Try.ntmps11
  go_wp2_with (go_at_call 24; refine C.out.mono ?_; clear C; rintro e W2 ⟨rfl, hb⟩; have far := hid (show Far w (.int .i64 u) (.slice a n cap) W2 from hb); clear hb)
  go_loopw [5, 6] (fun c i wr => ∃ (j q : Nat), j ≤ P ∧ i = .int .i64 j ∧ c = .int .i64 q ∧ Hid (q = Tru.count cs u j) ∧ q ≤ j ∧ Hid (Far w (.int .i64 u) (.slice a n cap) wr)) (fun _ i _ => P - (intOf i).toNat)
  case atStart => exact ⟨0, 0, Nat.zero_le _, rfl, rfl, hid rfl, Nat.le_refl _, far⟩
  case round =>
    clear far
    obtain ⟨j, q, hj, rfl, rfl, HQ, hq, far⟩ := hrel
    have x0 := far.out.c0
    have x1 := far.out.c1
    by_cases hlt : j < P
    · have hlt' : (j : Int) < P := by omega
      obtain ⟨b, hb⟩ : ∃ b, Tru.sat cs u j = b := ⟨_, rfl⟩
      have HSJ := hid (show Tru.count cs u (j + 1) = Tru.count cs u j + (if b then 1 else 0) by rw [Tru.count, hb])
      have S1 : ∀ W, Below wr.heap.size wr W → W.cell? ⟨w.heap.size, 0, none⟩ = some (.int .i64 u) ∧ W.cell? ⟨w.heap.size, 1, none⟩ = some (.slice a n cap) ∧ Below wr.heap.size wr W := fun W hW => ⟨(far.out.on hW).c0, (far.out.on hW).c1, hW⟩
      have C25 := hid (fun (W : World) (hW : Below wr.heap.size wr W) => (model25 j u W (by omega) HU.out).mono (R' := fun e w' => ∃ a4 cap4, e = .returned (.slice a4 u cap4) ∧ Bools w' a4 (Tru.model u j) ∧ w'.cell? ⟨w.heap.size, 0, none⟩ = some (.int .i64 u) ∧ w'.cell? ⟨w.heap.size, 1, none⟩ = some (.slice a n cap) ∧ Below wr.heap.size wr w') fun e w' h => by
        obtain ⟨⟨a4, cap4, he, hb4⟩, hw⟩ := h
        exact ⟨a4, cap4, he, hb4, S1 w' (hW.trans (hw.mono hW.size))⟩)
      have C26 := hid (fun (W : World) (a4 : Option Addr) (cap4 : Nat) (hb4 : Bools W a4 (Tru.model u j)) (hW : Below wr.heap.size wr W) => (holds26 u a a4 n cap u cap4 cs (Tru.model u j) W HN.out (by have := HNN.out; omega) (Tru.model_len u j) (by have := HU.out; omega) HL.out (HC.out.below (far.out.on hW).below) hb4).mono (R' := fun e w' => e = .returned (.bool b) ∧ w'.cell? ⟨w.heap.size, 0, none⟩ = some (.int .i64 u) ∧ w'.cell? ⟨w.heap.size, 1, none⟩ = some (.slice a n cap) ∧ Below wr.heap.size wr w') fun e w' h => ⟨by rw [h.1, show Cnf.holds cs (Tru.model u j) = b from hb], S1 w' (hW.trans (h.2.mono hW.size))⟩)
      have kk := S1 wr.drew (Below.refl _ _).drew
      have KK := hid kk
      clear kk S1 hb
      go_wp2
      go_region_held3 (fun W => W.cell? ⟨w.heap.size, 0, none⟩ = some (.int .i64 u) ∧ W.cell? ⟨w.heap.size, 1, none⟩ = some (.slice a n cap) ∧ Below wr.heap.size wr W)
        (first | exact KK.out | exact ⟨z0, z1, hb9⟩ | exact ⟨y0, y1, hb8⟩)
        (first
          | (go_at_call 25; refine (C25.out _ ?_).mono ?_; exact (Below.refl _ _).drew; rintro e w8 ⟨a4, cap4, rfl, hbo, y0, y1, hb8⟩)
          | (go_at_call 26; refine (C26.out _ _ _ hbo hb8).mono ?_; rintro e w9 ⟨rfl, z0, z1, hb9⟩))
      all_goals
        have far9 := hid (far.out.on hb9)
        clear hbo hb8 hb9 y0 y1 z0 z1 KK C25 C26
        cases b
        · go_wp2
          go_roundw
          case rel => exact ⟨j + 1, q, by omega, by go_num, rfl, hid (by rw [HSJ.out, HQ.out]; rfl), by omega, far9⟩
          case measure => simp [intOf]; omega
        · go_wp2
          go_roundw
          case rel => exact ⟨j + 1, q + 1, by omega, by go_num, by go_num, hid (by rw [HSJ.out, HQ.out]; rfl), by omega, far9⟩
          case measure => simp [intOf]; omega
    · have hge : ¬ (j : Int) < P := by omega
      obtain rfl : j = P := by omega
      go_wp2
      go_ret2
      exact ⟨by rw [← HQ.out]; rfl, far.out.below⟩
end Go.Proofs.Ytccncojidkdddaa
