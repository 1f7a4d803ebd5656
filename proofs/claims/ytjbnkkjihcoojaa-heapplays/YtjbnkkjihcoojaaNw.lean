/- New. -/
import Derived.Test.YtjbnkkjihcoojaaRpt
import Derived.Laws.EntriesVeiled
namespace Go.Proofs.Ytjbnkkjihcoojaa
open Go.RowKit Go.Maps
set_option linter.unusedVariables false
set_option maxRecDepth 100000

def OverOut (W : World) (sv lv pv : Value) (e : Ending) (w' : World) : Prop := ∃ hb, e = .returned (.pointer (some ⟨hb, 0, none⟩)) ∧ W.heap.size ≤ hb ∧ w'.heap[hb]? = some (.cells #[sv, lv, pv, cmpv sv] 62 (0, 0)) ∧ Below W.heap.size W w'
set_option maxHeartbeats 1000000 in
theorem over28 (o o2 o3 : Option Addr) (n n2 n3 c c2 c3 : Nat) (W : World) : Calls Try.prog 28 #[.slice o n c, .agg #[.slice o2 n2 c2, .slice o3 n3 c3, .nilFunc]] W fun e w' => OverOut W (.slice o n c) (.slice o2 n2 c2) (.slice o3 n3 c3) e w' := by
  go_enter Try.func28, Try.ntmps28
  go_wp2
  go_ret
  refine ⟨W.heap.size + 1, rfl, by omega, ?_, ((Below.refl _ W).alloc (Nat.le_refl _) _).alloc (by simp) _⟩
  have := heap_alloc_new (W.alloc (.cells #[.slice o2 n2 c2, .slice o3 n3 c3, .func (.func 46) #[.slice o n c] #[]] 57)) (.cells #[.slice o n c, .slice o2 n2 c2, .slice o3 n3 c3, .func (.func 46) #[.slice o n c] #[]] 62)
  simpa using this
def zer (n : Nat) : List Int := List.replicate n 0
def NewOut (W : World) (n : Nat) (e : Ending) (w' : World) : Prop := ∃ hb, e = .returned (.tuple #[.pointer (some ⟨hb, 0, none⟩), .int .i64 0]) ∧ Hx (fun g => W.heap.size ≤ g) hb n (zer n) [] w' ∧ Below W.heap.size W w'
theorem new_fin {W w' : World} {n gs hb : Nat} {o : Option Addr} {c : Nat} (hn : n ≤ 1048576) (hS : w'.heap[gs]? = some (.cells (iss (zer n)).toArray 2 (0, 0))) (hgs : W.heap.size ≤ gs) (hP : w'.ownsRow W.heap.size 3 1 (.slice o n c) n (iss (List.replicate n (-1)))) (hhb : W.heap.size ≤ hb)
    (hblk : w'.heap[hb]? = some (.cells #[.slice (some ⟨gs, 0, none⟩) n n, .slice none 0 0, .slice o n c, cmpv (.slice (some ⟨gs, 0, none⟩) n n)] 62 (0, 0))) (hb' : Below W.heap.size W w') : NewOut W n (.returned (.tuple #[.pointer (some ⟨hb, 0, none⟩), .int .i64 0])) w' := by
  refine ⟨hb, rfl, ⟨_, _, _, [], List.replicate n (-1), ⟨fun g hg => hg.1, fun hg => hg.2 hhb, ?_, ?_, ?_, ?_, hblk, ?_, own_base hP (Nat.zero_le _), ?_⟩, ⟨hn, ?_, .refl _, ?_, .nil, ?_⟩⟩, hb'⟩
  · intro g e hq; cases e; exact hq.2 hgs
  · intro g e hq; exact hq.2 (own_blk hP e).1
  · intro g e; cases e
  · intro g e; cases e
  · exact own_mk (Nat.zero_le _) hS (Nat.le_refl _) (by unfold maxLen; omega) (by simp [iss, zer]) (by simp [iss, zer])
  · exact World.ownsRow_nil _ _ _ _
  · refine ⟨by simp, fun k hk => absurd hk (by simp), fun u hu hne => ?_⟩
    rw [List.getD_eq_getElem?_getD, List.getElem?_replicate, if_pos hu] at hne
    exact absurd rfl hne
  · intro k h1 h2 h3; exact absurd h2 (by simp)
  · intro u hu
    unfold zer
    rw [List.getD_eq_getElem?_getD, List.getElem?_replicate, if_pos hu]
    decide
theorem new_ab {W X w2 w3 : World} {n gs hb : Nat} {o : Option Addr} {c : Nat} (hn : n ≤ 1048576) (h1 : Below W.heap.size W X) (hS : X.heap[gs]? = some (.cells (iss (zer n)).toArray 2 (0, 0))) (hgs : W.heap.size ≤ gs) (h2 : Below X.heap.size X w2) (hP : w2.ownsRow X.heap.size 3 1 (.slice o n c) n (iss (List.replicate n (-1)))) (hhb : w2.heap.size ≤ hb)
    (hblk : w3.heap[hb]? = some (.cells #[.slice (some ⟨gs, 0, none⟩) n n, .slice none 0 0, .slice o n c, cmpv (.slice (some ⟨gs, 0, none⟩) n n)] 62 (0, 0))) (h3 : Below w2.heap.size w2 w3) : NewOut W n (.returned (.tuple #[.pointer (some ⟨hb, 0, none⟩), .int .i64 0])) w3 := by
  have l1 := lt_of_blk hS
  have l2 := h2.size
  have l3 := h1.size
  exact new_fin hn ((h3.block gs (by omega)).trans ((h2.block gs l1).trans hS)) hgs (own_base (own_below hP h3) l3) (by omega) hblk ((h1.trans (h2.mono l3)).trans (h3.mono (by omega)))
theorem new_c {W X w2 w3 : World} {n hb : Nat} {o : Option Addr} {c : Nat} (hn : n ≤ 1048576) (h1 : Below W.heap.size W X) (h2 : Below X.heap.size X w2) (hP : w2.ownsRow X.heap.size 3 1 (.slice o n c) n (iss (List.replicate n (-1)))) (hhb : (w2.alloc (.cells (iss (zer n)).toArray 2)).heap.size ≤ hb)
    (hblk : w3.heap[hb]? = some (.cells #[.slice (some ⟨w2.heap.size, 0, none⟩) n n, .slice none 0 0, .slice o n c, cmpv (.slice (some ⟨w2.heap.size, 0, none⟩) n n)] 62 (0, 0))) (h3 : Below (w2.alloc (.cells (iss (zer n)).toArray 2)).heap.size (w2.alloc (.cells (iss (zer n)).toArray 2)) w3) : NewOut W n (.returned (.tuple #[.pointer (some ⟨hb, 0, none⟩), .int .i64 0])) w3 := by
  have l2 := h2.size
  have l3 := h1.size
  have l4 : (w2.alloc (.cells (iss (zer n)).toArray 2)).heap.size = w2.heap.size + 1 := by simp
  have ha := below_box w2 (.cells (iss (zer n)).toArray 2)
  exact new_fin hn ((h3.block w2.heap.size (by omega)).trans (heap_alloc_new w2 _)) (by omega) (own_base (own_below (own_below hP ha) h3) l3) (by omega) hblk (((h1.trans (h2.mono l3)).trans (ha.mono (by omega))).trans (h3.mono (by omega)))
theorem made_zer (n : Nat) : madeCells (Value.int .i64 0).cells n = (iss (zer n)).toArray := by
  have hcl : (Value.int .i64 0).cells = #[Value.int .i64 0] := by rfl
  rw [hcl]
  apply Array.ext_getElem?
  intro k
  rw [madeCells, Array.getElem?_map, Array.getElem?_range]
  by_cases hk : k < n
  · rw [if_pos hk]
    simp [iss, zer, hk, Nat.mod_one]
  · rw [if_neg hk]
    simp [iss, zer, hk]
set_option maxHeartbeats 2000000 in
theorem new10 (n : Nat) (W : World) (hn : n ≤ 1048576) : Calls Try.prog 10 #[.int .i64 n] W fun e w' => NewOut W n e w' := by
  obtain ⟨i0, hi, hz⟩ := Option.map_eq_some_iff.1 info2
  simp only [Prod.mk.injEq] at hz
  have hmk := fun W => run_makeSlice (P := Try.prog) W 54 2 i0 _ Try.underlying54 hi hz.1 .i64 .i64 (n : Int) (n : Int) (by omega) (Int.le_refl _) (by rw [hz.2.1]; omega) (by rw [hz.2.2]; omega) (by omega)
  simp only [hz.2.1, Int.toNat_natCast, Nat.mul_one, made_zer] at hmk
  have h1 : ¬ (n : Int) < 0 := by omega
  have h2 : ¬ (1048576 : Int) < n := by omega
  have C29 := hid (fun (X : World) (b : Nat) (hb : b < X.heap.size ∧ X.cell? ⟨b, 0, none⟩ = some (.int .i64 (-1))) => repeat29 b n 1 X hn hb.1 hb.2)
  have C28 := hid (fun (X : World) (o : Option Addr) (c : Nat) (gs : Nat) => over28 (some ⟨gs, 0, none⟩) none o n 0 n n 0 c X)
  have S1 := hid (show W.heap.size + 1 < ((W.alloc (.cells (iss (zer n)).toArray 2)).alloc (.cells #[.int .i64 (-1)] 3)).drew.heap.size ∧ ((W.alloc (.cells (iss (zer n)).toArray 2)).alloc (.cells #[.int .i64 (-1)] 3)).drew.cell? ⟨W.heap.size + 1, 0, none⟩ = some (.int .i64 (-1)) from ⟨by simp, by simp⟩)
  have S2 := hid (show W.heap.size < ((W.alloc (.cells #[.int .i64 (-1)] 3)).alloc (.cells (iss (zer n)).toArray 2)).drew.heap.size ∧ ((W.alloc (.cells #[.int .i64 (-1)] 3)).alloc (.cells (iss (zer n)).toArray 2)).drew.cell? ⟨W.heap.size, 0, none⟩ = some (.int .i64 (-1)) from ⟨by simp; omega, by simp⟩)
  have S3 := hid (show W.heap.size < (W.alloc (.cells #[.int .i64 (-1)] 3)).drew.heap.size ∧ (W.alloc (.cells #[.int .i64 (-1)] 3)).drew.cell? ⟨W.heap.size, 0, none⟩ = some (.int .i64 (-1)) from ⟨by simp, by simp⟩)
  have HB0 := hid (show ((W.alloc (.cells #[.int .i64 (-1)] 3)).alloc (.cells (iss (zer n)).toArray 2)).drew.heap[W.heap.size + 1]? = some (.cells (iss (zer n)).toArray 2 (0, 0)) from by
    have := heap_alloc_new (W.alloc (.cells #[.int .i64 (-1)] 3)) (.cells (iss (zer n)).toArray 2)
    rw [show (W.alloc (.cells #[.int .i64 (-1)] 3)).heap.size = W.heap.size + 1 by simp] at this
    exact this)
  clear hi hz
  go_enter Try.func10, Try.ntmps10
  go_wp2_with (fail)
  go_region_law (first
    | (go_simp; go_at_call 29; refine (C29.out _ _ ?_).mono ?_; (first | exact S1.out | exact S2.out | exact S3.out); rintro e w2 ⟨o, c, rfl, hown, hb2⟩)
    | (go_simp; go_at_call 28; refine (C28.out _ _ _ _).mono ?_; rintro e w3 ⟨hb3, rfl, hle3, hblk3, hb3'⟩))
  all_goals
    first
      | (have HO := hid (new_ab (W := W) (gs := W.heap.size) hn (((Below.refl _ W).alloc (Nat.le_refl _) _).alloc (by simp) _).drew ((Below.heap_alloc _ _ _ (by simp)).trans (heap_alloc_new W _)) (Nat.le_refl _) hb2 hown hle3 hblk3 hb3'); clear hb2 hown hle3 hblk3 hb3')
      | (have HO := hid (new_ab (W := W) (gs := W.heap.size + 1) hn (((Below.refl _ W).alloc (Nat.le_refl _) _).alloc (by simp) _).drew HB0.out (by omega) hb2 hown hle3 hblk3 hb3'); clear hb2 hown hle3 hblk3 hb3')
      | (have HO := hid (new_c (W := W) hn ((Below.refl _ W).alloc (Nat.le_refl _) _).drew hb2 hown hle3 hblk3 hb3'); clear hb2 hown hle3 hblk3 hb3')
    go_wp2
    go_ret2
    exact HO.out
theorem new10_no (n : Int) (W : World) (hn : n < 0 ∨ 1048576 < n) : Calls Try.prog 10 #[.int .i64 n] W fun e w' => e = .returned (.tuple #[.pointer none, .int .i64 2]) ∧ w' = W := by
  by_cases h1 : n < 0
  · clear hn
    go_enter Try.func10, Try.ntmps10
    go_wp2
    go_ret2
    exact ⟨rfl, rfl⟩
  · have h2 : 1048576 < n := by omega
    clear hn
    go_enter Try.func10, Try.ntmps10
    go_wp2
    go_ret2
    exact ⟨rfl, rfl⟩
end Go.Proofs.Ytjbnkkjihcoojaa
