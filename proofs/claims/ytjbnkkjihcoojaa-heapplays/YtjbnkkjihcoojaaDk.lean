/- The document's heap: push, remove, pop. -/
import Derived.Test.YtjbnkkjihcoojaaDj
namespace Go.Proofs.Ytjbnkkjihcoojaa
open Go.RowKit Go.Maps
set_option linter.unusedVariables false
set_option maxRecDepth 100000

theorem mem_iff_int {L : List Nat} {u : Nat} : (∃ x ∈ L, (x : Int) + 1 = (u : Int) + 1) ↔ u ∈ L := by
  constructor
  · rintro ⟨x, hx, e⟩
    obtain rfl : x = u := by omega
    exact hx
  · intro h; exact ⟨u, h, rfl⟩
theorem push35_no {M : Nat → Prop} {mb n : Nat} {sc : List Int} {L : List Nat} {W : World} (H : Dx M mb n sc L W) (v : Int) (hv : v < 1 ∨ (n : Int) < v) :
    Calls Try.prog 35 #[.pointer (some ⟨mb, 0, none⟩), .int .i64 v] W fun e w' => e = .returned (.int .i64 2) ∧ w' = W := by
  have C := hid (is49_no H v hv)
  clear H hv
  go_enter Try.func35, Try.ntmps35
  go_wp2_with (go_at_call 49; refine C.out.mono ?_; rintro e w4 ⟨rfl, hw4⟩; rw [hw4]; clear hw4)
  go_ret
  exact ⟨rfl, rfl⟩
theorem push35_in {M : Nat → Prop} {mb n : Nat} {sc : List Int} {L : List Nat} {W : World} (H : Dx M mb n sc L W) {u : Nat} (hu : u < n) (hm : u ∈ L) :
    Calls Try.prog 35 #[.pointer (some ⟨mb, 0, none⟩), .int .i64 ((u : Int) + 1)] W fun e w' => e = .returned (.int .i64 6) ∧ w' = W := by
  have C := hid (is49_ok H hu)
  have C2 := hid (has37 H ((u : Int) + 1) true ⟨fun _ => mem_iff_int.2 hm, fun _ => rfl⟩)
  clear H
  go_enter Try.func35, Try.ntmps35
  go_wp2_with (first
    | (go_at_call 49; refine C.out.mono ?_; rintro e w4 ⟨rfl, hw4⟩; rw [hw4]; clear hw4)
    | (go_at_call 37; refine C2.out.mono ?_; rintro e w4 ⟨rfl, hw4⟩; rw [hw4]; clear hw4))
  go_ret
  exact ⟨rfl, rfl⟩
theorem push35_ok {M : Nat → Prop} {mb n : Nat} {sc : List Int} {L : List Nat} {W : World} (H : Dx M mb n sc L W) (hs : Hpp.Srt sc L) {u : Nat} (hu : u < n) (hm : u ∉ L) :
    Calls Try.prog 35 #[.pointer (some ⟨mb, 0, none⟩), .int .i64 ((u : Int) + 1)] W fun e w' => e = .returned (.int .i64 0) ∧ DxO M mb n sc (Hpp.ins sc u L) W w' := by
  have C := hid (is49_ok H hu)
  have C2 := hid (has37 H ((u : Int) + 1) false ⟨fun h => absurd h (by decide), fun h => absurd (mem_iff_int.1 h) hm⟩)
  have C3 := hid (put50 H hs hu hm)
  clear H hs
  go_enter Try.func35, Try.ntmps35
  go_wp2_with (first
    | (go_at_call 49; refine C.out.mono ?_; rintro e w4 ⟨rfl, hw4⟩; rw [hw4]; clear hw4)
    | (go_at_call 37; refine C2.out.mono ?_; rintro e w4 ⟨rfl, hw4⟩; rw [hw4]; clear hw4)
    | (go_at_call 50; refine C3.out.mono ?_; rintro e w4 ⟨rfl, hw4⟩; have HW := hid hw4; clear hw4))
  go_ret
  exact ⟨rfl, HW.out⟩
theorem remove33_no {M : Nat → Prop} {mb n : Nat} {sc : List Int} {L : List Nat} {W : World} (H : Dx M mb n sc L W) (v : Int) (hv : v < 1 ∨ (n : Int) < v) :
    Calls Try.prog 33 #[.pointer (some ⟨mb, 0, none⟩), .int .i64 v] W fun e w' => e = .returned (.int .i64 2) ∧ w' = W := by
  have C := hid (is49_no H v hv)
  clear H hv
  go_enter Try.func33, Try.ntmps33
  go_wp2_with (go_at_call 49; refine C.out.mono ?_; rintro e w4 ⟨rfl, hw4⟩; rw [hw4]; clear hw4)
  go_ret
  exact ⟨rfl, rfl⟩
theorem remove33_out {M : Nat → Prop} {mb n : Nat} {sc : List Int} {L : List Nat} {W : World} (H : Dx M mb n sc L W) {u : Nat} (hu : u < n) (hm : u ∉ L) :
    Calls Try.prog 33 #[.pointer (some ⟨mb, 0, none⟩), .int .i64 ((u : Int) + 1)] W fun e w' => e = .returned (.int .i64 5) ∧ w' = W := by
  have C := hid (is49_ok H hu)
  have C2 := hid (has37 H ((u : Int) + 1) false ⟨fun h => absurd h (by decide), fun h => absurd (mem_iff_int.1 h) hm⟩)
  clear H
  go_enter Try.func33, Try.ntmps33
  go_wp2_with (first
    | (go_at_call 49; refine C.out.mono ?_; rintro e w4 ⟨rfl, hw4⟩; rw [hw4]; clear hw4)
    | (go_at_call 37; refine C2.out.mono ?_; rintro e w4 ⟨rfl, hw4⟩; rw [hw4]; clear hw4))
  go_ret
  exact ⟨rfl, rfl⟩
set_option maxHeartbeats 4000000 in
theorem remove33_ok {M : Nat → Prop} {mb n : Nat} {sc : List Int} {L : List Nat} {W : World} (H : Dx M mb n sc L W) {u : Nat} (hu : u < n) (hm : u ∈ L) :
    Calls Try.prog 33 #[.pointer (some ⟨mb, 0, none⟩), .int .i64 ((u : Int) + 1)] W fun e w' => e = .returned (.int .i64 0) ∧ DxO M mb n sc (L.erase u) W w' := by
  have C := hid (is49_ok H hu)
  have C2 := hid (has37 H ((u : Int) + 1) true ⟨fun _ => mem_iff_int.2 hm, fun _ => rfl⟩)
  obtain ⟨gs, cs, o, c, c0, c1, hc, ho, hni⟩ := H.cells
  have h0 : 0 < L.length := List.length_pos_of_mem hm
  obtain ⟨g, c', e, q⟩ := own_at ho h0
  obtain ⟨t, ht⟩ : ∃ t, L.length = t := ⟨_, rfl⟩
  rw [ht] at c1 e
  injection e with e1 e2 e3
  subst e1 e3
  have hlen : t ≤ 1048576 := by have := nodup_len n L H.gx.nd H.gx.lt; have := H.gx.mx; omega
  have HLN := hid hlen
  have HT := hid ht
  have HH := hid H
  have HQ := hid (fun (w : World) (hb : Below W.heap.size W w) (j : Nat) (hj : j < t) => show w.cell? ⟨g, j, none⟩ = some (.int .i64 ((L.getD j 0 : Nat) + 1 : Int)) from (hb.cell (p := ⟨g, j, none⟩) (cell_lt (q j (by omega)))).trans (q j (by omega)))
  have HC1 := hid (fun (w : World) (hb : Below W.heap.size W w) => show w.cell? ⟨mb, 1, none⟩ = some (.slice (some ⟨g, 0, none⟩) t c) from (hb.cell (p := ⟨mb, 1, none⟩) (cell_lt c1)).trans c1)
  have HFZ := hid (fun (w : World) (hb : Below W.heap.size W w) => show w.frozen? ⟨mb, 1, none⟩ = false from by
    obtain ⟨sv, lv, h1, h2⟩ := H
    exact row_frozen ((hb.block _ (lt_of_blk h1.blk)).trans h1.blk) 1)
  have HWE := hid (wot_erase H.gx.nd u)
  clear H hc ho hni c0 q h0 hlen hm hu c1
  go_enter Try.func33, Try.ntmps33
  go_wp2_with (first
    | (go_at_call 49; refine C.out.mono ?_; rintro e w4 ⟨rfl, hw4⟩; rw [hw4]; clear hw4)
    | (go_at_call 37; refine C2.out.mono ?_; rintro e w4 ⟨rfl, hw4⟩; rw [hw4]; clear hw4))
  go_loopw [5, 6] (fun ov i wr => ∃ (k x : Nat), k ≤ t ∧ x ≤ k ∧ i = .int .i64 (k : Nat) ∧ Hid (wr.ownsRow W.heap.size 3 1 ov x (ivs (Hpp.wot (L.take k) ((u : Int) + 1))) ∧ Below W.heap.size W wr ∧ (x = 0 → ov = .slice none 0 0))) (fun _ i _ => t - (intOf i).toNat)
  case atStart => exact ⟨0, 0, Nat.zero_le _, Nat.le_refl _, rfl, hid ⟨World.ownsRow_nil _ _ _ _, Below.refl _ _, fun _ => rfl⟩⟩
  case round =>
    obtain ⟨k, x, hk, hx, rfl, HR⟩ := hrel
    have c1 := HC1.out _ HR.out.2.1
    obtain ⟨oo, cc, hoo⟩ := own_slc HR.out.1
    by_cases hlt : k < t
    · have hlt' : (k : Int) < t := by omega
      have hk1 : wrap64 ((k : Int) + 1) = (k : Int) + 1 := by have := HLN.out; unfold wrap64; omega
      have x1 := HQ.out _ HR.out.2.1 k hlt
      have HTK := hid (Hpp.wot_take (L := L) (v := (u : Int) + 1) (by rw [HT.out]; exact hlt))
      by_cases hv : ((L.getD k 0 : Nat) : Int) + 1 = (u : Int) + 1
      · have HN := hid (show _ ∧ _ ∧ _ from by have := HR.out; rw [← if_pos (c := ((L.getD k 0 : Nat) : Int) + 1 = (u : Int) + 1) (t := Hpp.wot (L.take k) ((u : Int) + 1)) (e := Hpp.wot (L.take k) ((u : Int) + 1) ++ [L.getD k 0]) hv, ← HTK.out, hoo] at this; exact this)
        have hb : ((((L.getD k 0 : Nat) : Int) + 1) != ((u : Int) + 1)) = false := by rw [hv]; exact bne_self_eq_false _
        generalize ((L.getD k 0 : Nat) : Int) + 1 = z at x1 hb
        clear hv HTK HR
        subst hoo
        go_wp2
        simp only [hk1]
        go_roundw
        case rel => exact ⟨k + 1, x, hlt, by omega, rfl, HN⟩
        case measure => simp only [intOf]; exact measD hlt
      · obtain ⟨g2, c9, X, hr, ho, hbl⟩ := app3 HR.out.1 HR.out.2.1.size (L.getD k 0) (by have := HLN.out; omega)
        have HN := hid (show X.ownsRow W.heap.size 3 1 (.slice (some ⟨g2, 0, none⟩) (x + 1) c9) (x + 1) (ivs (Hpp.wot (L.take (k + 1)) ((u : Int) + 1))) ∧ Below W.heap.size W X ∧ (x + 1 = 0 → Value.slice (some ⟨g2, 0, none⟩) (x + 1) c9 = .slice none 0 0) from ⟨by rw [HTK.out, if_neg hv]; exact ho, HR.out.2.1.trans hbl, fun e => by omega⟩)
        have hb : ((((L.getD k 0 : Nat) : Int) + 1) != ((u : Int) + 1)) = true := by rw [bne_iff_ne]; exact hv
        rw [hoo] at hr
        have HRN := hid hr
        generalize ((L.getD k 0 : Nat) : Int) + 1 = z at x1 hb HRN
        clear hv HTK HR hr ho hbl
        subst hoo
        go_wp2_with (at_builtin; refine wpList_append_run rfl (.tmp 35) (.tmp 43) 42 42 rfl rfl rfl HRN.out ?_)
        simp only [hk1]
        go_roundw
        case rel => exact ⟨k + 1, x + 1, hlt, by omega, rfl, HN⟩
        case measure => simp only [intOf]; exact measD hlt
    · have hge : ¬ (k : Int) < t := by omega
      have hfz := HFZ.out _ HR.out.2.1
      have HO := hid (show DxO M mb n sc (L.erase u) W (World.setCell _ ⟨mb, 1, none⟩ (.slice oo x cc)) from by
        have h1 := HR.out.1
        rw [hoo, List.take_of_length_le (by rw [HT.out]; omega), HWE.out] at h1
        have hl := ivs_len h1
        refine HH.out.setL HR.out.2.1 h1 (fun e => by rw [e] at hl; rw [← hoo]; exact HR.out.2.2 (by simpa using hl.symm)) ⟨HH.out.gx.mx, HH.out.gx.len, HH.out.gx.nd.sublist List.erase_sublist, fun y hy => HH.out.gx.lt y (List.mem_of_mem_erase hy), HH.out.gx.bd⟩)
      subst hoo
      clear HR
      go_wp2
      go_ret
      exact ⟨rfl, HO.out⟩
theorem pop32_no {M : Nat → Prop} {mb n : Nat} {sc : List Int} {W : World} (H : Dx M mb n sc [] W) :
    Calls Try.prog 32 #[.pointer (some ⟨mb, 0, none⟩)] W fun e w' => e = .returned (.tuple #[.int .i64 0, .bool false]) ∧ w' = W := by
  have C := hid (top36_no H)
  clear H
  go_enter Try.func32, Try.ntmps32
  go_wp2_with (go_at_call 36; refine C.out.mono ?_; rintro e w4 ⟨rfl, hw4⟩; rw [hw4]; clear hw4)
  go_ret2
  exact ⟨rfl, rfl⟩
theorem pop32_ok {M : Nat → Prop} {mb n u : Nat} {sc : List Int} {L : List Nat} {W : World} (H : Dx M mb n sc (u :: L) W) :
    Calls Try.prog 32 #[.pointer (some ⟨mb, 0, none⟩)] W fun e w' => e = .returned (.tuple #[.int .i64 ((u : Int) + 1), .bool true]) ∧ DxO M mb n sc L W w' := by
  have C := hid (top36_ok H)
  have C2 := hid (remove33_ok H (H.gx.lt u (.head _)) (.head _))
  rw [List.erase_cons_head] at C2
  clear H
  go_enter Try.func32, Try.ntmps32
  go_wp2_with (first
    | (go_at_call 36; refine C.out.mono ?_; rintro e w4 ⟨rfl, hw4⟩; rw [hw4]; clear hw4)
    | (go_at_call 33; refine C2.out.mono ?_; rintro e w4 ⟨rfl, hw4⟩; have HW := hid hw4; clear hw4))
  go_ret2
  exact ⟨rfl, HW.out⟩
end Go.Proofs.Ytjbnkkjihcoojaa
