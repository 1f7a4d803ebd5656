/- A step that is no addition read, by the document. -/
import Derived.Test.YtmgeoeajnpnadaaROne
namespace Go.Proofs.Ytmgeoeajnpnadaa
open Go.RowKit
set_option linter.unusedVariables false
set_option linter.unusedSimpArgs false

set_option maxRecDepth 100000 in
set_option maxHeartbeats 8000000 in
theorem one27_not (b off rn rc : Nat) (bs : List Int) (pos : Nat) (w : World) (hn : bs.length = rn) (hz : rn ≤ 1000000) (hR : Bts w (some ⟨b, off, none⟩) bs) (hp : pos < rn) (hno0 : bs.getD pos 0 ≠ 97) :
    Calls Try.prog 27 #[.slice (some ⟨b, off, none⟩) rn rc, .int .i64 (pos : Int)] w fun e w' => ROneOut w bs pos e w' := by
  obtain ⟨b', off', eq0, _, hc, hc1, hc2⟩ := hR.at (j := pos) (by omega)
  cases eq0
  have hdr : bs.drop pos = bs.getD pos 0 :: bs.drop (pos + 1) := by
    have : pos < bs.length := by omega
    rw [List.drop_eq_getElem_cons this]
    simp [List.getD, List.getElem?_eq_getElem this]
  have hbd := hR.byt.drop pos
  rw [hdr] at hbd
  have hno := hno0
  clear hno0
  generalize bs.getD pos 0 = y at hc hc1 hc2 hdr hbd hno
  obtain ⟨V, hV⟩ : ∃ V, (w.alloc (.cells #[.int .u8 0, .int .i64 0, .slice none 0 0, .slice none 0 0] 43)).alloc (.cells #[.int .u8 1, .int .i64 0, .slice none 0 0, .slice none 0 0] 43) = V := ⟨_, rfl⟩
  have hb1 : Below w.heap.size w V := by rw [← hV]; exact ((Below.refl _ w).alloc (Nat.le_refl _) _).alloc (by simp) _
  have hS0 : SX w V 1 0 [] [] [] (.slice none 0 0) (.slice none 0 0) (.slice none 0 0) := by
    refine ⟨?_, World.ownsRow_nil _ _ _ _, World.ownsRow_nil _ _ _ _, World.ownsRow_nil _ _ _ _, ?_, hb1⟩
    · rw [← hV, heap_alloc_at, if_pos (by simp)]
    · rw [← hV, heap_alloc_at, if_neg (by simp), heap_alloc_at, if_pos rfl]
  obtain ⟨V2, hV2⟩ : ∃ V2, ((V.setCell ⟨w.heap.size + 1, 1, none⟩ (.int .i64 0)).setCell ⟨w.heap.size + 1, 2, none⟩ (.slice none 0 0)).setCell ⟨w.heap.size + 1, 3, none⟩ (.slice none 0 0) = V2 := ⟨_, rfl⟩
  have hS : SX w V2 1 0 [] [] [] (.slice none 0 0) (.slice none 0 0) (.slice none 0 0) := by
    rw [← hV2]
    exact ((hS0.ids 0).nolits).hints (hs' := []) (World.ownsRow_nil _ _ _ _)
  have u1 := row_cell hS0.bx 1
  have u2 := row_cell hS0.bx 2
  have u3 := row_cell hS0.bx 3
  simp only [List.getElem?_toArray, List.getElem?_cons_zero, List.getElem?_cons_succ] at u1 u2 u3
  have uf1 := row_frozen hS0.bx 1
  have uf2 := row_frozen hS0.bx 2
  have uf3 := row_frozen hS0.bx 3
  have hb1 := hS.bw
  have hcV : V2.cell? ⟨b, off + pos, none⟩ = some (.int .u8 y) := (World.cell?_of_block (w := w) (a := ⟨b, off + pos, none⟩) (hb1.block b (cell_lt hc))).trans hc
  have hpl : (pos : Int) < rn := by omega
  have hpr : (rn : Int) ≤ 1000000 := by omega
  have HDR := hid hdr
  have HBD := hid hbd
  have HB1 := hid hb1
  have HS := hid hS
  have HR := hid hR
  have hR' := hid (fun (p : Nat) => hR.byt.drop p)
  have HN := hid hn
  obtain ⟨⟨r0, r1, r2, r3⟩, ⟨rf0, rf1, rf2, rf3⟩, ⟨x0, x1, x2, x3⟩, ⟨xf0, xf1, xf2, xf3⟩⟩ := hS.facts
  clear hdr hbd hb1 hc hS hS0 hR hn
  by_cases h100 : y = 100
  · subst h100
    obtain ⟨V3, hV3⟩ : ∃ V3, V2.setCell ⟨w.heap.size + 1, 0, none⟩ (.int .u8 2) = V3 := ⟨_, rfl⟩
    have hS3 := HS.out.kind 2
    rw [hV3] at hS3
    have hbt := HBD.out.tail
    have HPC := hid (show ((pos + 1 : Nat) : Int) = (pos : Int) + 1 by push_cast; rfl)
    cases hnum : Bin.numR (bs.drop (pos + 1)) with
    | none =>
      have K49 := hid (get_bad (some ⟨b, off, none⟩) rn rc bs (pos + 1) V3 HN.out hz (HR.out.below hS3.bw) (by omega) hnum)
      rw [HPC.out] at K49
      have HST := hid (show Bin.stepR (bs.drop pos) = none by
        rw [HDR.out]
        cases hst : Bin.stepR (100 :: bs.drop (pos + 1)) with
        | none => rfl
        | some q =>
          obtain ⟨_, _, r0, h0, _⟩ := Bin.stepR_del HBD.out hst
          rw [hnum] at h0; cases h0)
      obtain ⟨⟨q0, q1, q2, q3⟩, ⟨qf0, qf1, qf2, qf3⟩, _, _⟩ := hS3.facts
      have HS3 := hid hS3
      clear hnum hbt hS3
      go_enter Try.func27, Try.ntmps27
      go_wp2_with (go_at_call 49; refine K49.out.mono ?_; clear K49; rintro e W ⟨rfl, rfl⟩)
      refine bodyPost_ret (results_cell_tmp22 rfl _ _ rfl (load_row43 _ (heap_set_row (heap_set_row (heap_set_row (heap_set_row HS3.out.r0 _) _) _) _))) rfl ?_
      exact .inl ⟨HST.out, ⟨0, 0, none, 0, 0, none, 0, 0, 0, rfl⟩, told_below HS3.out.bw _ _ _ _⟩
    | some q =>
      obtain ⟨n, r⟩ := q
      obtain ⟨p2, hr2, hp2, hp3, k49⟩ := get_good (some ⟨b, off, none⟩) rn rc bs (pos + 1) V3 HN.out hz (HR.out.below hS3.bw) (by omega) hnum
      rw [HPC.out] at k49
      have K49 := hid k49
      obtain ⟨V4, hV4⟩ : ∃ V4, V3.setCell ⟨w.heap.size + 1, 1, none⟩ (.int .i64 n) = V4 := ⟨_, rfl⟩
      have hS4 := hS3.ids n
      rw [hV4] at hS4
      subst hr2
      obtain ⟨_, _, ⟨z0, z1, z2, z3⟩, ⟨zf0, zf1, zf2, zf3⟩⟩ := hS3.facts
      obtain ⟨_, _, ⟨y0, y1, y2, y3⟩, ⟨yf0, yf1, yf2, yf3⟩⟩ := hS4.facts
      have hnb := Bin.numR_back hbt hnum
      cases hrow : Bin.rowF Bin.any (bs.drop p2) with
      | none =>
        have K50 := hid (row_bad (some ⟨b, off, none⟩) rn rc bs p2 V4 HN.out hz (HR.out.below hS4.bw) hp3 hrow)
        have HST := hid (show Bin.stepR (bs.drop pos) = none by
          rw [HDR.out]
          cases hst : Bin.stepR (100 :: bs.drop (pos + 1)) with
          | none => rfl
          | some q =>
            obtain ⟨_, _, r0, h0, h1, _⟩ := Bin.stepR_del HBD.out hst
            rw [hnum] at h0; cases h0
            rw [hrow] at h1; cases h1)
        have HS4 := hid hS4
        clear hnum hbt hS3 hS4 hrow hnb k49
        go_enter Try.func27, Try.ntmps27
        go_wp2_with (first
          | (go_at_call 49; refine K49.out.mono ?_; clear K49; rintro e W ⟨rfl, rfl⟩)
          | (go_at_call 50; refine K50.out.mono ?_; clear K50; rintro e W5 ⟨rfl, hb5⟩
             have hS5 := HS4.out.below hb5
             obtain ⟨_, _, _, ⟨wf0, wf1, wf2, wf3⟩⟩ := hS5.facts
             obtain ⟨_, _, ⟨w0, w1, w2, w3⟩, _⟩ := hS5.facts
             obtain ⟨W6, hW6⟩ : ∃ W6, W5.setCell ⟨w.heap.size + 1, 3, none⟩ (.slice none 0 0) = W6 := ⟨_, rfl⟩
             have hS6 := hS5.hints (hs' := []) (hv' := .slice none 0 0) (World.ownsRow_nil _ _ _ _)
             rw [hW6] at hS6
             obtain ⟨⟨q0, q1, q2, q3⟩, ⟨qf0, qf1, qf2, qf3⟩, ⟨m0, m1, m2, m3⟩, ⟨mf0, mf1, mf2, mf3⟩⟩ := hS6.facts
             have HS6 := hid hS6
             clear hb5 hS5 hS6))
        go_region
        go_wp2
        refine bodyPost_ret (results_cell_tmp22 rfl _ _ rfl (load_row43 _ (heap_set_row (heap_set_row (heap_set_row (heap_set_row HS6.out.r0 _) _) _) _))) rfl ?_
        exact .inl ⟨HST.out, ⟨_, _, _, _, _, _, _, _, _, rfl⟩, told_below HS6.out.bw.drew _ _ _ _⟩
      | some q =>
        obtain ⟨l, r⟩ := q
        obtain ⟨ln, hln⟩ : ∃ ln, l.length = ln := ⟨_, rfl⟩
        obtain ⟨p4, hr4, hp4, hp5, hp6, k50⟩ := row_good (some ⟨b, off, none⟩) rn rc bs p2 V4 HN.out hz (HR.out.below hS4.bw) hp3 hrow ln hln
        subst hr4
        have K50 := hid k50
        obtain ⟨_, _, hrb⟩ := Bin.rowF_back (hR'.out p2) hrow
        obtain ⟨mb, hmb⟩ : ∃ mb, Lra.may ⟨2, n, [], l⟩ = mb := ⟨_, rfl⟩
        have HF := hid (show (mb = false → Bin.stepR (bs.drop pos) = none) ∧ (mb = true → Bin.stepR (bs.drop pos) = some (⟨2, n, [], l⟩, bs.drop p4)) by
          rw [HDR.out]
          constructor
          · intro hf
            cases hst : Bin.stepR (100 :: bs.drop (pos + 1)) with
            | none => rfl
            | some q =>
              obtain ⟨⟨qk, qi, ql, qh⟩, qr⟩ := q
              obtain ⟨g1, g2, r0, h0, h1, hm⟩ := Bin.stepR_del HBD.out hst
              simp only at g1 g2 h0 h1 hm
              rw [hnum] at h0
              simp only [Option.some.injEq, Prod.mk.injEq] at h0
              obtain ⟨e1, e2⟩ := h0
              rw [← e2, hrow] at h1
              simp only [Option.some.injEq, Prod.mk.injEq] at h1
              subst g1 g2 e1
              rw [← h1.1, hmb, hf] at hm
              cases hm
          · intro ht
            exact Bin.del_some hbt hnum hrow (by rw [hmb, ht]))
        have HID := hid (show -4611686018427387903 ≤ n ∧ n ≤ 4611686018427387903 from ⟨hnb.2.1, hnb.2.2⟩)
        have HHR := hid hrb
        have HLN := hid hln
        have HS4 := hid hS4
        have HPP := hid (show pos < p4 ∧ p4 ≤ bs.length by rw [HN.out]; omega)
        have hlz : ln ≤ 1000000 := by omega
        clear hnum hbt hS3 hS4 hrow hnb k49 k50 hrb
        go_enter Try.func27, Try.ntmps27
        go_wp2_with (first
          | (go_at_call 49; refine K49.out.mono ?_; clear K49; rintro e W ⟨rfl, rfl⟩)
          | (go_at_call 50; refine K50.out.mono ?_; clear K50; rintro e W5 ⟨o5, c5, rfl, ho5, hb5⟩
             have hS5 := HS4.out.below hb5
             obtain ⟨_, _, ⟨w0, w1, w2, w3⟩, ⟨wf0, wf1, wf2, wf3⟩⟩ := hS5.facts
             obtain ⟨W6, hW6⟩ : ∃ W6, W5.setCell ⟨w.heap.size + 1, 3, none⟩ (.slice o5 ln c5) = W6 := ⟨_, rfl⟩
             have hS6 := hS5.hints (hs' := l) (hv' := .slice o5 ln c5) (by rw [HLN.out]; exact own_base ho5 (by have := HS4.out.size; omega))
             rw [hW6] at hS6
             have HS6 := hid hS6
             clear hb5 hS5 hS6 ho5))
        have hX := HS6.out
        have hst : ∀ W', Below W6.heap.size W6 W' → StpV W' none o5 ⟨2, n, [], l⟩ := fun W' hb' => by
          have h2 := own_below hX.ho hb'
          rw [HLN.out] at h2
          exact ⟨Row.nil _ _ _ _ _, own_row (by rw [HLN.out]; exact h2) (fun x hx => by have := HHR.out x hx; omega), by simp only; decide, by have := HID.out; simp only; omega, ⟨(by simp), by have h9 := HLN.out; simp only; omega⟩⟩
        have hcell : ∀ W', Below W6.heap.size W6 W' → W'.cell? ⟨w.heap.size + 1, 0, none⟩ = some (.int .u8 2) ∧ W'.cell? ⟨w.heap.size + 1, 1, none⟩ = some (.int .i64 n) ∧ W'.cell? ⟨w.heap.size + 1, 2, none⟩ = some (.slice none 0 0) ∧ W'.cell? ⟨w.heap.size + 1, 3, none⟩ = some (.slice o5 ln c5) := fun W' hb' => (hX.below hb').facts.2.2.1
        have hr : ∀ W', Below W6.heap.size W6 W' → W'.heap[w.heap.size]? = some (.cells #[.int .u8 0, .int .i64 0, .slice none 0 0, .slice none 0 0] 43 (0, 0)) := fun W' hb' => (hX.below hb').r0
        have C21 := hid (fun (W' : World) (hb' : Below W6.heap.size W6 W') => (may21 ⟨2, n, [], l⟩ none 0 o5 c5 W' (hst W' hb')).mono (R' := fun e w' => e = .returned (.bool (Lra.may ⟨2, n, [], l⟩)) ∧ Below W6.heap.size W6 w') fun e w' q => ⟨q.1, hb'.trans (q.2.mono hb'.size)⟩)
        unfold sval at C21
        simp only [HLN.out, List.length_nil] at C21
        have HCELL := hid hcell
        have HRR := hid hr
        have KK := hid (hcell W6.drew (Below.refl _ _).drew)
        rw [hmb] at C21
        clear hX hst hcell hr hmb
        have HNE := hid (show w.heap.size + 1 ≠ w.heap.size by omega)
        go_region_held3 (fun W' => W'.cell? ⟨w.heap.size + 1, 0, none⟩ = some (.int .u8 2) ∧ W'.cell? ⟨w.heap.size + 1, 1, none⟩ = some (.int .i64 n) ∧ W'.cell? ⟨w.heap.size + 1, 2, none⟩ = some (.slice none 0 0) ∧ W'.cell? ⟨w.heap.size + 1, 3, none⟩ = some (.slice o5 ln c5))
          (first | exact KK.out | exact HCELL.out _ hb8 | exact keep_step _ _ _ _ HNE.out (HCELL.out _ hb8))
          (first | (go_at_call 21; refine (C21.out _ ?_).mono ?_; (first | exact (Below.refl _ _).drew | exact hb8); rintro e w8 ⟨rfl, hb8⟩
                    have p0 := row_cell (HRR.out w8 hb8) 0
                    have p1 := row_cell (HRR.out w8 hb8) 1
                    have p2 := row_cell (HRR.out w8 hb8) 2
                    have p3 := row_cell (HRR.out w8 hb8) 3
                    simp only [List.getElem?_toArray, List.getElem?_cons_zero, List.getElem?_cons_succ] at p0 p1 p2 p3
                    have g0 := row_frozen (HRR.out w8 hb8) 0
                    have g1 := row_frozen (HRR.out w8 hb8) 1
                    have g2 := row_frozen (HRR.out w8 hb8) 2
                    have g3 := row_frozen (HRR.out w8 hb8) 3))
        go_wp2
        have hR := HRR.out w8 hb8
        have hXX := HS6.out
        have hbn : Below w.heap.size w w8 := hXX.bw.trans (hb8.mono hXX.bw.size)
        refine bodyPost_ret (results_cell_tmp22 rfl _ _ rfl (load_row43 _ (heap_set_row (heap_set_row (heap_set_row (heap_set_row hR _) _) _) _))) rfl ?_
        cases mb
        · exact .inl ⟨HF.out.1 rfl, ⟨_, _, _, _, _, _, _, _, _, rfl⟩, told_below hbn _ _ _ _⟩
        · have hL := (hXX.below hb8).lo
          have hH := (hXX.below hb8).ho
          refine .inr ⟨⟨2, n, [], l⟩, p4, none, 0, o5, c5, HF.out.2 rfl, HPP.out.1, HPP.out.2, ?_, ⟨?_, ?_⟩, told_below hbn _ _ _ _⟩
          · simp only [HLN.out, List.length_nil]; rfl
          · simp only [List.length_nil]
            exact told_own (by simpa using hL) _ _ _ _
          · simp only [HLN.out]
            have hH' := told_own hH (.int .u8 2) (.int .i64 n) (.slice none 0 0) (.slice o5 ln c5)
            rw [HLN.out] at hH'
            exact hH'
  · by_cases h97 : y = 97
    · exact absurd h97 hno
    · have h1 : (y == 100) = false := by simpa using h100
      have h2 : (y != 97) = true := by simpa using h97
      have HST := hid (show Bin.stepR (bs.drop pos) = none by rw [HDR.out, Bin.stepR, if_neg h97, if_neg h100])
      clear h100 h97
      go_enter Try.func27, Try.ntmps27
      go_wp2
      refine bodyPost_ret (results_cell_tmp22 rfl _ _ rfl (load_row43 _ (heap_set_row (heap_set_row (heap_set_row (heap_set_row HS.out.r0 _) _) _) _))) rfl ?_
      exact .inl ⟨HST.out, ⟨0, 0, none, 0, 0, none, 0, 0, 0, rfl⟩, told_below HB1.out _ _ _ _⟩
end Go.Proofs.Ytmgeoeajnpnadaa
