/- An addition read, by the document. -/
import Derived.Test.YtmgeoeajnpnadaaROne
import Derived.Test.YtmgeoeajnpnadaaAStp
namespace Go.Proofs.Ytmgeoeajnpnadaa
open Go.RowKit
set_option linter.unusedVariables false
set_option linter.unusedSimpArgs false

set_option maxRecDepth 100000 in
set_option maxHeartbeats 8000000 in
theorem one27_add (b off rn rc : Nat) (bs : List Int) (pos : Nat) (w : World) (hn : bs.length = rn) (hz : rn ≤ 1000000) (hR : Bts w (some ⟨b, off, none⟩) bs) (hp : pos < rn) (hy : bs.getD pos 0 = 97) :
    Calls Try.prog 27 #[.slice (some ⟨b, off, none⟩) rn rc, .int .i64 (pos : Int)] w fun e w' => ROneOut w bs pos e w' := by
  obtain ⟨b', off', eq0, _, hc, hc1, hc2⟩ := hR.at (j := pos) (by omega)
  cases eq0
  have hdr : bs.drop pos = bs.getD pos 0 :: bs.drop (pos + 1) := by
    have : pos < bs.length := by omega
    rw [List.drop_eq_getElem_cons this]
    simp [List.getD, List.getElem?_eq_getElem this]
  have hbd := hR.byt.drop pos
  rw [hdr] at hbd
  rw [hy] at hc hc1 hc2 hdr hbd
  clear hy
  obtain ⟨V, hV⟩ : ∃ V, (w.alloc (.cells #[.int .u8 0, .int .i64 0, .slice none 0 0, .slice none 0 0] 43)).alloc (.cells #[.int .u8 1, .int .i64 0, .slice none 0 0, .slice none 0 0] 43) = V := ⟨_, rfl⟩
  have hb1 : Below w.heap.size w V := by rw [← hV]; exact ((Below.refl _ w).alloc (Nat.le_refl _) _).alloc (by simp) _
  have hS0 : SX w V 1 0 [] [] [] (.slice none 0 0) (.slice none 0 0) (.slice none 0 0) := by
    refine ⟨?_, World.ownsRow_nil _ _ _ _, World.ownsRow_nil _ _ _ _, World.ownsRow_nil _ _ _ _, ?_, hb1⟩
    · rw [← hV, heap_alloc_at, if_pos (by simp)]
    · rw [← hV, heap_alloc_at, if_neg (by simp), heap_alloc_at, if_pos rfl]
  obtain ⟨V2, hV2⟩ : ∃ V2, ((V.setCell ⟨w.heap.size + 1, 1, none⟩ (.int .i64 0)).setCell ⟨w.heap.size + 1, 2, none⟩ (.slice none 0 0)).setCell ⟨w.heap.size + 1, 3, none⟩ (.slice none 0 0) = V2 := ⟨_, rfl⟩
  have hS : SX w V2 1 0 [] [] [] (.slice none 0 0) (.slice none 0 0) (.slice none 0 0) := by
    rw [← hV2]
    exact ((hS0.ids 0).nolits).hints (hs' := []) (World.ownsRow_nil _ _ _ _)
  have u1 := row_cell hS0.bx 1
  have u2 := row_cell hS0.bx 2
  have u3 := row_cell hS0.bx 3
  simp only [List.getElem?_toArray, List.getElem?_cons_zero, List.getElem?_cons_succ] at u1 u2 u3
  have uf1 := row_frozen hS0.bx 1
  have uf2 := row_frozen hS0.bx 2
  have uf3 := row_frozen hS0.bx 3
  have hb1 := hS.bw
  have hcV : V2.cell? ⟨b, off + pos, none⟩ = some (.int .u8 97) := (World.cell?_of_block (w := w) (a := ⟨b, off + pos, none⟩) (hb1.block b (cell_lt hc))).trans hc
  have hpl : (pos : Int) < rn := by omega
  have hpr : (rn : Int) ≤ 1000000 := by omega
  have HDR := hid hdr
  have HBD := hid hbd
  have HB1 := hid hb1
  have HS := hid hS
  have HR := hid hR
  have hR' := hid (fun (p : Nat) => hR.byt.drop p)
  have HN := hid hn
  obtain ⟨⟨r0, r1, r2, r3⟩, ⟨rf0, rf1, rf2, rf3⟩, ⟨x0, x1, x2, x3⟩, ⟨xf0, xf1, xf2, xf3⟩⟩ := hS.facts
  clear hdr hbd hb1 hc hS hS0 hR hn
  obtain ⟨V4, hV4⟩ : ∃ V4, V4 = V4 := ⟨w, rfl⟩
  clear hV4 V4
  have hbt := HBD.out.tail
  have hb1 := HS.out.bw
  have HPC := hid (show ((pos + 1 : Nat) : Int) = (pos : Int) + 1 by push_cast; rfl)
  cases hnum : Bin.numR (bs.drop (pos + 1)) with
  | none =>
    have K49 := hid (get_bad (some ⟨b, off, none⟩) rn rc bs (pos + 1) V2 HN.out hz (HR.out.below hb1) (by omega) hnum)
    rw [HPC.out] at K49
    have HST := hid (show Bin.stepR (bs.drop pos) = none by
      rw [HDR.out]
      cases hst : Bin.stepR (97 :: bs.drop (pos + 1)) with
      | none => rfl
      | some q =>
        obtain ⟨_, r0, r1, h0, _⟩ := Bin.stepR_add HBD.out hst
        rw [hnum] at h0; cases h0)
    clear hnum hbt hb1
    go_enter Try.func27, Try.ntmps27
    go_wp2_with (go_at_call 49; refine K49.out.mono ?_; clear K49; rintro e W ⟨rfl, rfl⟩)
    refine bodyPost_ret (results_cell_tmp22 rfl _ _ rfl (load_row43 _ (heap_set_row (heap_set_row (heap_set_row (heap_set_row HS.out.r0 _) _) _) _))) rfl ?_
    exact .inl ⟨HST.out, ⟨0, 0, none, 0, 0, none, 0, 0, 0, rfl⟩, told_below HS.out.bw _ _ _ _⟩
  | some q =>
    obtain ⟨n, r⟩ := q
    obtain ⟨p2, hr2, hp2, hp3, k49⟩ := get_good (some ⟨b, off, none⟩) rn rc bs (pos + 1) V2 HN.out hz (HR.out.below hb1) (by omega) hnum
    rw [HPC.out] at k49
    have K49 := hid k49
    obtain ⟨V4, hV4⟩ : ∃ V4, V2.setCell ⟨w.heap.size + 1, 1, none⟩ (.int .i64 n) = V4 := ⟨_, rfl⟩
    have hS4 := HS.out.ids n
    rw [hV4] at hS4
    subst hr2
    obtain ⟨⟨q0, q1, q2, q3⟩, ⟨qf0, qf1, qf2, qf3⟩, ⟨y0, y1, y2, y3⟩, ⟨yf0, yf1, yf2, yf3⟩⟩ := hS4.facts
    have hnb := Bin.numR_back hbt hnum
    cases hrow : Bin.rowF Bin.any (bs.drop p2) with
    | none =>
      have K50 := hid (row_bad (some ⟨b, off, none⟩) rn rc bs p2 V4 HN.out hz (HR.out.below hS4.bw) hp3 hrow)
      have HST := hid (show Bin.stepR (bs.drop pos) = none by
        rw [HDR.out]
        cases hst : Bin.stepR (97 :: bs.drop (pos + 1)) with
        | none => rfl
        | some q =>
          obtain ⟨_, r0, r1, h0, h1, _⟩ := Bin.stepR_add HBD.out hst
          rw [hnum] at h0; cases h0
          rw [hrow] at h1; cases h1)
      have HS4 := hid hS4
      clear hnum hbt hS4 hrow hnb k49 hb1
      go_enter Try.func27, Try.ntmps27
      go_wp2_with (first
        | (go_at_call 49; refine K49.out.mono ?_; clear K49; rintro e W ⟨rfl, rfl⟩)
        | (go_at_call 50; refine K50.out.mono ?_; clear K50; rintro e W5 ⟨rfl, hb5⟩
           have hS5 := HS4.out.below hb5
           obtain ⟨⟨t0, t1, t2, t3⟩, ⟨tf0, tf1, tf2, tf3⟩, _, _⟩ := hS5.facts
           have HS5 := hid hS5
           clear hb5 hS5))
      go_loopw [14] (fun iv wr => iv = .int .i64 0 ∧ wr = W5) (fun _ _ => 0)
      case atStart => exact ⟨rfl, rfl⟩
      case round =>
        obtain ⟨rfl, rfl⟩ := hrel
        go_wp2
        refine bodyPost_ret (results_cell_tmp22 rfl _ _ rfl (load_row43 _ (heap_set_row (heap_set_row (heap_set_row (heap_set_row HS5.out.r0 _) _) _) _))) rfl ?_
        exact .inl ⟨HST.out, ⟨0, 0, none, 0, 0, none, 0, 0, 0, rfl⟩, told_below HS5.out.bw _ _ _ _⟩
    | some q =>
      obtain ⟨xs, r⟩ := q
      obtain ⟨xn, hxn⟩ : ∃ xn, xs.length = xn := ⟨_, rfl⟩
      obtain ⟨p3, hr4, hp4, hp5, hp6, k50⟩ := row_good (some ⟨b, off, none⟩) rn rc bs p2 V4 HN.out hz (HR.out.below hS4.bw) hp3 hrow xn hxn
      subst hr4
      have K50 := hid k50
      obtain ⟨_, _, hxb⟩ := Bin.rowF_back (hR'.out p2) hrow
      have HXB := hid hxb
      have HXN := hid hxn
      have hxz : xn ≤ 1000000 := by omega
      have HID := hid (show -4611686018427387903 ≤ n ∧ n ≤ 4611686018427387903 from ⟨hnb.2.1, hnb.2.2⟩)
      have HADD := hid (fun (s : Lra.Stp) (q : List Int) (h : Bin.stepR (bs.drop pos) = some (s, q)) => (show s.kind = 1 ∧ s.id = n ∧ s.lits = xs ∧ Bin.rowF Bin.any (bs.drop p3) = some (s.hints, q) ∧ Lra.may s = true by
        rw [HDR.out] at h
        obtain ⟨g1, r0, r1, h0, h1, h2, hm⟩ := Bin.stepR_add HBD.out h
        rw [hnum] at h0
        simp only [Option.some.injEq, Prod.mk.injEq] at h0
        obtain ⟨e1, e2⟩ := h0
        rw [← e2, hrow] at h1
        simp only [Option.some.injEq, Prod.mk.injEq] at h1
        rw [← h1.2] at h2
        exact ⟨g1, e1.symm, h1.1.symm, h2, hm⟩))
      have HGET := hid (fun (l q : List Int) (h : Bin.rowF Bin.any (bs.drop p3) = some (l, q)) (hm : Lra.may ⟨1, n, xs, l⟩ = true) => (show Bin.stepR (bs.drop pos) = some (⟨1, n, xs, l⟩, q) by
        rw [HDR.out]; exact Bin.add_some hbt hnum hrow h hm))
      have HS4 := hid hS4
      clear hnum hbt hS4 hrow hnb k49 k50 hxb hb1
      go_enter Try.func27, Try.ntmps27
      go_wp2_with (first
        | (go_at_call 49; refine K49.out.mono ?_; clear K49; rintro e W ⟨rfl, rfl⟩)
        | (go_at_call 50; refine K50.out.mono ?_; clear K50; rintro e W5 ⟨xo, xc, rfl, ho5, hb5⟩
           have hS5 := (HS4.out.below hb5).raw (xs' := xs) (xv' := .slice xo xn xc) (by rw [HXN.out]; exact own_base ho5 (by have := HS4.out.size; omega))
           have HS5 := hid hS5
           clear hb5 hS5 ho5))
      go_loopw [14] (fun iv wr => ∃ (i : Nat) (lo : Option Addr) (lc : Nat), iv = .int .i64 i ∧ i ≤ xn ∧ Hid (SX w wr 1 n (xs.take i) [] xs (.slice lo i lc) (.slice none 0 0) (.slice xo xn xc)) ∧ Hid (∀ x ∈ xs.take i, -1048576 ≤ x ∧ x ≤ 1048576)) (fun iv _ => xn - (intOf iv).toNat)
      case atStart => exact ⟨0, none, 0, rfl, Nat.zero_le _, by simpa using HS5, hid (by simp)⟩
      case round =>
        clear HS5
        obtain ⟨i, lo, lc, rfl, hi, HSX, HLL⟩ := hrel
        have HLT := hid (show (xs.take i).length = i by rw [List.length_take, HXN.out]; omega)
        obtain ⟨⟨t0, t1, t2, t3⟩, ⟨tf0, tf1, tf2, tf3⟩, ⟨m0, m1, m2, m3⟩, ⟨mf0, mf1, mf2, mf3⟩⟩ := HSX.out.facts
        by_cases hlt : i < xn
        · have hlt' : (i : Int) < xn := by omega
          have hix : i < xs.length := by rw [HXN.out]; exact hlt
          obtain ⟨g, hg, hcx⟩ : ∃ g, xo = some ⟨g, 0, none⟩ ∧ wr.cell? ⟨g, i, none⟩ = some (.int .i64 (xs.getD i 0)) := by
            have hx := HSX.out.xo
            rcases hx.2 with ⟨_, h0⟩ | ⟨g, c, cur, e, _⟩
            · rw [HXN.out] at h0; omega
            · have e' := e
              simp only [Value.slice.injEq] at e'
              refine ⟨g, e'.1, ?_⟩
              have := hx.cells (g := g) (by rw [e]; rfl) i (.int .i64 (xs.getD i 0)) (by rw [List.getElem?_map, List.getElem?_eq_getElem hix]; simp [List.getD, List.getElem?_eq_getElem hix])
              rwa [Go.WideShapes.add_plain, Nat.zero_add] at this
          subst hg
          have HTK := hid (Lra.take_snoc xs i hix)
          have HMX := hid (Lra.getD_mem xs i hix)
          generalize xs.getD i 0 = x at hcx HTK HMX
          by_cases hx : -1048576 ≤ x ∧ x ≤ 1048576
          · obtain ⟨hx1, hx2⟩ := hx
            have hx1' : ¬ x < -1048576 := by omega
            have hx2' : ¬ (1048576 : Int) < x := by omega
            obtain ⟨o6, c6, B, r6, hB6, hS6⟩ := (HSX.out.below (Below.refl _ wr).drew).lit (by rw [HLT.out]; omega) x
            rw [HLT.out] at r6 hS6
            have HAP := hid r6
            have HS6 := hid (show SX w (B.setCell ⟨w.heap.size + 1, 2, none⟩ (.slice o6 (i + 1) c6)) 1 n (xs.take (i + 1)) [] xs (.slice o6 (i + 1) c6) (.slice none 0 0) (.slice (some ⟨g, 0, none⟩) xn xc) by rw [HTK.out]; exact hS6)
            have HL2 := hid (show ∀ x ∈ xs.take (i + 1), -1048576 ≤ x ∧ x ≤ 1048576 by
              rw [HTK.out]
              intro z hz
              rcases List.mem_append.1 hz with hz | hz
              · exact HLL.out z hz
              · simp at hz; omega)
            have k0 : B.cell? ⟨w.heap.size + 1, 2, none⟩ = some (.slice lo i lc) := by rw [row_cell (hB6.trans HSX.out.bx) 2]; rfl
            have k1 : B.frozen? ⟨w.heap.size + 1, 2, none⟩ = false := row_frozen (hB6.trans HSX.out.bx) 2
            clear r6 hS6 hB6 hx1' hx2' HTK HMX hix
            have hw32 : IntKind.i32.wrap x = x := by simp [IntKind.wrap, IntKind.bits, IntKind.signed]; omega
            have hbd := below_box wr (.cells #[.int .i32 x] 44)
            have m2a : (wr.alloc (.cells #[.int .i32 x] 44)).cell? ⟨w.heap.size + 1, 2, none⟩ = some (.slice lo i lc) := (World.cell?_of_block (w := wr) (a := ⟨w.heap.size + 1, 2, none⟩) (hbd.block _ (cell_lt m2))).trans m2
            have hcxa : (wr.alloc (.cells #[.int .i32 x] 44)).cell? ⟨g, i, none⟩ = some (.int .i64 x) := (World.cell?_of_block (w := wr) (a := ⟨g, i, none⟩) (hbd.block _ (cell_lt hcx))).trans hcx
            clear hbd
            go_wp2
            go_region_law (first
              | (refine step_append_run rfl (.tmp 74) (.tmp 80) 41 41 (by rfl) (by rfl) (by rfl) HAP.out ?_))
            all_goals
              go_wp2
              go_roundw
              case rel => exact ⟨i + 1, o6, c6, by go_num, by omega, HS6, HL2⟩
              case measure => simp [intOf]; omega
          · have HST := hid (show Bin.stepR (bs.drop pos) = none by
              cases hst : Bin.stepR (bs.drop pos) with
              | none => rfl
              | some q =>
                obtain ⟨s, q⟩ := q
                obtain ⟨_, _, h3, _, hm⟩ := HADD.out s q hst
                have := (Lra.may_fits hm).2.2.1 x (by rw [h3]; exact HMX.out)
                exact absurd this hx)
            have HS7 := hid HSX.out
            have hxx : ((1048576 : Int) < x) ∨ (¬ (1048576 : Int) < x ∧ x < -1048576) := by omega
            clear hx HTK HMX hix HADD HGET
            rcases hxx with hxx | ⟨hxx, hxy⟩
            all_goals
              go_wp2
              refine bodyPost_ret (results_cell_tmp22 rfl _ _ rfl (load_row43 _ (heap_set_row (heap_set_row (heap_set_row (heap_set_row HS7.out.r0 _) _) _) _))) rfl ?_
              exact .inl ⟨HST.out, ⟨0, 0, none, 0, 0, none, 0, 0, 0, rfl⟩, told_below HS7.out.bw _ _ _ _⟩
        · have hlt' : ¬ (i : Int) < xn := by omega
          have hie : xs.take i = xs := List.take_of_length_le (by rw [HXN.out]; omega)
          have hixn : i = xn := by omega
          subst hixn
          rw [hie] at HSX HLL
          have hbw := HSX.out.bw
          cases hrow : Bin.rowF Bin.any (bs.drop p3) with
          | none =>
            have K50 := hid (row_bad (some ⟨b, off, none⟩) rn rc bs p3 wr HN.out hz (HR.out.below hbw) hp5 hrow)
            have HST := hid (show Bin.stepR (bs.drop pos) = none by
              cases hst : Bin.stepR (bs.drop pos) with
              | none => rfl
              | some q =>
                obtain ⟨s, q⟩ := q
                obtain ⟨_, _, _, h4, _⟩ := HADD.out s q hst
                rw [hrow] at h4; cases h4)
            have HS4 := hid HSX.out
            clear hrow hbw HADD HGET HLT hie
            go_wp2_with (first
              | (go_at_call 50; refine K50.out.mono ?_; clear K50; rintro e W5 ⟨rfl, hb5⟩
                 have hS5 := HS4.out.below hb5
                 obtain ⟨_, _, ⟨w0, w1, w2, w3⟩, ⟨wf0, wf1, wf2, wf3⟩⟩ := hS5.facts
                 obtain ⟨W6, hW6⟩ : ∃ W6, W5.setCell ⟨w.heap.size + 1, 3, none⟩ (.slice none 0 0) = W6 := ⟨_, rfl⟩
                 have hS6 := hS5.hints (hs' := []) (hv' := .slice none 0 0) (World.ownsRow_nil _ _ _ _)
                 rw [hW6] at hS6
                 obtain ⟨⟨q0, q1, q2, q3⟩, ⟨qf0, qf1, qf2, qf3⟩, ⟨n0, n1, n2, n3⟩, ⟨nf0, nf1, nf2, nf3⟩⟩ := hS6.facts
                 have HS6 := hid hS6
                 clear hb5 hS5 hS6))
            go_region
            go_wp2
            refine bodyPost_ret (results_cell_tmp22 rfl _ _ rfl (load_row43 _ (heap_set_row (heap_set_row (heap_set_row (heap_set_row HS6.out.r0 _) _) _) _))) rfl ?_
            exact .inl ⟨HST.out, ⟨_, _, _, _, _, _, _, _, _, rfl⟩, told_below HS6.out.bw.drew _ _ _ _⟩
          | some q =>
            obtain ⟨l, r⟩ := q
            obtain ⟨ln, hln⟩ : ∃ ln, l.length = ln := ⟨_, rfl⟩
            obtain ⟨p4, hr4, hp7, hp8, hp9, k50⟩ := row_good (some ⟨b, off, none⟩) rn rc bs p3 wr HN.out hz (HR.out.below hbw) hp5 hrow ln hln
            subst hr4
            have K50 := hid k50
            obtain ⟨_, _, hrb⟩ := Bin.rowF_back (hR'.out p3) hrow
            obtain ⟨mb, hmb⟩ : ∃ mb, Lra.may ⟨1, n, xs, l⟩ = mb := ⟨_, rfl⟩
            have HF := hid (show (mb = false → Bin.stepR (bs.drop pos) = none) ∧ (mb = true → Bin.stepR (bs.drop pos) = some (⟨1, n, xs, l⟩, bs.drop p4)) by
              constructor
              · intro hf
                cases hst : Bin.stepR (bs.drop pos) with
                | none => rfl
                | some q =>
                  obtain ⟨⟨qk, qi, ql, qh⟩, qr⟩ := q
                  obtain ⟨g1, g2, g3, g4, hm⟩ := HADD.out _ _ hst
                  simp only at g1 g2 g3 g4
                  rw [hrow] at g4
                  simp only [Option.some.injEq, Prod.mk.injEq] at g4
                  subst g1 g2 g3
                  rw [← g4.1, hmb, hf] at hm
                  cases hm
              · intro ht
                exact HGET.out _ _ hrow (by rw [hmb, ht]))
            have HHR := hid hrb
            have HLN := hid hln
            have HS4 := hid HSX.out
            have HPP := hid (show pos < p4 ∧ p4 ≤ bs.length by rw [HN.out]; omega)
            have hlz : ln ≤ 1000000 := by omega
            clear hrow k50 hrb HADD HGET HLT hie hbw
            go_wp2_with (first
              | (go_at_call 50; refine K50.out.mono ?_; clear K50; rintro e W5 ⟨o5, c5, rfl, ho5, hb5⟩
                 have hS5 := HS4.out.below hb5
                 obtain ⟨_, _, ⟨w0, w1, w2, w3⟩, ⟨wf0, wf1, wf2, wf3⟩⟩ := hS5.facts
                 obtain ⟨W6, hW6⟩ : ∃ W6, W5.setCell ⟨w.heap.size + 1, 3, none⟩ (.slice o5 ln c5) = W6 := ⟨_, rfl⟩
                 have hS6 := hS5.hints (hs' := l) (hv' := .slice o5 ln c5) (by rw [HLN.out]; exact own_base ho5 (by have := HS4.out.size; omega))
                 rw [hW6] at hS6
                 have HS6 := hid hS6
                 clear hb5 hS5 hS6 ho5))
            have hX := HS6.out
            have hst : ∀ W', Below W6.heap.size W6 W' → StpV W' lo o5 ⟨1, n, xs, l⟩ := fun W' hb' => by
              have h2 := own_below hX.ho hb'
              rw [HLN.out] at h2
              have h1 := own_below hX.lo hb'
              rw [HXN.out] at h1
              exact ⟨own_row (by rw [HXN.out]; exact h1) (fun x hx => by have := HLL.out x hx; omega), own_row (by rw [HLN.out]; exact h2) (fun x hx => by have := HHR.out x hx; omega), by simp only; decide, by have := HID.out; simp only; omega, ⟨by have h9 := HXN.out; simp only; omega, by have h9 := HLN.out; simp only; omega⟩⟩
            have hcell : ∀ W', Below W6.heap.size W6 W' → W'.cell? ⟨w.heap.size + 1, 0, none⟩ = some (.int .u8 1) ∧ W'.cell? ⟨w.heap.size + 1, 1, none⟩ = some (.int .i64 n) ∧ W'.cell? ⟨w.heap.size + 1, 2, none⟩ = some (.slice lo i lc) ∧ W'.cell? ⟨w.heap.size + 1, 3, none⟩ = some (.slice o5 ln c5) := fun W' hb' => (hX.below hb').facts.2.2.1
            have hr : ∀ W', Below W6.heap.size W6 W' → W'.heap[w.heap.size]? = some (.cells #[.int .u8 0, .int .i64 0, .slice none 0 0, .slice none 0 0] 43 (0, 0)) := fun W' hb' => (hX.below hb').r0
            have C21 := hid (fun (W' : World) (hb' : Below W6.heap.size W6 W') => (may21 ⟨1, n, xs, l⟩ lo lc o5 c5 W' (hst W' hb')).mono (R' := fun e w' => e = .returned (.bool (Lra.may ⟨1, n, xs, l⟩)) ∧ Below W6.heap.size W6 w') fun e w' q => ⟨q.1, hb'.trans (q.2.mono hb'.size)⟩)
            unfold sval at C21
            simp only [HLN.out, HXN.out] at C21
            have HCELL := hid hcell
            have HRR := hid hr
            have KK := hid (hcell W6.drew (Below.refl _ _).drew)
            rw [hmb] at C21
            clear hX hst hcell hr hmb
            have HNE := hid (show w.heap.size + 1 ≠ w.heap.size by omega)
            go_region_held3 (fun W' => W'.cell? ⟨w.heap.size + 1, 0, none⟩ = some (.int .u8 1) ∧ W'.cell? ⟨w.heap.size + 1, 1, none⟩ = some (.int .i64 n) ∧ W'.cell? ⟨w.heap.size + 1, 2, none⟩ = some (.slice lo i lc) ∧ W'.cell? ⟨w.heap.size + 1, 3, none⟩ = some (.slice o5 ln c5))
              (first | exact KK.out | exact HCELL.out _ hb8 | exact keep_step _ _ _ _ HNE.out (HCELL.out _ hb8))
              (first | (go_at_call 21; refine (C21.out _ ?_).mono ?_; (first | exact (Below.refl _ _).drew | exact hb8); rintro e w8 ⟨rfl, hb8⟩
                        have p0 := row_cell (HRR.out w8 hb8) 0
                        have p1 := row_cell (HRR.out w8 hb8) 1
                        have p2 := row_cell (HRR.out w8 hb8) 2
                        have p3 := row_cell (HRR.out w8 hb8) 3
                        simp only [List.getElem?_toArray, List.getElem?_cons_zero, List.getElem?_cons_succ] at p0 p1 p2 p3
                        have g0 := row_frozen (HRR.out w8 hb8) 0
                        have g1 := row_frozen (HRR.out w8 hb8) 1
                        have g2 := row_frozen (HRR.out w8 hb8) 2
                        have g3 := row_frozen (HRR.out w8 hb8) 3))
            go_wp2
            have hR := HRR.out w8 hb8
            have hXX := HS6.out
            have hbn : Below w.heap.size w w8 := hXX.bw.trans (hb8.mono hXX.bw.size)
            refine bodyPost_ret (results_cell_tmp22 rfl _ _ rfl (load_row43 _ (heap_set_row (heap_set_row (heap_set_row (heap_set_row hR _) _) _) _))) rfl ?_
            cases mb
            · exact .inl ⟨HF.out.1 rfl, ⟨_, _, _, _, _, _, _, _, _, rfl⟩, told_below hbn _ _ _ _⟩
            · have hL := (hXX.below hb8).lo
              have hH := (hXX.below hb8).ho
              refine .inr ⟨⟨1, n, xs, l⟩, p4, lo, lc, o5, c5, HF.out.2 rfl, HPP.out.1, HPP.out.2, ?_, ⟨?_, ?_⟩, told_below hbn _ _ _ _⟩
              · simp only [HXN.out, HLN.out, List.length_nil]; rfl
              · simp only [HXN.out, List.length_nil]
                exact told_own (by simpa [HXN.out] using hL) _ _ _ _
              · simp only [HLN.out]
                have hH' := told_own hH (.int .u8 1) (.int .i64 n) (.slice lo i lc) (.slice o5 ln c5)
                rw [HLN.out] at hH'
                exact hH'
end Go.Proofs.Ytmgeoeajnpnadaa
