/- leave: a clause is live no longer. -/
import Derived.Test.YthpebfojkpnojaaGreatJai
/- leave: a clause is live no longer. -/
namespace Go.Proofs.YthpebfojkpnojaaGreat
open Go.RowKit Go.Maps
set_option linter.unusedVariables false
set_option linter.unusedSimpArgs false
set_option maxRecDepth 100000
theorem wrap_i64 (x : Int) : I64 (IntKind.i64.wrap x) := by
  unfold I64 IntKind.wrap
  simp [IntKind.bits, IntKind.signed]
  omega
theorem wrap64_i64 (x : Int) : I64 (wrap64 x) := by
  unfold I64 wrap64
  omega
theorem drN (w : World) (q : Nat) : Below w.heap.size w (w.drewN q) := ⟨rfl, rfl, rfl, Nat.le_refl _, fun _ _ => rfl⟩
set_option maxHeartbeats 8000000 in
theorem leave36 {M : Nat → Prop} {bb K : Nat} {s : Bas.S} {W : World} (h : Bs M bb K s W) (hL : s.last ≤ 100000000) (id : Int) (hi : I64 id) (red : Bool) (a : Option Addr) (n c : Nat) (lits : List Int) (hn : lits.length = n) (hN : n ≤ 100000000) (hl : LI M W a lits) :
    Calls Tryz.prog 78 #[.pointer (some ⟨bb, 0, none⟩), .agg #[.int .i64 id, .slice a n c, .bool red]] W fun en w' => NoteOut M bb K { s with live := Bas.delL s.live id } W en w' := by
  obtain ⟨M0, hM0⟩ : ∃ M0 : Nat → Prop, M0 = fun g => M g ∧ g < W.heap.size := ⟨_, rfl⟩
  have hc := h.cap
  rw [← hM0] at hc
  have hM0l : ∀ g, M0 g → M g ∧ g < W.heap.size := fun g hg => by rw [hM0] at hg; exact hg
  have hl0 : LI M0 W a lits := hl.cap (fun g hg => (hM0l g hg).1)
  obtain ⟨W1, hW1⟩ : ∃ W1, (W.alloc (.cells #[.int .i64 id, .slice a n c, .bool red] 83)) = W1 := ⟨_, rfl⟩
  have hb1 : Below W.heap.size W W1.drew := by rw [← hW1]; exact (below_box _ _).drew
  have hbx : W1.drew.heap[W.heap.size]? = some (.cells #[.int .i64 id, .slice a n c, .bool red] 83 (0, 0)) := by rw [← hW1]; exact heap_alloc_new _ _
  obtain ⟨bm, k, f, x3, mbm, hMp, hfin⟩ := (hc.below hb1).gone id
  obtain ⟨W2, hdel, hM2, hmt⟩ := hMp.del hi 0
  have hbmW : bm ≠ W.heap.size := fun e => by have := (hM0l bm mbm).2; omega
  have hblk : ∀ q, q < W1.drew.heap.size → q ≠ bm → W2.heap[q]? = W1.drew.heap[q]? := fun q hq hne => hmt.grown.block q hq (fun e1 => hne (by simpa using e1))
  have HB2 := hid (hfin W2 k hmt.grown.size hblk hM2 (Nat.le_refl _))
  have hbx2 := (hblk _ (lt_of_blk hbx) (fun e => hbmW e.symm)).trans hbx
  have hF12 : Fm M0 W W2 := ⟨hmt.grown.os.trans hb1.os, hmt.grown.tape.trans hb1.tape, hmt.grown.output.trans hb1.output, Nat.le_trans hb1.size hmt.grown.size, fun q hq hnm => (hblk q (Nat.lt_of_lt_of_le hq hb1.size) (fun e => hnm (e ▸ mbm))).trans (hb1.block q hq)⟩
  have HF12 := hid hF12
  have HLI := hid (hl0.fm hF12 (Mn.refl _ _))
  have HBX := hid (fun (X : World) (M' : Nat → Prop) (hF : Fm M0 W2 X) => (hF.block _ (lt_of_blk hbx2) (fun hm => by have := (hM0l _ hm).2; omega)).trans hbx2)
  have HM0 := hid hM0l
  have HW := hid (show W.heap.size < W2.heap.size from lt_of_blk hbx2)
  have HL := hid (show ({ s with live := Bas.delL s.live id } : Bas.S).last ≤ 100000000 from hL)
  have HN := hid hn
  have sh : Hid (n = 0) ∨ ∃ b off, a = some ⟨b, off, none⟩ := by
    rcases hl.1.2 with h | ⟨b, off, e, _⟩
    · left; rw [h] at hn; exact hn.symm
    · exact .inr ⟨b, off, e⟩
  have y0 : W1.drew.cell? ⟨W.heap.size, 0, none⟩ = some (.int .i64 id) := row_cell hbx 0
  have z1 : W2.cell? ⟨W.heap.size, 1, none⟩ = some (.slice a n c) := row_cell hbx2 1
  have OUT := hid (fun (X : World) (M' : Nat → Prop) (hB : Bs M' bb K { s with live := Bas.delL s.live id } X) (hF : Fm M0 W2 X) (hMn : Mn W2 M0 M') => show NoteOut M bb K { s with live := Bas.delL s.live id } W (.returned (.tuple #[])) X from ⟨rfl, M', hB, by
    have := hF12.trans hF (Mn.refl _ _)
    exact ⟨this.os, this.tape, this.output, this.size, fun q hq hnm => this.block q hq (fun hm => hnm (hM0l q hm).1)⟩, fun q hq => by
      rcases hMn q hq with h9 | h9
      · exact .inl (hM0l q h9).1
      · exact .inr (Nat.le_trans hF12.size h9)⟩)
  clear h hc hM0 hl hl0 hb1 hbx hMp hfin hmt hM2 hblk hbx2 hF12 hn hL mbm hM0l hbmW
  have y0b : W1.cell? ⟨W.heap.size, 0, none⟩ = some (.int .i64 id) := y0
  have x3b : W1.cell? ⟨bb, 3, none⟩ = some (.map (some bm)) := x3
  generalize ({ s with live := Bas.delL s.live id } : Bas.S) = s' at *
  rcases sh with Z | ⟨b, off, rfl⟩
  all_goals
    go_enter Tryz.func78, Tryz.ntmps78
    go_wp2_with fail
    go_region_law (fail)
  all_goals
    go_wp2_with fail
    clear y0 y0b x3 x3b hdel
    go_loopw [5, 6, 7, 17] (fun lv rv fv iv wr => ∃ (k2 : Nat) (M' : Nat → Prop), k2 ≤ n ∧ iv = .int .i64 k2 ∧ Hid (Bs M' bb K s' wr) ∧ Hid (Fm M0 W2 wr ∧ Mn W2 M0 M')) (fun _ _ _ iv _ => n - (intOf iv).toNat)
    case atStart => exact ⟨0, M0, Nat.zero_le _, rfl, HB2, hid ⟨Fm.refl _ _, Mn.refl _ _⟩⟩
    case round =>
      obtain ⟨k2, M', hk2, rfl, HB, HF⟩ := hrel
      by_cases hlt : k2 < n
      · first
        | (exfalso; have := Z.out; omega)
        | (have hlt' : (k2 : Int) < n := by omega
           have hkx : k2 < lits.length := by rw [HN.out]; exact hlt
           obtain ⟨b2, off2, e2, _, hc, hlo, hhi⟩ := Row.at (HLI.out.fm HF.out.1 HF.out.2).1 hkx
           cases e2
           obtain ⟨br, v, ok, x4, hlk, hcase⟩ := HB.out.rowAt HL.out (lits.getD k2 0) ⟨hlo, hhi⟩ id hi
           have hbx := HBX.out wr M' HF.out.1
           have q0 : wr.cell? ⟨W.heap.size, 0, none⟩ = some (.int .i64 id) := row_cell hbx 0
           have q0d : wr.drew.cell? ⟨W.heap.size, 0, none⟩ = some (.int .i64 id) := q0
           generalize lits.getD k2 0 = l at *
           have HBN := hid (fun q => hid (HB.out.below (drN wr q)))
           have HFN := hid (fun q => hid (And.intro (HF.out.1.trans (Fm.of_below (M := M') (drN wr q)) HF.out.2) HF.out.2))
           simp only [Hid] at HBN HFN
           rcases hcase with rfl | ⟨rfl, rb, o, cc, m, go, la, rfl, ⟨r0, r1, r2, r1f, r2f⟩, hm, hrow, hmk⟩
           · go_wp2_with fail
             go_quiet (fail)
             go_wp2
             go_roundw
             case rel => exact ⟨k2 + 1, M', by omega, by go_num, hid (HBN _), hid (HFN _)⟩
             case measure => simp [intOf]; omega
           · have hR := hid hrow
             have hMK := hid hmk
             have hX4 := hid x4
             have hQ0 := hid hbx
             clear hmk hrow hbx
             by_cases hla : la = id
             · have hlb : (la == id) = true := by simpa using hla
               go_wp2_with fail
               go_quiet (fail)
               go_wp2
               go_roundw
               case rel => exact ⟨k2 + 1, M', by omega, by go_num, hid (HBN _), hid (HFN _)⟩
               case measure => simp [intOf]; omega
             · have hlb : (la == id) = false := by simpa using hla
               go_wp2_with fail
               go_quiet (fail)
               have x0' : (wr.drewN nq).cell? ⟨W.heap.size, 0, none⟩ = some (.int .i64 id) := row_cell (W := wr.drewN nq) hQ0.out 0
               have r0' : (wr.drewN nq).cell? ⟨rb, 0, none⟩ = some (.slice o m cc) := row_cell (W := wr.drewN nq) hR.out 0
               have r1' : (wr.drewN nq).cell? ⟨rb, 1, none⟩ = some (.int .i64 go) := row_cell (W := wr.drewN nq) hR.out 1
               have r2' : (wr.drewN nq).cell? ⟨rb, 2, none⟩ = some (.int .i64 la) := row_cell (W := wr.drewN nq) hR.out 2
               have r1f' : (wr.drewN nq).frozen? ⟨rb, 1, none⟩ = false := row_frozen (W := wr.drewN nq) hR.out 1
               have r2f' : (wr.drewN nq).frozen? ⟨rb, 2, none⟩ = false := row_frozen (W := wr.drewN nq) hR.out 2
               have hR' : Hid ((wr.drewN nq).heap[rb]? = some (.cells #[.slice o m cc, .int .i64 go, .int .i64 la] 88 (0, 0))) := hR
               have hMK' := hid (fun (go' : Int) (hg : I64 go') (W2 : World) (h : MarkW (wr.drewN nq) rb (.slice o m cc) go' id W2) => hMK.out go' hg W2 ⟨h.os, h.tape, h.output, h.size, h.block, h.row⟩)
               clear x4 hlk q0 q0d r0 r1 r2 r1f r2f hR hMK hX4 hQ0 hc
               generalize wr.drewN nq = wq at *
               go_wp2_with fail
               have x0'd : wq.drew.cell? ⟨W.heap.size, 0, none⟩ = some (.int .i64 id) := x0'
               have r1'd : wq.drew.cell? ⟨rb, 1, none⟩ = some (.int .i64 go) := r1'
               have r2'd : wq.drew.cell? ⟨rb, 2, none⟩ = some (.int .i64 la) := r2'
               have r1f'd : wq.drew.frozen? ⟨rb, 1, none⟩ = false := r1f'
               have r2f'd : wq.drew.frozen? ⟨rb, 2, none⟩ = false := r2f'
               go_region
               have MW : MarkW wq rb (.slice o m cc) (wrap64 (go + 1)) id ((wq.setCell ⟨rb, 1, none⟩ (.int .i64 (wrap64 (go + 1)))).setCell ⟨rb, 2, none⟩ (.int .i64 id)).drew := ⟨rfl, rfl, rfl, by simp [World.setCell, World.drew], fun q hq => (heap_other (wq.setCell ⟨rb, 1, none⟩ (.int .i64 (wrap64 (go + 1)))) _ hq).trans (heap_other wq _ hq), heap_set_row (W := wq.setCell ⟨rb, 1, none⟩ (.int .i64 (wrap64 (go + 1)))) (heap_set_row (W := wq) hR'.out _) _⟩
               have hHR := hid hR'
               generalize HWm : ((wq.setCell ⟨rb, 1, none⟩ (.int .i64 (wrap64 (go + 1)))).setCell ⟨rb, 2, none⟩ (.int .i64 id)).drew = Wm at *
               have hg1 := wrap64_i64 (go + 1)
               have HMW := hid (fun q => show MarkW wq rb (.slice o m cc) (wrap64 (go + 1)) id (Wm.drewN q) from ⟨MW.os, MW.tape, MW.output, MW.size, MW.block, MW.row⟩)
               clear HWm
               generalize wrap64 (go + 1) = g1 at *
               have c0 : Wm.cell? ⟨rb, 0, none⟩ = some (.slice o m cc) := row_cell MW.row 0
               have c1 : Wm.cell? ⟨rb, 1, none⟩ = some (.int .i64 g1) := row_cell MW.row 1
               clear MW hR' x0' x0'd r0' r1' r2' r1'd r2'd r1f' r2f' r1f'd r2f'd HBN HFN
               obtain ⟨q, hq⟩ : ∃ q, m / 2 = q := ⟨_, rfl⟩
               have hq1 : (m : Int) / 2 = (q : Int) := by omega
               by_cases ht : g1 ≤ (q : Int)
               · go_wp2_with fail
                 go_quiet (fail)
                 obtain ⟨M2, hB2, hF2, hN2, c0', c1', hC⟩ := hMK'.out g1 hg1 _ (HMW.out nq)
                 have HB3 := hid hB2
                 have HF3 := hid (show Fm M0 W2 _ ∧ Mn W2 M0 M2 from ⟨HF.out.1.trans hF2 HF.out.2, HF.out.2.trans hN2 HF.out.1.size⟩)
                 clear hB2 hF2 hN2 hC
                 go_wp2
                 go_roundw
                 case rel => exact ⟨k2 + 1, M2, by omega, by go_num, HB3, HF3⟩
                 case measure => simp [intOf]; omega
               · go_wp2_with fail
                 go_quiet (fail)
                 obtain ⟨M2, hB2, hF2, hN2, c0', c1', hC⟩ := hMK'.out g1 hg1 _ (HMW.out nq)
                 have HB3 := hid hB2
                 have HF3 := hid (show Fm M0 W2 _ ∧ Mn W2 M0 M2 from ⟨HF.out.1.trans hF2 HF.out.2, HF.out.2.trans hN2 HF.out.1.size⟩)
                 have HC := hid hC
                 clear hB2 hF2 hN2 hC HMW c0 c1 hMK' HB HF
                 generalize Wm.drewN nq = Wx at *
                 go_wp2_with (go_at_call 94; refine HC.out.mono ?_; clear HC; rintro e W3 ⟨o3, n3, cc3, rfl, t1, t2, t3⟩
                              obtain ⟨vv, t1'⟩ := Option.ne_none_iff_exists'.1 t1
                              obtain ⟨u1, u2, t4⟩ := t3 _ rfl
                              obtain ⟨vv2, u1'⟩ := Option.ne_none_iff_exists'.1 u1
                              obtain ⟨v0, v4, M4, hB4, hF4, hN4, hd⟩ := t4 _ rfl
                              have HB4 := hid hB4
                              have HF4 := hid (show Fm M0 W2 _ ∧ Mn W2 M0 M4 from ⟨HF3.out.1.trans hF4 HF3.out.2, HF3.out.2.trans hN4 HF3.out.1.size⟩)
                              have HD := hid hd
                              clear t1 t3 u1 t4 hB4 hF4 hN4 hd
                              rcases Nat.eq_zero_or_pos n3 with rfl | hp
                              all_goals try (obtain ⟨W5, hdel5, hB5, hF5⟩ := HD.out rfl; have HB5 := hid hB5; have HF5 := hid (show Fm M0 W2 W5 ∧ Mn W2 M0 M4 from ⟨HF4.out.1.trans hF5 HF4.out.2, HF4.out.2⟩); clear hB5 hF5 HB4 HF4))
                 all_goals first
                   | exact ⟨⟨k2 + 1, M4, by omega, by go_num, HB5, HF5⟩, by simp [intOf]; omega⟩
                   | exact ⟨⟨k2 + 1, M4, by omega, by go_num, HB4, HF4⟩, by simp [intOf]; omega⟩)
      · have hge : ¬ (k2 : Int) < n := by omega
        have O := hid (OUT.out wr M' HB.out HF.out.1 HF.out.2)
        go_wp2
        refine bodyPost_end (results_none rfl _ _ _) rfl ?_
        exact O.out
end Go.Proofs.YthpebfojkpnojaaGreat

