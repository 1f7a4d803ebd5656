/- Bytes read as steps, by the program. -/
import Derived.Test.YtmgeoeajnpnadaaPar
import Derived.Shelf.Bytes.SlCountOne
namespace Go.Proofs.Ytmgeoeajnpnadaa
open Go.RowKit
set_option linter.unusedVariables false
set_option linter.unusedSimpArgs false

theorem make22 (c : Nat) (hc : c ≤ 1000000) : ∃ mc : Array Value, mc.size = c * 4 ∧ ∀ w : World, (Instr.makeSlice 22 (.int .i64 0) (.int .i64 (c : Int))).run Try.prog w = .ok (.slice (some ⟨w.heap.size, 0, none⟩) 0 c) (w.alloc (.cells mc 43)) := by
  obtain ⟨i0, hi, hz⟩ := Option.map_eq_some_iff.1 info43
  simp only [Prod.mk.injEq] at hz
  obtain ⟨hz0, hz1, hz2⟩ := hz
  refine ⟨madeCells (Value.cells (.agg #[.int .u8 0, .int .i64 0, .slice none 0 0, .slice none 0 0])) (c * 4), size_madeCells _ _, fun w => ?_⟩
  · have := run_makeSlice (P := Try.prog) w 22 43 i0 _ Try.underlying22 hi hz0 .i64 .i64 0 (c : Int) (by omega) (by omega) (by rw [hz1]; simp; omega) (by rw [hz2]; omega) (by omega)
    rw [hz1] at this
    simpa using this
theorem alloc_at (w : World) (o : Obj) (k : Nat) : (w.alloc o).heap[k]? = if k = w.heap.size then some o else w.heap[k]? := by
  show (w.heap.push o)[k]? = _
  rw [Array.getElem?_push]
/-- How many bytes 0 there are: some number that is not above their number. -/
theorem count_run (a : Option Addr) (n c : Nat) (bs : List Int) (W : World) (hn : bs.length = n) (h : Bts W a bs) : ∃ k : Nat, k ≤ n ∧ (Extern.BytealgCount.count #[.slice a n c, .int .u8 0]).run Try.prog W = .ok (.int .i64 (k : Int)) W := by
  rcases h.2 with h0 | ⟨b, off, rfl, _, hc⟩
  · rw [h0] at hn
    have hn0 : n = 0 := by simpa using hn.symm
    subst hn0
    cases a with
    | none => exact ⟨0, Nat.le_refl _, Lib.run_countNil W 0 c 0⟩
    | some a => exact ⟨0, Nat.le_refl _, by rw [Lib.run_countAt W a 0 c [] rfl (fun i hi => absurd hi (by omega)) 0]; rfl⟩
  · refine ⟨_, ?_, Lib.run_countSlice W b off n c bs hn (fun i hi => hc i (by rw [hn]; exact hi)) 0⟩
    unfold Lib.countByte
    have := List.count_le_length (a := (0 : Int).toNat.toUInt8) (l := Lib.bytesOf bs)
    rw [Lib.bytesOf_length, hn] at this
    exact this

set_option maxRecDepth 100000 in
set_option maxHeartbeats 2000000 in
theorem count24 (a : Option Addr) (n c : Nat) (bs : List Int) (W : World) (hn : bs.length = n) (h : Bts W a bs) (sb : Nat) (hs : W.cell? ⟨sb, 0, none⟩ = some (.int .u8 0)) :
    ∃ k : Nat, k ≤ n ∧ Calls Try.prog 24 #[.slice a n c, .slice (some ⟨sb, 0, none⟩) 1 1] W fun e w' => e = .returned (.int .i64 (k : Int)) ∧ w' = W := by
  obtain ⟨k, hk, hr⟩ := count_run a n c bs W hn h
  refine ⟨k, hk, ?_⟩
  clear h hn hk
  go_enter Try.func24, Try.ntmps24
  go_wp2
  rw [run_callFunc_extern Try.func40 (by kernel_rfl) (by kernel_rfl) (by kernel_rfl) (e := Extern.BytealgCount.count) (by kernel_rfl), hr]
  simp only [Result.andThen]
  rw [Oper.upon_value]
  go_wp2
  go_ret
  exact ⟨rfl, rfl⟩
/-- What Parse tells. -/
def POut (w : World) (bs : List Int) (e : Ending) (w' : World) : Prop :=
  (∃ ss rest, Bin.Says bs ss rest ∧ rest ≠ [] ∧ e = .returned (.tuple #[.slice none 0 0, .int .i64 50, .int .i64 ((Bin.text ss).length : Int)]) ∧ Below w.heap.size w w')
  ∨ (∃ (qs : List Q) (v : Value), Bin.Says bs (qs.map (·.1)) [] ∧ e = .returned (.tuple #[v, .int .i64 0, .int .i64 0]) ∧ Mem w.heap.size w' v qs ∧ Below w.heap.size w w')

set_option maxRecDepth 100000 in
set_option maxHeartbeats 8000000 in
theorem parse14 (a : Option Addr) (n c : Nat) (bs : List Int) (w : World) (hn : bs.length = n) (h : Bts w a bs) (hl : n ≤ c) (hc : c ≤ 9223372036854775807) (hz : n ≤ 1000000) :
    Calls Try.prog 14 #[.slice a n c] w fun e w' => POut w bs e w' := by
  obtain ⟨w1, hw1⟩ : ∃ w1, w.alloc (.cells #[.int .u8 0] 5) = w1 := ⟨_, rfl⟩
  have hs1 : w1.heap.size = w.heap.size + 1 := by rw [← hw1]; simp
  have hb1 : Below w.heap.size w w1 := by rw [← hw1]; exact below_box _ _
  have hsep : w1.cell? ⟨w.heap.size, 0, none⟩ = some (.int .u8 0) := by
    rw [← hw1, row_cell (heap_alloc_new w (.cells #[.int .u8 0] 5)) 0]; rfl
  obtain ⟨cn, hcn, K24⟩ := count24 a n c bs w1 hn (h.below hb1) _ hsep
  obtain ⟨mc, hmc, MK⟩ := make22 cn (by omega)
  have hmin : min (cn : Int) 4194304 = cn := by omega
  have MK2 : (Instr.makeSlice 22 (.int .i64 0) (.int .i64 (min (cn : Int) 4194304))).run Try.prog w1 = .ok (.slice (some ⟨w.heap.size + 1, 0, none⟩) 0 cn) (w1.alloc (.cells mc 43)) := by rw [hmin, MK, hs1]
  obtain ⟨W3, hW3⟩ : ∃ W3, (w1.alloc (.cells mc 43)).alloc (.cells #[.slice a n c, .int .u8 0, .int .i64 0, .slice none 0 0, .slice none 0 0, .int .i64 0] 51) = W3 := ⟨_, rfl⟩
  have hb3 : Below w.heap.size w W3 := by
    rw [← hW3]
    exact (hb1.alloc hb1.size _).alloc (by simp; have := hb1.size; omega) _
  have hblk : W3.heap[w.heap.size + 2]? = some (.cells #[.slice a n c, .int .u8 0, .int .i64 0, .slice none 0 0, .slice none 0 0, .int .i64 0] 51 (0, 0)) := by
    rw [← hW3, alloc_at, if_pos (by simp [hs1])]
  have hmk : W3.heap[w.heap.size + 1]? = some (.cells mc 43 (0, 0)) := by
    rw [← hW3, alloc_at, if_neg (by simp [hs1]), alloc_at, if_pos hs1.symm]
  have hs3 : W3.heap.size = w.heap.size + 3 := by rw [← hW3]; simp [hs1]
  have hmem : Mem w.heap.size W3 (.slice (some ⟨w.heap.size + 1, 0, none⟩) 0 cn) [] :=
    ⟨⟨rfl, .inr ⟨w.heap.size + 1, cn, mc, rfl, by omega, hmk, Nat.zero_le _, by unfold maxLen; omega, hmc, by simp⟩⟩, fun q hq => by cases hq⟩
  have K24' := hid K24
  have HH := hid h
  have HN := hid hn
  clear K24 MK hmin hsep hs1 hmk
  subst hw1
  rcases Nat.eq_zero_or_pos n with h0 | hpos
  · subst h0
    have HE : Hid (bs = []) := hid (List.length_eq_zero_iff.1 hn)
    have HMEM := hid hmem
    have HB := hid hb3
    have HW := hid hW3
    have c0 : W3.cell? ⟨w.heap.size + 2, 0, none⟩ = some (.slice a 0 c) := by rw [row_cell hblk 0]; rfl
    have c0' : W3.cell? ⟨w.heap.size + 1 + 1, 0, none⟩ = some (.slice a 0 c) := c0
    clear hn h hmem hb3 hW3 hs3 hblk hcn hmc
    go_enter Try.func14, Try.ntmps14
    go_wp2_with (go_at_call 24; refine K24'.out.mono ?_; clear K24'; rintro e w9 ⟨rfl, rfl⟩)
    rw [HW.out]
    go_loopw [5] (fun lv wr => lv = .slice (some ⟨w.heap.size + 1, 0, none⟩) 0 cn ∧ wr = W3) (fun _ _ => 0)
    case atStart => exact ⟨rfl, rfl⟩
    case round =>
      obtain ⟨rfl, rfl⟩ := hrel
      go_wp2
      refine bodyPost_ret (results_tmp3 rfl _ _ _) rfl ?_
      exact .inr ⟨[], _, by rw [HE.out]; exact Bin.says_text (ss := []) rfl, rfl, HMEM.out, HB.out⟩
  · obtain ⟨b, off, rfl, hblt⟩ : ∃ b off, a = some ⟨b, off, none⟩ ∧ b < w.heap.size := by
      rcases h.2 with h0 | ⟨b, off, e, hb, _⟩
      · rw [h0] at hn; simp at hn; omega
      · exact ⟨b, off, e, hb⟩
    have hRB : RB w (w.heap.size + 3) (w.heap.size + 2) W3 b bs 0 0 [] [] 0 (.slice none 0 0) (.slice none 0 0) :=
      ⟨⟨off, c, ⟨⟨by rw [hn]; exact hblk⟩, by omega, World.ownsRow_nil _ _ _ _, World.ownsRow_nil _ _ _ _⟩, by omega, hc, h⟩, hb3, by omega, hblt, by omega⟩
    have HPB := hid (show PB w W3 b bs [] (.slice (some ⟨w.heap.size + 1, 0, none⟩) 0 cn) 0 0 [] [] 0 (.slice none 0 0) (.slice none 0 0) from ⟨hmem, hRB, fun q hq => by cases hq⟩)
    have HW := hid hW3
    clear h hn hmem hb3 hW3 hs3 hblk hcn hmc hRB
    go_enter Try.func14, Try.ntmps14
    go_wp2_with (go_at_call 24; refine K24'.out.mono ?_; clear K24'; rintro e w9 ⟨rfl, rfl⟩)
    rw [HW.out]
    clear HW MK2 hb1
    generalize hrb : w.heap.size + 1 + 1 = rb at *
    go_loopw [5, 7] (fun lvv tv wr => ∃ (rest : List Int) (qs : List Q) (va : Option Addr) (nq vc tot : Nat) (kd id : Int) (ls hs : List Int) (it : Int) (lv hv : Value), lvv = .slice va nq vc ∧ tv = .int .i64 tot ∧ Hid (qs.length = nq) ∧ Hid (PB w wr b rest qs (.slice va nq vc) kd id ls hs it lv hv) ∧ Hid (bs = Bin.text (qs.map (·.1)) ++ rest) ∧ Hid ((qs.map (·.1)).all Lra.may = true) ∧ Hid (Lra.items (qs.map (·.1)) = tot)) (fun _ _ wr => leftW rb wr)
    case atStart => exact ⟨bs, [], some ⟨w.heap.size + 1, 0, none⟩, 0, cn, 0, 0, 0, [], [], 0, _, _, rfl, rfl, hid rfl, HPB, hid rfl, hid rfl, hid rfl⟩
    case round =>
      obtain ⟨rest, qs, va, nq, vc, tot, kd, id, ls, hs, it, lv, hv, rfl, rfl, HQ, HP, HE, HA, HT⟩ := hrel
      have hrb' : w.heap.size + 2 = rb := by omega
      have hPR := HP.out.rd
      rw [hrb'] at hPR
      obtain ⟨off9, rc9, hR9, _⟩ := hPR.ex
      have hlenr : (Bin.text (qs.map (·.1))).length + rest.length = n := by rw [← HN.out, HE.out, List.length_append]
      have hge := Bin.text_ge (qs.map (·.1))
      rw [List.length_map, HQ.out, HT.out] at hge
      cases rest with
      | nil =>
        have c0 : wr.cell? ⟨rb, 0, none⟩ = some (.slice (some ⟨b, off9, none⟩) 0 rc9) := hR9.rd.cells 0 _ rfl
        have HP2 := hid (HP.out.mem)
        have HB2 := hid (hPR.bel)
        have HS := hid (show Bin.Says bs (qs.map (·.1)) [] from ⟨HE.out, HA.out, Bin.stepR_nil⟩)
        clear hPR hR9 HPB hge hlenr
        go_wp2
        refine bodyPost_ret (results_tmp3 rfl _ _ _) rfl ?_
        exact .inr ⟨qs, _, HS.out, rfl, HP2.out, HB2.out⟩
      | cons y ys =>
        obtain ⟨rl, hrl⟩ : ∃ rl, (y :: ys).length = rl := ⟨_, rfl⟩
        have hrl1 : ys.length + 1 = rl := by simpa using hrl
        have c0 : wr.cell? ⟨rb, 0, none⟩ = some (.slice (some ⟨b, off9, none⟩) rl rc9) := by rw [← hrl]; exact hR9.rd.cells 0 _ rfl
        have hpos' : (0 : Int) < rl := by omega
        have hrn : rl ≤ n := by omega
        have HFW := hid (show leftW rb wr = rl by rw [hPR.left, hrl])
        have K25 := read25 w (w.heap.size + 3) rb wr b y ys kd id ls hs it lv hv hPR (by omega)
        have HAT := hid (show ((Bin.text (qs.map (·.1))).length : Int) = (n : Int) - rl by omega)
        have HPRX := hid hPR
        cases hst : Bin.stepR (y :: ys) with
        | none =>
          have C25 := hid (K25.mono (R' := fun e w' => e = .returned (.bool false) ∧ ∃ lv' hv', Mv rb wr w' lv hv lv' hv') (by
            rintro e w' (⟨_, he, hm⟩ | ⟨x, r, lv', hv', h9, _⟩)
            · exact ⟨he, hm⟩
            · rw [hst] at h9; cases h9))
          have HS := hid (show Bin.Says bs (qs.map (·.1)) (y :: ys) from ⟨HE.out, HA.out, hst⟩)
          clear hPR hR9 HPB hge hlenr K25 hst HE HA HQ HT
          go_wp2_with (go_at_call 25; refine C25.out.mono ?_; clear C25; rintro e W4 ⟨rfl, lv', hv', hm⟩; have HM := hid hm; clear hm)
          refine bodyPost_ret (results_tmp3 rfl _ _ _) rfl ?_
          exact .inl ⟨_, _, HS.out, by simp, by rw [HAT.out]; rfl, HPRX.out.bel' HM.out⟩
        | some p =>
          obtain ⟨x, r⟩ := p
          have C25 := hid (K25.mono (R' := fun e w' => e = .returned (.bool true) ∧ ∃ lv' hv', RB w (w.heap.size + 3) rb w' b r x.kind x.id x.lits x.hints ((x.lits.length + x.hints.length : Nat) : Int) lv' hv' ∧ Mv rb wr w' lv hv lv' hv') (by
            rintro e w' (⟨h9, _⟩ | ⟨x', r', lv', hv', h9, he, hR, hm⟩)
            · rw [hst] at h9; cases h9
            · rw [hst] at h9; cases h9; exact ⟨he, lv', hv', hR, hm⟩))
          obtain ⟨e1, e2⟩ := Bin.stepR_back hPR.byt hst
          have hxl := Bin.stp_ge x
          have hyl : (Bin.stp x).length + r.length = rl := by rw [← hrl, e1, List.length_append]
          obtain ⟨xn, hxn⟩ : ∃ xn, x.lits.length + x.hints.length = xn := ⟨_, rfl⟩
          rw [hxn] at hxl C25
          have hb1 : tot + xn ≤ 1000000 := by omega
          have hb2 : ((nq : Int) == 4194304) = false := by simp; omega
          have hb3 : ¬ (16777216 : Int) < (tot : Int) + xn := by omega
          have HBX := hid (show x.lits.length ≤ 16777216 ∧ x.hints.length ≤ 16777216 ∧ nq ≤ 4194304 by omega)
          have HLR := hid (show r.length < rl by omega)
          have HE2 := hid (show bs = Bin.text ((qs.map (·.1)) ++ [x]) ++ r by rw [HE.out, e1, Bin.text_append, Bin.text_cons, Bin.text_nil]; simp)
          have HA2 := hid (show ((qs.map (·.1)) ++ [x]).all Lra.may = true by rw [List.all_append, HA.out]; simpa using e2)
          have HT2 := hid (show Lra.items ((qs.map (·.1)) ++ [x]) = tot + xn by rw [Lra.items_app, HT.out, Lra.items_cons, Lra.items_nil, hxn]; rfl)
          have ST := hid (fun (w4 : World) (lv' hv' : Value) (hR : RB w (w.heap.size + 3) rb w4 b r x.kind x.id x.lits x.hints ((xn : Nat) : Int) lv' hv') (hm : Mv rb wr w4 lv hv lv' hv') => HP.out.read (by rw [hrb']; exact hm) (by rw [hrb']; exact hR))
          clear hPR hR9 HPB hge hlenr K25 hst HE HA HT e1 e2 hxl hyl HP hxn
          have C26 := hid (fun (w4 : World) (lv' hv' : Value) (hP4 : PB w w4 b r qs (.slice va nq vc) x.kind x.id x.lits x.hints ((xn : Nat) : Int) lv' hv') => (show Calls Try.prog 26 #[.pointer (some ⟨rb, 0, none⟩)] w4 fun e w' => StepOut w4 x.kind x.id x.lits x.hints e w' by
            have hR := hP4.rd
            rw [hrb'] at hR
            obtain ⟨off4, rc4, hR4, _⟩ := hR.ex
            exact step26 (w.heap.size + 3) rb w4 _ _ _ x.kind x.id x.lits x.hints _ lv' hv' hR4 HBX.out.1 HBX.out.2.1))
          have C11 := hid (fun (w4 : World) (lv' hv' : Value) (hP4 : PB w w4 b r qs (.slice va nq vc) x.kind x.id x.lits x.hints ((xn : Nat) : Int) lv' hv') (e : Ending) (W5 : World) (hs : StepOut w4 x.kind x.id x.lits x.hints e W5) => hP4.step HQ.out HBX.out.2.2 hs)
          have HIT := hid (fun (w4 : World) (lv' hv' : Value) (hP4 : PB w w4 b r qs (.slice va nq vc) x.kind x.id x.lits x.hints ((xn : Nat) : Int) lv' hv') => (show w4.cell? ⟨rb, 5, none⟩ = some (.int .i64 (xn : Int)) by
            have hR := hP4.rd
            rw [hrb'] at hR
            obtain ⟨off4, rc4, hR4, _⟩ := hR.ex
            exact hR4.rd.cells 5 _ rfl))
          clear HBX
          generalize x.kind = xk at *
          generalize x.id = xi at *
          generalize x.lits = xl at *
          generalize x.hints = xh at *
          go_wp2_with (first
            | (go_at_call 25; refine C25.out.mono ?_; clear C25; rintro e W4 ⟨rfl, lv', hv', hR, hm⟩
               have HP4 := hid (ST.out W4 lv' hv' hR hm)
               have c5 := HIT.out W4 lv' hv' HP4.out
               clear ST HIT hR hm)
            | (go_at_call 26; refine (C26.out W4 lv' hv' HP4.out).mono ?_; clear C26; intro e5 W5 hs5
               obtain ⟨o1, m1, c1, o2, m2, c2, o, c, B, rfl, hr, hpb⟩ := C11.out W4 lv' hv' HP4.out _ _ hs5
               have HAP := hid hr
               have HPB2 := hid hpb
               clear hs5 hr hpb C11)
            | (at_builtin; refine wpList_append_run rfl (.tmp 41) (.tmp 43) 22 22 rfl rfl rfl HAP.out ?_; clear HAP))
          refine ⟨⟨r, qs ++ [(x, .slice o1 m1 c1, .slice o2 m2 c2)], o, nq + 1, c, tot + xn, xk, xi, xl, xh, _, lv', hv', rfl, by simp, hid (by simp [HQ.out]), HPB2, hid (by rw [List.map_append]; exact HE2.out), hid (by rw [List.map_append]; exact HA2.out), hid (by rw [List.map_append]; exact HT2.out)⟩, ?_⟩
          have hL := HPB2.out.rd
          rw [hrb'] at hL
          rw [hL.left, HFW.out]
          exact HLR.out
end Go.Proofs.Ytmgeoeajnpnadaa
