/- A proof's text, by the document's own function. -/
import Derived.Test.YtdodfmgbjfhnpaaDoorRefL
import Derived.Test.YtdodfmgbjfhnpaaDoorSameL
namespace Go.Proofs.YtdodfmgbjfhnpaaDoor
open Go.RowKit
set_option linter.unusedVariables false
set_option linter.unusedSimpArgs false

theorem row_string {W : World} {base n : Nat} {v : Value} {xs : List UInt8} (h : W.ownsRow base 5 1 v n (Lib.byteCells xs)) : (convert 48 9 v).run Tryd.prog W = .ok (.string ⟨xs.toArray⟩) W := by
  have hlx : xs.length = n := by have := h.1; rw [Lib.byteCells_length] at this; omega
  have key : ∀ a c, (0 < n → ∃ g o, a = some ⟨g, o, none⟩ ∧ ∀ i, i < n → W.cell? ⟨g, o + i, none⟩ = some (.int .u8 ((xs.map (fun b => (b.toNat : Int))).getD i 0))) → (convert 48 9 (.slice a n c)).run Tryd.prog W = .ok (.string ⟨xs.toArray⟩) W := fun a c hk => by
    have hb : Lib.BytesIn W a n (xs.map (fun b => (b.toNat : Int))) := hk
    rw [hb.convert (by simpa using hlx) c 48 5 9 Tryd.underlying48 Tryd.underlying5 Tryd.underlying9]
    have : strOfNums (xs.map (fun b => (b.toNat : Int))) = ⟨xs.toArray⟩ := by
      unfold strOfNums
      rw [List.map_map, show ((fun n : Int => UInt8.ofNat n.toNat) ∘ fun b : UInt8 => (b.toNat : Int)) = id from funext fun b => by simp]
      simp
    rw [this]
  rcases h.2 with ⟨rfl, h0⟩ | ⟨g, cap, cur, rfl, h1, h2, h3, h4, h5, h6⟩
  · have := key none 0 (fun hne => absurd h0 (by omega))
    rw [h0] at this
    exact this
  · refine key (some ⟨g, 0, none⟩) cap (fun _ => ⟨g, 0, rfl, fun i hi => ?_⟩)
    have := h.cells (g := g) rfl i (.int .u8 ((xs.map (fun b => (b.toNat : Int))).getD i 0)) (by simp [Lib.byteCells, List.getD, List.getElem?_eq_getElem (show i < xs.length by omega)])
    rw [Lib.add_plain] at this
    exact this

set_option maxRecDepth 100000 in
set_option maxHeartbeats 4000000 in
theorem write13 (a : Option Addr) (n c : Nat) (ss : List Lra.Stp) (w : World) (hn : ss.length = n) (hb : n ≤ 1000000) (hi : Lra.items ss ≤ 1000000) (hs : Steps w a ss) :
    Calls Tryd.prog 13 #[.slice a n c] w fun e w' => WOut ss e ∧ Below w.heap.size w w' := by
  have C23 := hid (large23 a n c ss w hn (by omega) hs)
  rw [decide_eq_false (by omega)] at C23
  have HS := hid hs
  have HN := hid hn
  have HI := hid hi
  have sh := hs.shape
  rw [hn] at sh
  clear hs hn hi
  rcases sh with Z | ⟨b, off, rfl⟩
  all_goals
    go_enter Tryd.func13, Tryd.ntmps13
    go_wp2_with (first
      | (go_at_call 23; refine C23.out.mono ?_; clear C23; rintro e W1 ⟨rfl, hb1⟩
         have HB1 := hid hb1
         clear hb1))
    go_loopw [4, 5] (fun bv iv wr => ∃ (k L cp : Nat) (o : Option Addr) (bs : List UInt8), bv = .slice o L cp ∧ iv = .int .i64 k ∧ k ≤ n ∧ Hid (bs.length = L) ∧ Hid ((ss.take k).all Lra.may = true) ∧ Hid (bs = Lra.textB (ss.take k)) ∧ Hid (bs.length ≤ 21 * (Lra.items (ss.take k) + 4 * k)) ∧ Hid (wr.ownsRow w.heap.size 5 1 (.slice o L cp) L (Lib.byteCells bs)) ∧ Hid (Below w.heap.size w wr)) (fun _ iv _ => n - (intOf iv).toNat)
    case atStart => exact ⟨0, 0, 0, none, [], rfl, rfl, by omega, hid rfl, hid (by simp), hid (by simp [Lra.textB]), hid (by simp), hid (World.ownsRow_nil _ _ _ _), HB1⟩
    case round =>
      clear HB1
      obtain ⟨k, L, cp, o, bs, rfl, rfl, hk, HLn, HA, HZ, HZL, HOW, HB⟩ := hrel
      by_cases hlt : k < n
      · have hlt' : (k : Int) < n := by omega
        first
        | (exfalso; have := Z.out; omega)
        | (have hks : k < ss.length := by rw [HN.out]; exact hlt
           obtain ⟨a1, c1, a2, c2, hst⟩ := (HS.out.below HB.out).at (j := k) hks
           have HK := hid (show (ss.take (k + 1)).all Lra.may = ((ss.take k).all Lra.may && Lra.may ss[k]) by rw [List.take_succ_eq_append_getElem hks, List.all_append]; simp)
           have HM := hid (show Lra.may ss[k] = false → ss.all Lra.may = false from fun h => by
             cases e : ss.all Lra.may
             · rfl
             · have := List.all_eq_true.1 e _ (List.getElem_mem hks); rw [h] at this; cases this)
           have HTK := hid (Lra.items_take ss k hks)
           have HTE := hid (Lra.items_le ss (k + 1))
           have HTX := hid (Lra.textB_take ss k hks)
           have HV := hid hst.v
           have C24 := hid (may24 ss[k] a1 c1 a2 c2 wr hst.v)
           have HST := hid (fun (X : World) (h : Below wr.heap.size wr X) => hst.below h)
           have HLB := hid (lineB_len ss[k] hst.v.i hst.v.l.1 hst.v.h.1)
           obtain ⟨x0, x1, x2, x3, _⟩ := hst
           generalize ss[k] = s at x0 x1 x2 x3 C24 HK HM HTK HTX HV HST HLB
           have C25 := hid (fun (X : World) (h : Below wr.heap.size wr X) => line25 s a1 c1 a2 c2 X (HV.out.below h) (by
             have h2 := HTE.out
             rw [HTK.out] at h2
             have h3 := HI.out
             omega))
           unfold sval at C24 C25
           cases hm : Lra.may s
           · have HF := hid (HM.out hm)
             rw [hm] at C24
             clear HK HM hm C25 HST
             generalize s.lits.length = m1 at x2 C24
             generalize s.hints.length = m2 at x3 C24
             generalize s.kind = kd at x0 C24
             generalize s.id = id at x1 C24
             go_wp2_with (first
               | (go_at_call 24; refine C24.out.mono ?_; clear C24; rintro e W4 ⟨rfl, hb4⟩
                  have HB4 := hid (HB.out.trans (hb4.mono HB.out.size))
                  clear hb4))
             go_ret2
             refine ⟨?_, HB4.out⟩
             unfold WOut
             rw [HF.out]
             rfl
           · have HK2 := hid (show (ss.take (k + 1)).all Lra.may = true by rw [HK.out, HA.out, hm]; rfl)
             rw [hm] at C24
             rw [Lra.refLine_eq s hm] at C25
             have HLN := hid HLB.out.2
             have AP := hid (fun (X : World) (h : Below wr.heap.size wr X) => (show ∃ o' cp' B, (Builtin.append_ #[48, 9] 48 #[.slice o L cp, .string (bstr (Lra.lineB s))]).run Tryd.prog X = .ok (.slice o' (L + (Lra.lineB s).length) cp') B ∧ B.ownsRow w.heap.size 5 1 (.slice o' (L + (Lra.lineB s).length) cp') (L + (Lra.lineB s).length) (Lib.byteCells (bs ++ Lra.lineB s)) ∧ Below w.heap.size w B from by
               obtain ⟨i0, hi, hz⟩ := Option.map_eq_some_iff.1 info5
               simp only [Prod.mk.injEq] at hz
               have hL : L ≤ 1000000000 := by
                 have h1 := HZL.out
                 have h2 := Lra.items_le ss k
                 have h3 := HI.out
                 have h4 := HLn.out
                 omega
               have hLL : (Lra.lineB s).length ≤ 1000000000 := by
                 have h1 := HLN.out
                 have h2 := HTE.out
                 rw [HTK.out] at h2
                 have h3 := HI.out
                 omega
               obtain ⟨v', B, hr, ho, hg, _⟩ := Lib.run_append_own_string (P := Tryd.prog) X w.heap.size 48 9 48 5 i0 Tryd.underlying48 Tryd.underlying9 hi hz.1 hz.2.1 hz.2.2 (.slice o L cp) L _ (own_below HOW.out h) (bstr (Lra.lineB s)) (by rw [bstr_size]; unfold maxLen; omega) (by rw [bstr_size]; omega) (Nat.le_trans HB.out.size h.size)
               rw [bstr_size] at ho
               obtain ⟨o', cp', rfl⟩ := own_slc ho
               have hvn : ∀ q, (Value.slice o L cp).ownBlock = some q → w.heap.size ≤ q := fun q hq => by
                 rcases HOW.out.2 with ⟨e, _⟩ | ⟨g, cp1, cur1, e1, h1, _⟩
                 · rw [e] at hq; simp [Value.ownBlock] at hq
                 · rw [e1] at hq; simp [Value.ownBlock] at hq; omega
               exact ⟨o', cp', B, hr, by rw [Lib.byteCells_append]; exact ho, (HB.out.trans (h.mono HB.out.size)).grown hg (Nat.le_trans HB.out.size h.size) hvn⟩))
             clear HK HM hm HLB
             generalize hln : (Lra.lineB s).length = LN at AP HLN
             have HLL := hid hln
             generalize hlb : bstr (Lra.lineB s) = LS at AP C25
             clear hln hlb
             have HSS := hid (fun (X : World) (h : Below wr.heap.size wr X) => (show X.cell? ⟨b, off + k * 4, none⟩ = some (.int .u8 s.kind) ∧ X.cell? ⟨b, off + k * 4 + 1, none⟩ = some (.int .i64 s.id) ∧ X.cell? ⟨b, off + k * 4 + 2, none⟩ = some (.slice a1 s.lits.length c1) ∧ X.cell? ⟨b, off + k * 4 + 3, none⟩ = some (.slice a2 s.hints.length c2) from ⟨(HST.out X h).k, (HST.out X h).i, (HST.out X h).l, (HST.out X h).h⟩))
             clear HST
             generalize s.lits.length = m1 at x2 C24 C25 HSS HLN HTK
             generalize s.hints.length = m2 at x3 C24 C25 HSS HLN HTK
             generalize s.kind = kd at x0 C24 C25 HSS
             generalize s.id = id at x1 C24 C25 HSS
             go_wp2_with (first
               | (go_at_call 24; refine C24.out.mono ?_; clear C24; rintro e W4 ⟨rfl, hb4⟩
                  obtain ⟨z0, z1, z2, z3⟩ := HSS.out W4 hb4
                  have C25' := hid (C25.out W4 hb4)
                  have HB4 := hid hb4
                  clear hb4 HSS C25 x0 x1 x2 x3)
               | (go_at_call 25; refine C25'.out.mono ?_; clear C25'; rintro e W5 ⟨rfl, hb5⟩
                  obtain ⟨o', cp', B, hr, ho, hB⟩ := AP.out W5 (HB4.out.trans (hb5.mono HB4.out.size))
                  have HR := hid hr
                  have HO := hid ho
                  have HBB := hid hB
                  clear hr ho hB AP hb5)
               | (at_builtin; refine wpList_append_run rfl (.tmp 20) (.tmp 25) 48 9 rfl rfl rfl HR.out ?_))
             go_roundw
             case rel => exact ⟨k + 1, L + LN, cp', o', bs ++ Lra.lineB s, rfl, by go_num, by omega, hid (by rw [List.length_append, HLn.out, HLL.out]), HK2, hid (by rw [HTX.out, HZ.out]), hid (by have h1 := HZL.out; have h2 := HLN.out; have h3 := HLL.out; rw [HTK.out, List.length_append]; omega), HO, HBB⟩
             case measure => simp [intOf]; omega)
      · have hlt' : ¬ (k : Int) < n := by omega
        have HALL := hid (show ss.all Lra.may = true by
          have := HA.out
          rwa [List.take_of_length_le (by rw [HN.out]; omega)] at this)
        have HZE := hid (show bs = Lra.textB ss by
          have := HZ.out
          rwa [List.take_of_length_le (by rw [HN.out]; omega)] at this)
        have cv := row_string HOW.out
        generalize hbt : (⟨bs.toArray⟩ : ByteArray) = BT at cv
        have HBT := hid hbt
        clear hbt
        go_wp2
        go_ret2
        refine ⟨?_, HB.out⟩
        unfold WOut
        rw [HALL.out, ← HZE.out]
        simp only [if_true]
        rw [HBT.out]
        rfl
end Go.Proofs.YtdodfmgbjfhnpaaDoor
