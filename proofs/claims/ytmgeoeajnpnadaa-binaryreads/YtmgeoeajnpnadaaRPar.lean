/- Bytes read as steps, by the document. -/
import Derived.Test.YtmgeoeajnpnadaaROneA
import Derived.Test.YtmgeoeajnpnadaaROneD
import Derived.Test.YtmgeoeajnpnadaaParse
namespace Go.Proofs.Ytmgeoeajnpnadaa
open Go.RowKit
set_option linter.unusedVariables false
set_option linter.unusedSimpArgs false

theorem one27 (b off rn rc : Nat) (bs : List Int) (pos : Nat) (w : World) (hn : bs.length = rn) (hz : rn ≤ 1000000) (hR : Bts w (some ⟨b, off, none⟩) bs) (hp : pos < rn) :
    Calls Try.prog 27 #[.slice (some ⟨b, off, none⟩) rn rc, .int .i64 (pos : Int)] w fun e w' => ROneOut w bs pos e w' := by
  by_cases h : bs.getD pos 0 = 97
  · exact one27_add b off rn rc bs pos w hn hz hR hp h
  · exact one27_not b off rn rc bs pos w hn hz hR hp h

set_option maxRecDepth 100000 in
set_option maxHeartbeats 8000000 in
theorem parse15 (a : Option Addr) (rn rc : Nat) (bs : List Int) (w : World) (hn : bs.length = rn) (h : Bts w a bs) (hz : rn ≤ 1000000) :
    Calls Try.prog 15 #[.slice a rn rc] w fun e w' => POut w bs e w' := by
  have HN := hid hn
  have HH := hid h
  have hzi : (rn : Int) ≤ 1000000 := by omega
  have sh : Hid (rn = 0) ∨ ∃ g off, a = some ⟨g, off, none⟩ := by
    rcases h.shape with h | ⟨g, off, e⟩
    · exact .inl (hid (by omega))
    · exact .inr ⟨g, off, e⟩
  clear hn h
  rcases sh with Z | ⟨b, off, rfl⟩
  all_goals
    go_enter Try.func15, Try.ntmps15
    go_wp2
    go_loopw [5, 6, 7] (fun lv av nv wr => ∃ (qs : List Q) (o : Option Addr) (k d p tot : Nat), lv = .slice o k d ∧ av = .int .i64 p ∧ nv = .int .i64 tot ∧ k + tot ≤ p ∧ p ≤ rn ∧ Hid (qs.length = k) ∧ Hid (bs = Bin.text (qs.map (·.1)) ++ bs.drop p) ∧ Hid ((qs.map (·.1)).all Lra.may = true) ∧ Hid ((Bin.text (qs.map (·.1))).length = p) ∧ Hid (Mem w.heap.size wr (.slice o k d) qs) ∧ Hid (Below w.heap.size w wr)) (fun _ av _ _ => rn - (intOf av).toNat)
    case atStart => exact ⟨[], none, 0, 0, 0, 0, rfl, rfl, rfl, Nat.le_refl _, Nat.zero_le _, hid rfl, hid (by simp [Bin.text_nil]), hid rfl, hid rfl, hid (Mem.nil _ _), hid (Below.refl _ _)⟩
    case round =>
      obtain ⟨qs, o, k, d, p, tot, rfl, rfl, rfl, hkp, hpr, HQL, HE, HA, HTL, HM, HB⟩ := hrel
      by_cases hlt : p < rn
      · have hlt' : (p : Int) < rn := by omega
        first
        | (exfalso; have := Z.out; omega)
        | (have C27 := one27 b off rn rc bs p wr HN.out hz (HH.out.below HB.out) hlt
           cases hst : Bin.stepR (bs.drop p) with
           | none =>
             have K27 := hid (C27.mono (R' := fun e w' => (∃ (kk ii : Int) (o1 : Option Addr) (n1 c1 : Nat) (o2 : Option Addr) (n2 c2 : Nat) (pp : Int), e = .returned (.tuple #[.agg #[.int .u8 kk, .int .i64 ii, .slice o1 n1 c1, .slice o2 n2 c2], .int .i64 pp, .bool false])) ∧ Below wr.heap.size wr w') (by
               rintro e w' (⟨_, he, hb⟩ | ⟨s, p2, o1, c1, o2, c2, h9, _⟩)
               · exact ⟨he, hb⟩
               · rw [hst] at h9; cases h9))
             have HS := hid (show Bin.Says bs (qs.map (·.1)) (bs.drop p) from ⟨HE.out, HA.out, hst⟩)
             have HNE := hid (show bs.drop p ≠ [] from fun e => by have := congrArg List.length e; rw [List.length_drop, HN.out] at this; simp at this; omega)
             clear C27 hst
             go_wp2_with (go_at_call 27; refine K27.out.mono ?_; clear K27; rintro e W2 ⟨⟨kk, ii, o1, n1, c1, o2, n2, c2, pp, rfl⟩, hb⟩; have HB2 := hid (HB.out.trans (hb.mono HB.out.size)); clear hb)
             refine bodyPost_ret (results_tmp3 rfl _ _ _) rfl ?_
             refine .inl ⟨_, _, HS.out, HNE.out, by rw [HTL.out]; rfl, ?_⟩
             first | exact HB2.out | exact HB2.out.alloc HB2.out.size _
           | some q =>
             obtain ⟨s, r⟩ := q
             obtain ⟨es, hms⟩ := Bin.stepR_back (HH.out.byt.drop p) hst
             have hsl := Bin.stp_ge s
             have hle := congrArg List.length es
             rw [List.length_append, List.length_drop, HN.out] at hle
             obtain ⟨p2, hp2⟩ : ∃ p2, p + (Bin.stp s).length = p2 := ⟨_, rfl⟩
             have hr2 : r = bs.drop p2 := by rw [← hp2, ← List.drop_drop, es, List.drop_left]
             have K27 := hid (C27.mono (R' := fun e w' => ∃ (o1 : Option Addr) (c1 : Nat) (o2 : Option Addr) (c2 : Nat), e = .returned (.tuple #[.agg #[.int .u8 s.kind, .int .i64 s.id, .slice o1 s.lits.length c1, .slice o2 s.hints.length c2], .int .i64 (p2 : Int), .bool true]) ∧ QV wr.heap.size w' (s, .slice o1 s.lits.length c1, .slice o2 s.hints.length c2) ∧ Below wr.heap.size wr w') (by
               rintro e w' (⟨h9, _⟩ | ⟨s', p2', o1, c1, o2, c2, h9, h1, h2, he, hq, hb⟩)
               · rw [hst] at h9; cases h9
               · rw [hst] at h9
                 simp only [Option.some.injEq, Prod.mk.injEq] at h9
                 obtain ⟨rfl, h9⟩ := h9
                 have := drop_same (by rw [HN.out]; omega) h2 (hr2.symm.trans h9)
                 rw [this]
                 exact ⟨o1, c1, o2, c2, he, hq, hb⟩))
             have HE2 := hid (show bs = Bin.text ((qs.map (·.1)) ++ [s]) ++ bs.drop p2 by
               rw [← hr2, Bin.text_append, Bin.text_cons, Bin.text_nil, List.append_nil, List.append_assoc, ← es]; exact HE.out)
             have HA2 := hid (show ((qs.map (·.1)) ++ [s]).all Lra.may = true by rw [List.all_append, HA.out]; simpa using hms)
             have HT2 := hid (show (Bin.text ((qs.map (·.1)) ++ [s])).length = p2 by rw [Bin.text_append, Bin.text_cons, Bin.text_nil, List.append_nil, List.length_append, HTL.out]; exact hp2)
             obtain ⟨n1, hn1⟩ : ∃ n1, s.lits.length = n1 := ⟨_, rfl⟩
             obtain ⟨n2, hn2⟩ : ∃ n2, s.hints.length = n2 := ⟨_, rfl⟩
             rw [hn1, hn2] at K27 hsl
             have HP2 := hid (show k + 1 + (tot + n1 + n2) ≤ p2 ∧ p2 ≤ rn ∧ p < p2 by omega)
             have hb1 : ((tot : Int) + n1 + n2) ≤ 1000000 := by omega
             clear C27 hst es hms hsl hle hp2 hr2 hn1 hn2
             go_wp2_with (fail)
             go_at_call 27
             refine K27.out.mono ?_
             clear K27
             rintro e W2 ⟨o1, c1, o2, c2, rfl, hq, hb⟩
             have hB2 := HB.out.trans (hb.mono HB.out.size)
             obtain ⟨V, hV⟩ : ∃ V, W2.alloc (.cells #[.int .u8 s.kind, .int .i64 s.id, .slice o1 n1 c1, .slice o2 n2 c2] 43) = V := ⟨_, rfl⟩
             have hbV : Below W2.heap.size W2 V := by rw [← hV]; exact below_box _ _
             have hVn : V.heap[W2.heap.size]? = some (.cells #[.int .u8 s.kind, .int .i64 s.id, .slice o1 n1 c1, .slice o2 n2 c2] 43 (0, 0)) := by rw [← hV]; exact heap_alloc_new _ _
             have v0 := row_cell hVn 0
             have v1 := row_cell hVn 1
             have v2 := row_cell hVn 2
             have v3 := row_cell hVn 3
             simp only [List.getElem?_toArray, List.getElem?_cons_zero, List.getElem?_cons_succ] at v0 v1 v2 v3
             have hmem := (HM.out.below hb).below hbV
             have hqv := (hq.base HB.out.size).below hbV
             have hBV := hB2.trans (hbV.mono hB2.size)
             obtain ⟨o3, d3, B, r3, hm3, kp3, sz3, os3, tp3, ot3, _⟩ := hmem.push _ hqv (by rw [HQL.out]; omega) (by have := hBV.size; exact this)
             rw [HQL.out] at r3 hm3
             have hBB : Below w.heap.size w B := hBV.trans ⟨os3, tp3, ot3, sz3, fun g hg => kp3 g (Nat.lt_of_lt_of_le hg hBV.size) (fun e => by have := (HM.out.row.lt g e).1; omega)⟩
             have HAP := hid r3
             have HM3 := hid hm3
             have HBB := hid hBB
             have HVE := hid hV
             clear hq hb hB2 hbV hVn hmem hqv hBV r3 hm3 kp3 sz3 os3 tp3 ot3 hBB
             have hk1 : ((4194304 : Int) ≤ (k : Int)) = False := by simp; omega
             have hb2 : ((16777216 : Int) < (tot : Int) + n1 + n2) = False := by simp; omega
             go_wp2_with (at_builtin; refine wpList_append_run rfl (.tmp 42) (.tmp 44) 22 22 rfl rfl rfl HAP.out ?_; clear HAP)
             go_roundw
             case rel => exact ⟨qs ++ [_], _, k + 1, _, p2, tot + n1 + n2, by go_num, by go_num, by go_num, HP2.out.1, HP2.out.2.1, hid (by simp [HQL.out]), hid (by rw [List.map_append]; exact HE2.out), hid (by rw [List.map_append]; exact HA2.out), hid (by rw [List.map_append]; exact HT2.out), HM3, HBB⟩
             case measure => simp [intOf]; have := HP2.out; omega)
      · have hlt' : ¬ (p : Int) < rn := by omega
        have HS := hid (show Bin.Says bs (qs.map (·.1)) [] from ⟨by have h1 := HE.out; rwa [List.drop_eq_nil_of_le (by rw [HN.out]; omega)] at h1, HA.out, Bin.stepR_nil⟩)
        go_wp2
        refine bodyPost_ret (results_tmp3 rfl _ _ _) rfl ?_
        exact .inr ⟨qs, _, HS.out, rfl, HM.out, HB.out⟩
end Go.Proofs.Ytmgeoeajnpnadaa
