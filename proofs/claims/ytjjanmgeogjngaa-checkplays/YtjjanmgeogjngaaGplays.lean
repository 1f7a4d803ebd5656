/- A checker of any formula answers any row of steps as the document says, and holds the clauses that it says (at most 1500 literals and clauses, 200 clauses; 1500 steps, literals and hints: beyond that nothing is asked); the input reads as it did. No condition. -/
import Derived.Test.YtjjanmgeogjngaaGk
import Derived.Test.YtjjanmgeogjngaaGg
import Derived.Test.YtjjanmgeogjngaaRows
import Derived.Test.YtjjanmgeogjngaaGh
import Derived.ShutString
import Derived.ChangeMaps5
import Derived.Below
/- CheckPlays as a call. -/
namespace Go.Proofs.Ytjjanmgeogjngaa
open Go.RowKit Go.Maps
set_option linter.unusedVariables false
set_option maxRecDepth 100000
set_option maxHeartbeats 8000000 in
theorem law3 (vars : Int) (a : Option Addr) (n c : Nat) (cs : List (List Int)) (al : Option Addr) (nl cl : Nat) (ss : List Lra.Stp) (w : World) (hn : cs.length = n) (hb : n ≤ 8796093022208) (hc : Cls w a cs) (hnl : ss.length = nl) (hbl : nl ≤ 2199023255552) (hs : StepsC w al ss) :
    Calls Try.prog 3 #[.agg #[.int .i64 vars, .slice a n c], .slice al nl cl] w fun e w' => e = .returned (.bool true) ∧ Below w.heap.size w w' := by
  have hB := below_box w (.cells #[.int .i64 vars, .slice a n c] 24)
  have hx := heap_alloc_new w (.cells #[.int .i64 vars, .slice a n c] 24)
  generalize hW1 : w.alloc (.cells #[.int .i64 vars, .slice a n c] 24) = W1 at hB hx
  have x0 : W1.cell? ⟨w.heap.size, 0, none⟩ = some (.int .i64 vars) := row_cell hx 0
  have x1 : W1.cell? ⟨w.heap.size, 1, none⟩ = some (.slice a n c) := row_cell hx 1
  have HX := hid hx
  have HC := hid (hc.below hB)
  have HS := hid (hs.below hB)
  have HN := hid hn
  have HB := hid hB
  have HNL := hid hnl
  have C10 := hid works10
  have C9 := hid (large9 vars a n c cs al nl cl ss W1 hn (by omega) (hc.below hB) hnl (by omega) (hs.below hB).steps)
  have HDone := hid (fun W5 (h : Below W1.heap.size W1 W5) => show Below w.heap.size w W5 from HB.out.trans (h.mono HB.out.size))
  clear hc hs hn hB hx hnl
  go_enter Try.func3, Try.ntmps3
  go_wp2_with fail
  go_at_call 9
  refine C9.out.mono ?_
  clear C9
  rintro e W4 ⟨⟨b, rfl, hfine⟩, hB4⟩
  have HB4 := hid hB4
  have z0 := (hB4.cell (p := ⟨w.heap.size, 0, none⟩) (Array.getElem?_eq_some_iff.1 HX.out).1).trans x0
  have z1 := (hB4.cell (p := ⟨w.heap.size, 1, none⟩) (Array.getElem?_eq_some_iff.1 HX.out).1).trans x1
  have HFine := hid hfine
  clear hfine hB4 x0 x1
  cases b with
  | true =>
    go_wp2_with (go_at_call 10; refine (C10.out _).mono ?_; rintro e W6 ⟨rfl, h6⟩; have OUT := hid (HDone.out W6 (HB4.out.trans (h6.mono HB4.out.size))); clear h6)
    go_ret
    exact ⟨rfl, OUT.out⟩
  | false =>
    have HF := hid (HFine.out rfl)
    clear HFine
    have hn200 : n ≤ 200 := by have := HF.out.n; have := HN.out; omega
    have hnl15 : nl ≤ 1500 := by have := HF.out.s; have := HNL.out; omega
    have C11 := hid (lent11 vars a n c cs W4 HN.out hn200 (by have := HF.out.l; omega) (HC.out.below HB4.out))
    have C12 := hid (fun (X : World) (hX : Below W4.heap.size W4 X) => lent10t al nl cl ss X HNL.out (by omega) (by have := HF.out.s; omega) ((HS.out.below (HB4.out.trans (hX.mono HB4.out.size))).steps))
    have C13 := hid (fun (X : World) (o : Option Addr) (d : Nat) (h : Cls X o cs) (hr : Cnf.right vars cs = 0) => new13 vars o n d cs X HN.out h hr)
    have C13e := hid (fun (X : World) (o : Option Addr) (d : Nat) (h : Cls X o cs) (hr : ¬ Cnf.right vars cs = 0) => new13_err vars o n d cs X HN.out h hr)
    have C14 := hid (fun (X : World) (hX : Below W4.heap.size W4 X) (hr : Cnf.right vars cs = 0) => new14 vars a n c cs X HN.out (HC.out.below (HB4.out.trans (hX.mono HB4.out.size))) hr)
    have C14e := hid (fun (X : World) (hX : Below W4.heap.size W4 X) (hr : ¬ Cnf.right vars cs = 0) => new14_err vars a n c cs X HN.out (HC.out.below (HB4.out.trans (hX.mono HB4.out.size))) hr)
    have HCB := hid (show ∀ c ∈ cs, (∀ x ∈ c, -2147483648 ≤ x ∧ x ≤ 2147483647) ∧ c.length ≤ 35184372088832 from fun c hc => by
      obtain ⟨k, hk, rfl⟩ := List.mem_iff_getElem.1 hc
      obtain ⟨b, off, a', cap', _, _, _, hl, hlen⟩ := HC.out.at hk
      have e : cs.getD k [] = cs[k] := by simp [List.getD, hk]
      rw [e] at hl hlen
      exact ⟨hl.1, hlen⟩)
    go_wp2_with fail
    go_at_call 11
    refine C11.out.mono ?_
    clear C11
    rintro e W5 ⟨rows, v, rfl, hrows, hRw, hB5⟩
    have hrl : rows.length = n := by rw [← HN.out, ← hrows]; simp
    obtain ⟨oF, dF, rfl⟩ := own_slc hRw.row
    rw [hrl] at hRw
    rw [hrl]
    have HRW := hid hRw
    have HRR := hid hrows
    have HRL := hid hrl
    have HB5 := hid hB5
    have C12' := hid (C12.out W5 hB5)
    clear hRw hrows hrl hB5 C12
    go_wp2_with fail
    go_at_call 12
    refine C12'.out.mono ?_
    clear C12'
    rintro e W6 ⟨qs, v, rfl, hqs, hM, hDis, hB6⟩
    have hql : qs.length = nl := by rw [← HNL.out, ← hqs]; simp
    obtain ⟨oS, dS, rfl⟩ := own_slc hM.row
    rw [hql] at hM
    rw [hql]
    have HMM := hid hM
    have HQS := hid hqs
    have HQL := hid hql
    have HDS := hid hDis
    have HB6 := hid hB6
    clear hM hqs hql hDis hB6
    obtain ⟨W7, hW7⟩ : ∃ W7, W6.alloc (.cells #[.int .i64 vars, .slice oF n dF] 24) = W7 := ⟨_, rfl⟩
    have hB7 : Below W6.heap.size W6 W7 := by rw [← hW7]; exact below_box _ _
    have hs7 : W7.heap.size = W6.heap.size + 1 := by rw [← hW7]; simp
    have hin : W7.heap[W6.heap.size]? = some (.cells #[.int .i64 vars, .slice oF n dF] 24 (0, 0)) := by rw [← hW7]; exact heap_alloc_new _ _
    have HIN := hid hin
    have HS7 := hid (show W4.heap.size ≤ W5.heap.size ∧ W5.heap.size ≤ W6.heap.size ∧ W7.heap.size = W6.heap.size + 1 from ⟨HB5.out.size, HB6.out.size, hs7⟩)
    have HB47 := hid (show Below W4.heap.size W4 W7 from (HB5.out.trans (HB6.out.mono HB5.out.size)).trans (hB7.mono (Nat.le_trans HB5.out.size HB6.out.size)))
    have HRW7 := hid (show Rws W4.heap.size W7 (.slice oF n dF) rows from ⟨own_below (own_below HRW.out.row HB6.out) hB7, fun q hq => own_below (own_below (HRW.out.each q hq) HB6.out) hB7, HRW.out.dis⟩)
    have HM7 := hid (show Mem W5.heap.size W7 (.slice oS nl dS) qs from HMM.out.keep (fun g hg => hB7.block g (HMM.out.row.lt g hg).2) (fun q hq g hg => hB7.block g ((HMM.out.each q hq).lt hg).2))
    have HLT := hid (show ∀ q ∈ qs, ∀ b, q.2.1.ownBlock = some b ∨ q.2.2.ownBlock = some b → b < W7.heap.size from fun q hq b hb => by have := ((HMM.out.each q hq).lt hb).2; omega)
    have HRB := hid (show ∀ q ∈ rows, ∀ b, q.2.ownBlock = some b → W4.heap.size ≤ b ∧ b < W5.heap.size from fun q hq b hb => ⟨(own_ltz (HRW.out.each q hq) hb).1, (own_ltz (HRW.out.each q hq) hb).2.1⟩)
    have HVB := hid (show ∀ b, (Value.slice oF n dF).ownBlock = some b → b < W5.heap.size from fun b hb => (own_ltz HRW.out.row hb).2.1)
    have HCL7 := hid (show Cls W7 oF cs by
      have := HRW7.out.cls (fun q hq => HCB.out q.1 (by rw [← HRR.out]; exact List.mem_map.2 ⟨q, hq, rfl⟩))
      rwa [HRR.out] at this)
    have HFB := hid (show ∀ X, Below W4.heap.size W4 X → X.cell? ⟨w.heap.size, 0, none⟩ = some (.int .i64 vars) ∧ X.cell? ⟨w.heap.size, 1, none⟩ = some (.slice a n c) from fun X hX => by
      have hl : w.heap.size < W4.heap.size := Nat.lt_of_lt_of_le (Array.getElem?_eq_some_iff.1 HX.out).1 HB4.out.size
      exact ⟨(hX.cell (p := ⟨w.heap.size, 0, none⟩) hl).trans z0, (hX.cell (p := ⟨w.heap.size, 1, none⟩) hl).trans z1⟩)
    have HD4 := hid (fun X (h : Below W4.heap.size W4 X) => HDone.out X (HB4.out.trans (h.mono HB4.out.size)))
    have u0 : W7.cell? ⟨W6.heap.size, 0, none⟩ = some (.int .i64 vars) := row_cell hin 0
    have u1 : W7.cell? ⟨W6.heap.size, 1, none⟩ = some (.slice oF n dF) := row_cell hin 1
    clear hB7 hs7 hin HMM HRW z0 z1
    by_cases hr : Cnf.right vars cs = 0
    · have C13' := hid (C13.out W7 oF dF HCL7.out hr)
      have C14' := hid (fun X hX => C14.out X hX hr)
      clear C13 C13e C14 C14e hr
      go_wp2_with fail
      clear hW7 u0 u1
      go_at_call 13
      refine C13'.out.mono ?_
      clear C13'
      rintro e W8 ⟨cb, bm, t0, r0, rfl, hck, hB8⟩
      have hB48 : Below W4.heap.size W4 W8 := HB47.out.trans (hB8.mono HB47.out.size)
      have HB48 := hid hB48
      have HCK := hid hck
      have HB8 := hid hB8
      obtain ⟨y0, y1⟩ := HFB.out W8 hB48
      have C14'' := hid (C14'.out W8 hB48)
      clear hck hB8 hB48 C14'
      go_wp2_with fail
      go_at_call 14
      refine C14''.out.mono ?_
      clear C14''
      rintro e W9 ⟨mb, hs0, v0, rfl, hdk, hB9⟩
      have HBT := hid (Bth.start (S := Ckr.new cs) HCK.out hB9 hdk)
      have HB9 := hid hB9
      clear hdk hB9 y0 y1 HCK
      have HB79 := hid (show Below W7.heap.size W7 W9 from HB8.out.trans (HB9.out.mono HB8.out.size))
      have HB49 := hid (show Below W4.heap.size W4 W9 from HB47.out.trans (HB79.out.mono HB47.out.size))
      have HFI := hid (FI.of (m := 0) (show Rws W4.heap.size W9 (.slice oF n dF) rows from ⟨own_below HRW7.out.row HB79.out, fun q hq => own_below (HRW7.out.each q hq) HB79.out, HRW7.out.dis⟩))
      have HDI := hid HRW7.out.dis
      have HIB := hid (show ∀ X, Out W4.heap.size W5.heap.size W9 X → X.cell? ⟨W6.heap.size, 1, none⟩ = some (.slice oF n dF) ∧ X.cell? ⟨w.heap.size, 1, none⟩ = some (.slice a n c) ∧ Below W4.heap.size W4 X from fun X hX => by
        obtain ⟨q1, q2, q3⟩ := HS7.out
        have h9 := HB79.out.size
        have hb := HB49.out.trans (hX.below HB49.out.size)
        refine ⟨?_, (HFB.out X hb).2, hb⟩
        rw [row_cell ((hX.block W6.heap.size (by omega) (.inr q2)).trans ((HB79.out.block W6.heap.size (by omega)).trans HIN.out)) 1]
        rfl)
      have HCS := hid (show ∀ X, Below W4.heap.size W4 X → Cls X a cs from fun X hX => HC.out.below (HB4.out.trans (hX.mono HB4.out.size)))
      clear HB79 HRW7 HCL7 HCB
      go_wp2_with fail
      go_loopw [11, 12] (fun iv _ wr => ∃ i : Nat, i ≤ n ∧ iv = .int .i64 i ∧ Hid (FI W4.heap.size 0 (.slice oF n dF) rows i wr) ∧ Hid (Out W4.heap.size W5.heap.size W9 wr)) (fun iv _ _ => n - (intOf iv).toNat)
      case atStart => exact ⟨0, Nat.zero_le _, rfl, HFI, hid (Out.refl _ _ _)⟩
      case round =>
        clear HFI
        obtain ⟨i, hi, rfl, HFI, HOU⟩ := hrel
        obtain ⟨x1, y1, hb4⟩ := HIB.out wr HOU.out
        by_cases hlt : i < n
        · have hlt' : (i : Int) < n := by omega
          have hir : i < rows.length := by rw [HRL.out]; exact hlt
          have hic : i < cs.length := by rw [HN.out]; exact hlt
          obtain ⟨gF, rfl⟩ : ∃ gF, oF = some ⟨gF, 0, none⟩ := by
            obtain ⟨gF, cF, curF, eF, _⟩ := own_some HFI.out.row (by omega)
            exact ⟨gF, by injection eF⟩
          obtain ⟨b, off, a', cap', rfl, _, y2, hly, _⟩ := (HCS.out wr hb4).at hic
          have ecs : cs.getD i [] = rows[i].1 := by
            have e1 : (rows.map (·.1))[i]? = cs[i]? := by rw [HRR.out]
            rw [List.getElem?_map, List.getElem?_eq_getElem hir, List.getElem?_eq_getElem hic] at e1
            simp [List.getD, hic]
            simpa using e1.symm
          rw [ecs] at y2 hly
          have hown := HFI.out.each i (Nat.le_refl _) hir
          obtain ⟨ai, ci, ei⟩ := own_slc hown
          have hrow := HFI.out.row
          rw [HRL.out] at hrow
          have x2 := hrow.cellAt i (by omega)
          rw [List.getElem?_map, List.getElem?_eq_getElem hir, Option.map_some, ei] at x2
          have hown2 := hown
          rw [ei] at hown2
          have hlx : Lits wr ai rows[i].1 := own_row hown2 hly.1
          have hll : rows[i].1.length ≤ 1500 := by
            have : rows[i].1.length ≤ cs.flatten.length := (List.sublist_flatten_of_mem (by rw [← HRR.out]; exact List.mem_map.2 ⟨_, List.getElem_mem hir, rfl⟩)).length_le
            have := HF.out.l
            omega
          have C15 := hid ((row15 ai a' rows[i].1.length ci rows[i].1.length cap' rows[i].1 rows[i].1 wr.drew rfl rfl (by omega) (hlx.below (Below.refl _ _).drew) (hly.below (Below.refl _ _).drew)).mono (R' := fun e w' => e = .returned (.bool true) ∧ Drawn wr w') (fun e w' hh => ⟨by rw [hh.1, decide_eq_true rfl], (Drawn.trans ⟨1, rfl⟩ hh.2)⟩))
          have HSET := hid (fun (X : World) (hX : FI W4.heap.size 0 (.slice (some ⟨gF, 0, none⟩) n dF) rows (i + 1) X) (g : Nat) (hg : rows[i].2.ownBlock = some g) (hc : ∃ cs, X.heap[g]? = some (.cells cs 40 (0, 0))) (k : Nat) => FI.set HDI.out hX hir (k := k) hg hc (.int .i32 9999))
          have HX2 := hid (fun (X : World) (hX : FI W4.heap.size 0 (.slice (some ⟨gF, 0, none⟩) n dF) rows (i + 1) X) => show X.cell? ⟨gF, i, none⟩ = some (.slice ai rows[i].1.length ci) from by
            have hrow2 := hX.row
            rw [HRL.out] at hrow2
            rw [hrow2.cellAt i (by omega), List.getElem?_map, List.getElem?_eq_getElem hir, Option.map_some, ei])
          have HOB := hid (HRB.out rows[i] (List.getElem_mem hir))
          have HOWN := hid (show ∃ ys, wr.ownsRow W4.heap.size 40 1 (.slice ai rows[i].1.length ci) rows[i].1.length ys from ⟨_, hown2⟩)
          have HFN := hid HFI.out.next
          rw [ei] at HSET HOB
          generalize rows[i].1.length = li at *
          clear hrow hown hown2 hlx hly ecs hir hic hb4 ei HFI
          have HQX := hid (show ∀ X, Drawn wr X → X.cell? ⟨W6.heap.size, 1, none⟩ = some (.slice (some ⟨gF, 0, none⟩) n dF) ∧ X.cell? ⟨w.heap.size, 1, none⟩ = some (.slice (some ⟨b, off, none⟩) n c) ∧ X.cell? ⟨gF, i, none⟩ = some (.slice ai li ci) ∧ X.cell? ⟨b, off + i, none⟩ = some (.slice a' li cap') ∧ Drawn wr X from fun X hX => ⟨(hX.cell _).trans x1, (hX.cell _).trans y1, (hX.cell _).trans x2, (hX.cell _).trans y2, hX⟩)
          have HDR := hid (show Drawn wr wr.drew from ⟨1, rfl⟩)
          go_wp2_with fail
          go_region_held3 (fun X => X.cell? ⟨W6.heap.size, 1, none⟩ = some (.slice (some ⟨gF, 0, none⟩) n dF) ∧ X.cell? ⟨w.heap.size, 1, none⟩ = some (.slice (some ⟨b, off, none⟩) n c) ∧ X.cell? ⟨gF, i, none⟩ = some (.slice ai li ci) ∧ X.cell? ⟨b, off + i, none⟩ = some (.slice a' li cap') ∧ Drawn wr X)
            (first | exact HQX.out _ HDR.out | exact HQX.out _ hd15)
            (first | (go_at_call 15; refine C15.out.mono ?_; rintro e w15 ⟨rfl, hd15⟩))
          all_goals
            have HFI2 := hid (HFN.out.drawn hd15)
            have HOU2 := hid (HOU.out.drawn hd15)
            have HOW2 := hid (show ∃ ys, w15.ownsRow W4.heap.size 40 1 (.slice ai li ci) li ys by
              obtain ⟨ys, h⟩ := HOWN.out
              exact ⟨ys, own_below h hd15.below'⟩)
            clear hd15 HFN HOU HOWN HQX HDR C15 x1 y1 x2 y2
            rcases Nat.eq_zero_or_pos li with h0 | h0
            · subst h0
              obtain ⟨x1, y1, _⟩ := HIB.out w15 HOU2.out
              have x2 := HX2.out w15 HFI2.out
              go_wp2_with fail
              go_loopw [12] (fun kv wx => kv = .int .i64 0 ∧ wx = w15) (fun _ _ => 0)
              case atStart => exact ⟨rfl, rfl⟩
              case round =>
                obtain ⟨rfl, hwx⟩ := hrel
                rw [hwx]
                clear hwx
                go_wp2
                go_roundw
                case rel => exact ⟨i + 1, by omega, by go_num, HFI2, HOU2⟩
                case measure => simp [intOf]; omega
            · obtain ⟨gi, rfl⟩ : ∃ gi, ai = some ⟨gi, 0, none⟩ := by
                obtain ⟨ys, h⟩ := HOW2.out
                obtain ⟨gi, ci', curi, egi, _⟩ := own_some h h0
                exact ⟨gi, by injection egi⟩
              obtain ⟨hgl, hgh⟩ := HOB.out gi rfl
              have HGL := hid hgl
              have HGH := hid hgh
              clear hgl hgh
              go_wp2_with fail
              go_loopw [12] (fun kv wx => ∃ k : Nat, k ≤ li ∧ kv = .int .i64 k ∧ Hid (FI W4.heap.size 0 (.slice (some ⟨gF, 0, none⟩) n dF) rows (i + 1) wx) ∧ Hid (∃ ys, wx.ownsRow W4.heap.size 40 1 (.slice (some ⟨gi, 0, none⟩) li ci) li ys) ∧ Hid (Out W4.heap.size W5.heap.size W9 wx)) (fun kv _ => li - (intOf kv).toNat)
              case atStart => exact ⟨0, Nat.zero_le _, rfl, HFI2, HOW2, HOU2⟩
              case round =>
                clear HFI2 HOW2 HOU2
                obtain ⟨k, hk, rfl, HFI2, HOW2, HOU2⟩ := hrel
                obtain ⟨x1, y1, _⟩ := HIB.out _ HOU2.out
                have x2 := HX2.out _ HFI2.out
                by_cases hkl : k < li
                · have hkl' : (k : Int) < li := by omega
                  obtain ⟨ys, hys⟩ := HOW2.out
                  have hyl := hys.1
                  have hck := hys.cellAt k (by omega)
                  have hfk := hys.frozenAt k
                  have hlk : k < ys.length := by omega
                  rw [List.getElem?_eq_getElem hlk] at hck
                  have HN2 := hid (show ∃ ys, (wr.setCell ⟨gi, k, none⟩ (.int .i32 9999)).ownsRow W4.heap.size 40 1 (.slice (some ⟨gi, 0, none⟩) li ci) li ys from ⟨_, (hys.stored k (.int .i32 9999)).1⟩)
                  have HF2 := hid (HSET.out _ HFI2.out gi rfl (own_blk (g := gi) hys rfl).2 k)
                  have HO2 := hid (HOU2.out.set (k := k) HGL.out HGH.out (.int .i32 9999))
                  generalize ys[k] = yv at hck
                  clear hys HOW2 HFI2 HOU2 hyl hlk
                  go_wp2
                  go_roundw
                  case rel => exact ⟨k + 1, by omega, by go_num, HF2, HN2, HO2⟩
                  case measure => simp [intOf]; omega
                · have hkl' : ¬ (k : Int) < li := by omega
                  go_wp2
                  go_roundw
                  case rel => exact ⟨i + 1, by omega, by go_num, HFI2, HOU2⟩
                  case measure => simp [intOf]; omega
        · have hge : ¬ (i : Int) < n := by omega
          obtain ⟨q1, q2, q3⟩ := HS7.out
          have hs9 : W7.heap.size ≤ W9.heap.size := Nat.le_trans HB8.out.size HB9.out.size
          have HBT2 := hid (HBT.out.hi HB8.out.size HOU.out.size (fun g hg hl => HOU.out.block g hl (.inr (by omega))))
          have HB4R := hid hb4
          have HMR := hid (show Mem W5.heap.size wr (.slice oS nl dS) qs from HM7.out.keep (fun g hg => by
              have := HM7.out.row.lt g hg
              exact (HOU.out.block g (by omega) (.inr this.1)).trans ((HB8.out.trans (HB9.out.mono HB8.out.size)).block g this.2)) (fun q hq g hg => by
              have := (HM7.out.each q hq).lt hg
              exact (HOU.out.block g (by omega) (.inr this.1)).trans ((HB8.out.trans (HB9.out.mono HB8.out.size)).block g this.2)))
          have HNN := hid (show W7.heap.size ≤ W8.heap.size from HB8.out.size)
          have HW8 := hid (show W4.heap.size ≤ W7.heap.size from HB47.out.size)
          have HC0 := hid (show (Ckr.new cs).C.length ≤ 200 ∧ (Ckr.all (Ckr.new cs).C).length ≤ 1500 by
            have h1 := HF.out.n
            have h2 := HF.out.l
            refine ⟨?_, ?_⟩
            · show (Ckr.num 1 cs).length ≤ 200
              rw [Ckr.num_len]; exact h1
            · show (Ckr.all (Ckr.num 1 cs)).length ≤ 1500
              rw [Ckr.num_all]; omega)
          have HSL := hid (show ∀ j (hj : j < ss.length), ss[j].lits.length ≤ 1500 ∧ ss[j].hints.length ≤ 1500 from fun j hj => by
            have h1 := Lra.items_le ss (j + 1)
            rw [Lra.items_take ss j hj] at h1
            have := HF.out.s
            omega)
          clear HBT HFI HOU HIN hge
          rcases Nat.eq_zero_or_pos nl with h0 | h0
          · subst h0
            have C20 := hid (HBT2.out.same (by have := HN.out; omega) (by have := HC0.out.1; omega))
            go_wp2_with fail
            go_loopw [13, 14, 15] (fun iv _ _ wx => iv = .int .i64 0 ∧ wx = wr) (fun _ _ _ _ => 0)
            case atStart => exact ⟨rfl, rfl⟩
            case round =>
              obtain ⟨rfl, hwx⟩ := hrel
              rw [hwx]
              clear hwx
              go_wp2_with fail
              go_at_call 20
              refine C20.out.mono ?_
              rintro e w20 ⟨rfl, hb20, _⟩
              go_wp2_with (go_at_call 10; refine (C10.out _).mono ?_; rintro e W10 ⟨rfl, h6⟩; have OUT := hid (HD4.out W10 ((HB4R.out.trans (hb20.mono HB4R.out.size)).trans (h6.mono (Nat.le_trans HB4R.out.size hb20.size)))); clear h6)
              go_ret
              exact ⟨rfl, OUT.out⟩
          · obtain ⟨gS, rfl⟩ : ∃ gS, oS = some ⟨gS, 0, none⟩ := by
              obtain ⟨gS, c', e1, _⟩ := HMR.out.row.form (by rw [HQL.out]; exact h0)
              exact ⟨gS, by injection e1⟩
            have hgS := HM7.out.row.lt gS rfl
            have HGS := hid hgS
            have HMI := hid (MI.of HMR.out (by rw [HQL.out]; exact h0))
            have hcap : nl ≤ dS ∧ dS ≤ maxLen := by
              rcases HMR.out.row.2 with ⟨e, _⟩ | ⟨g', cap, cur, e, _, _, q1, q2, _⟩
              · cases e
              · injection e with _ _ e
                have := HQL.out
                omega
            have hdS1 : nl ≤ dS := hcap.1
            have hdS2 : dS ≤ 9223372036854775807 := by have := hcap.2; unfold maxLen at this; omega
            clear hcap hgS HMR HM7
            go_wp2_with fail
            go_loopw [13, 14, 15] (fun iv _ _ wx => ∃ (i k : Nat) (S : Ckr.St), i ≤ nl ∧ iv = .int .i64 i ∧ Hid (k ≤ 200 + i) ∧ Hid (S.C.length ≤ 200 + i ∧ (Ckr.all S.C).length ≤ 1500 + 1500 * i) ∧ Hid (Bth W7.heap.size W8.heap.size cb bm mb k wx S) ∧ Hid (MI W5.heap.size gS qs i wx) ∧ Hid (Below W4.heap.size W4 wx)) (fun iv _ _ _ => nl - (intOf iv).toNat)
            case atStart => exact ⟨0, cs.length, Ckr.new cs, Nat.zero_le _, rfl, hid (by have := HN.out; omega), hid (by have := HC0.out; omega), HBT2, HMI, HB4R⟩
            case round =>
              clear HBT2 HMI HB4R
              obtain ⟨i2, k, S, hi2, rfl, HK, HSC, HBT2, HMI, HB4R⟩ := hrel
              by_cases hlt2 : i2 < nl
              · have hlt2' : (i2 : Int) < nl := by omega
                have hiq : i2 < qs.length := by rw [HQL.out]; exact hlt2
                have his : i2 < ss.length := by rw [HNL.out]; exact hlt2
                have eqs : qs[i2].1 = ss[i2] := by
                  have e1 : (qs.map (·.1))[i2]? = ss[i2]? := by rw [HQS.out]
                  rw [List.getElem?_map, List.getElem?_eq_getElem hiq, List.getElem?_eq_getElem his] at e1
                  simpa using e1
                obtain ⟨b, off, a1', c1', a2', c2', rfl, hst4, hcc'⟩ := (HS.out.below HB4.out).at his
                have hstw := hst4.below HB4R.out
                obtain ⟨hl15, hh15⟩ := HSL.out i2 his
                have hfit : Fits qs[i2].1 := by
                  rw [eqs]
                  exact ⟨hst4.v.k, hst4.v.i, hst4.v.l.1, hst4.v.h.1, hst4.v.n⟩
                obtain ⟨a1, c1, a2, c2, ev1, ev2, hsv, hcc, s0, s1, s2, s3, ho1, ho2⟩ := HMI.out.at hiq hfit
                have hql := HLT.out qs[i2] (List.getElem_mem hiq)
                have hqe := HMI.out.each i2 (Nat.le_refl _) hiq
                rw [eqs] at hsv hcc s0 s1 s2 s3 ev1 ev2
                have HLB := hid (show (∀ b, (Value.slice a1 ss[i2].lits.length c1).ownBlock = some b → W5.heap.size ≤ b ∧ b < W7.heap.size) ∧ (∀ b, (Value.slice a2 ss[i2].hints.length c2).ownBlock = some b → W5.heap.size ≤ b ∧ b < W7.heap.size) from ⟨fun b hb => ⟨(hqe.lt (.inl (by rw [ev1]; exact hb))).1, hql b (.inl (by rw [ev1]; exact hb))⟩, fun b hb => ⟨(hqe.lt (.inr (by rw [ev2]; exact hb))).1, hql b (.inr (by rw [ev2]; exact hb))⟩⟩)
                have hbd : Below wr.heap.size wr wr.drew := (Below.refl _ _).drew
                have hn7 : W7.heap.size ≤ wr.heap.size := by
                  obtain ⟨t, r, hs2, v, h1, _, _⟩ := HBT2.out
                  exact h1.facts.2.2.2.2
                have C16 := hid (both16 (HBT2.out.below hbd) (by have := HK.out; unfold maxLen; omega) ss[i2] a1 c1 a2 c2 (hsv.below hbd) (fun g off e => hql g (.inl (ho1 g off e))) (fun g off e => hql g (.inr (ho2 g off e))) hcc hl15 hh15)
                have C17 := hid (fun (X : World) (h : Mid6 W7.heap.size W8.heap.size cb bm mb k wr.drew S (Ckr.stepP S ss[i2]).2 X) => both17 ss[i2] rfl h HNN.out (by have := HSC.out.1; omega) (by have := HSC.out.2; omega) (HB4R.out.trans (hbd.mono HB4R.out.size)) HW8.out a1' c1' a2' c2' hst4.v hcc' hl15 hh15 hn7)
                have HQX := hid (show ∀ X, Below W7.heap.size wr X → (X.cell? ⟨gS, i2 * 4, none⟩ = some (.int .u8 ss[i2].kind) ∧ X.cell? ⟨gS, i2 * 4 + 1, none⟩ = some (.int .i64 ss[i2].id) ∧ X.cell? ⟨gS, i2 * 4 + 2, none⟩ = some (.slice a1 ss[i2].lits.length c1) ∧ X.cell? ⟨gS, i2 * 4 + 3, none⟩ = some (.slice a2 ss[i2].hints.length c2)) ∧ X.cell? ⟨b, off + i2 * 4, none⟩ = some (.int .u8 ss[i2].kind) ∧ X.cell? ⟨b, off + i2 * 4 + 1, none⟩ = some (.int .i64 ss[i2].id) ∧ X.cell? ⟨b, off + i2 * 4 + 2, none⟩ = some (.slice a1' ss[i2].lits.length c1') ∧ X.cell? ⟨b, off + i2 * 4 + 3, none⟩ = some (.slice a2' ss[i2].hints.length c2') from fun X hX => by
                  have hg := HGS.out.2
                  have hb1 : b < W7.heap.size := Nat.lt_of_lt_of_le (cell_lt hst4.k) HW8.out
                  exact ⟨⟨(hX.cell (p := ⟨gS, i2 * 4, none⟩) hg).trans s0, (hX.cell (p := ⟨gS, i2 * 4 + 1, none⟩) hg).trans s1, (hX.cell (p := ⟨gS, i2 * 4 + 2, none⟩) hg).trans s2, (hX.cell (p := ⟨gS, i2 * 4 + 3, none⟩) hg).trans s3⟩, (hX.cell (p := ⟨b, off + i2 * 4, none⟩) hb1).trans hstw.k, (hX.cell (p := ⟨b, off + i2 * 4 + 1, none⟩) hb1).trans hstw.i, (hX.cell (p := ⟨b, off + i2 * 4 + 2, none⟩) hb1).trans hstw.l, (hX.cell (p := ⟨b, off + i2 * 4 + 3, none⟩) hb1).trans hstw.h⟩)
                have C18 := hid (fun (X : World) (hX : Below W7.heap.size wr X) => (sameStep23 ss[i2] ss[i2] a1 c1 a2 c2 a1' c1' a2' c2' X (by
                  have hm := (HMI.out.keep hX HGS.out.2 HLT.out).at hiq hfit
                  obtain ⟨p1, p2, p3, p4, pv1, pv2, psv, _⟩ := hm
                  rw [eqs] at psv pv1 pv2
                  rw [ev1] at pv1
                  rw [ev2] at pv2
                  injection pv1 with pv1 _ _
                  injection pv2 with pv2 _ _
                  rw [pv1, pv2]
                  exact psv) (hst4.v.below (HB4R.out.trans (hX.mono HW8.out)))).mono (R' := fun e w' => e = .returned (.bool true) ∧ Below X.heap.size X w') (fun e w' hh => ⟨by rw [hh.1, decide_eq_true rfl], hh.2⟩))
                have HMX := hid (fun (X : World) (hX : Below W7.heap.size wr X) => HMI.out.keep hX HGS.out.2 HLT.out)
                have HFEW := hid (Ckr.stepP_few S ss[i2])
                have C19 := hid (show ∀ (X : World) (hm : MI W5.heap.size gS qs i2 X) (c9 : Nat), Calls Try.prog 19 #[.slice (some ⟨gS, i2 * 4, none⟩) 1 c9] X fun e W' => e = .returned (.tuple #[]) ∧ T1 gS (i2 * 4 + 1) (Value.slice a1 ss[i2].lits.length c1).ownBlock (Value.slice a2 ss[i2].hints.length c2).ownBlock X W' from fun X hm c9 => by
                  obtain ⟨cs9, z1, z2⟩ := hm.row
                  have hq9 := hm.each i2 (Nat.le_refl _) hiq
                  have y1 := z2 i2 (Nat.le_refl _) hiq 1 _ rfl
                  have y2 := z2 i2 (Nat.le_refl _) hiq 2 _ rfl
                  have y3 := z2 i2 (Nat.le_refl _) hiq 3 _ rfl
                  have l9 := hq9.l
                  have h9 := hq9.h
                  rw [eqs, ev1] at l9
                  rw [eqs, ev2] at h9
                  rw [ev1] at y2
                  rw [ev2] at y3
                  exact spoil19 W5.heap.size X gS (i2 * 4) c9 cs9 _ a1 ss[i2].lits.length c1 a2 ss[i2].hints.length c2 _ _ z1 y1 y2 y3 l9 h9 (by omega) (by omega))
                have HSPO := hid (fun (X X' : World) (hm : MI W5.heap.size gS qs i2 X) (ht : T1 gS (i2 * 4 + 1) (Value.slice a1 ss[i2].lits.length c1).ownBlock (Value.slice a2 ss[i2].hints.length c2).ownBlock X X') => hm.spoil hiq HDS.out (by rw [ev1, ev2]; exact ht))
                obtain ⟨d1, hd1⟩ : ∃ d1, (Ckr.stepP S ss[i2]).1 = d1 := ⟨_, rfl⟩
                obtain ⟨S', hS'⟩ : ∃ S', (Ckr.stepP S ss[i2]).2 = S' := ⟨_, rfl⟩
                rw [hd1, hS'] at C16
                rw [hS'] at C17 HFEW
                rw [hd1] at C17
                have HBDR := hid (show Below W7.heap.size wr wr.drew from hbd.mono hn7)
                have HN7 := hid hn7
                have HL15 := hid hl15
                unfold sval at C16 C17 C18
                clear hd1 hS' hst4 hstw hsv hcc hcc' s0 s1 s2 s3 ho1 ho2 hql hqe hfit hbd ev1 ev2 HBT2 HMI hn7 hl15 hh15
                generalize ss[i2].kind = kd at *
                generalize ss[i2].id = sid at *
                generalize ss[i2].lits.length = l1 at *
                generalize ss[i2].hints.length = l2 at *
                clear hiq his eqs
                go_wp2_with fail
                go_region_held3 (fun X => (X.cell? ⟨gS, i2 * 4, none⟩ = some (.int .u8 kd) ∧ X.cell? ⟨gS, i2 * 4 + 1, none⟩ = some (.int .i64 sid) ∧ X.cell? ⟨gS, i2 * 4 + 2, none⟩ = some (.slice a1 l1 c1) ∧ X.cell? ⟨gS, i2 * 4 + 3, none⟩ = some (.slice a2 l2 c2)) ∧ X.cell? ⟨b, off + i2 * 4, none⟩ = some (.int .u8 kd) ∧ X.cell? ⟨b, off + i2 * 4 + 1, none⟩ = some (.int .i64 sid) ∧ X.cell? ⟨b, off + i2 * 4 + 2, none⟩ = some (.slice a1' l1 c1') ∧ X.cell? ⟨b, off + i2 * 4 + 3, none⟩ = some (.slice a2' l2 c2'))
                  (first | exact HQX.out _ HBDR.out | exact HQX.out _ hb16 | exact HQX.out _ hb17)
                  (first | (go_at_call 16; refine C16.out.mono ?_; rintro e w16 ⟨rfl, hm16⟩; have hb16 := HBDR.out.trans hm16.2.2) | (go_at_call 17; refine (C17.out _ hm16).mono ?_; rintro e w17 ⟨rfl, hk17, hb17'⟩; have hb17 := HBDR.out.trans hb17'))
                all_goals
                  have hdd : (d1 != d1) = false := by simp
                  have hb17d : Below W7.heap.size wr w17.drew := hb17.trans ((Below.refl w17.heap.size w17).drew.mono (Nat.le_trans HN7.out hb17.size))
                  have HB17 := hid hb17
                  have HB17D := hid hb17d
                  have HK17 := hid hk17
                  have C18' := hid (C18.out _ hb17d)
                  clear hb16 hm16 hb17' hb17 hb17d hk17 C16 C17 C18
                  go_wp2_with fail
                  go_region_held3 (fun X => (X.cell? ⟨gS, i2 * 4, none⟩ = some (.int .u8 kd) ∧ X.cell? ⟨gS, i2 * 4 + 1, none⟩ = some (.int .i64 sid) ∧ X.cell? ⟨gS, i2 * 4 + 2, none⟩ = some (.slice a1 l1 c1) ∧ X.cell? ⟨gS, i2 * 4 + 3, none⟩ = some (.slice a2 l2 c2)) ∧ X.cell? ⟨b, off + i2 * 4, none⟩ = some (.int .u8 kd) ∧ X.cell? ⟨b, off + i2 * 4 + 1, none⟩ = some (.int .i64 sid) ∧ X.cell? ⟨b, off + i2 * 4 + 2, none⟩ = some (.slice a1' l1 c1') ∧ X.cell? ⟨b, off + i2 * 4 + 3, none⟩ = some (.slice a2' l2 c2'))
                    (first | exact HQX.out _ HB17D.out | exact HQX.out _ hb18)
                    (first | (go_at_call 18; refine C18'.out.mono ?_; rintro e w18 ⟨rfl, hb18'⟩; have hb18 := HB17D.out.trans (hb18'.mono (Nat.le_trans HN7.out HB17D.out.size))))
                  all_goals
                    have hb1718 : Below w17.heap.size w17 w18 := (Below.refl w17.heap.size w17).drew.trans (hb18'.mono (Nat.le_refl _))
                    have HMI8 := hid (HMX.out _ hb18)
                    have HB18 := hid hb18
                    obtain ⟨k7, hk7, hbt7⟩ := HK17.out
                    have HBT8 := hid (hbt7.below hb1718)
                    have HK7 := hid hk7
                    have C19' := hid (C19.out _ HMI8.out (dS - i2))
                    clear hb18 hb18' hb1718 hbt7 hk7 C18' C19 HQX
                    go_wp2_with fail
                    go_at_call 19
                    refine C19'.out.mono ?_
                    clear C19'
                    rintro e w19 ⟨rfl, ht19⟩
                    have HBT9 := hid (HBT8.out.spoilt HNN.out ht19 HGS.out.2 (fun b hb => (HLB.out.1 b hb).2) (fun b hb => (HLB.out.2 b hb).2))
                    have HMI9 := hid (HSPO.out _ _ HMI8.out ht19)
                    have h45 : W4.heap.size ≤ W5.heap.size := HS7.out.1
                    have HB49R := hid (ht19.low (HB4R.out.trans (HB18.out.mono HW8.out)) (Nat.le_trans h45 HGS.out.1) (fun b hb => Nat.le_trans h45 (HLB.out.1 b hb).1) (fun b hb => Nat.le_trans h45 (HLB.out.2 b hb).1))
                    have HSC2 := hid (show S'.C.length ≤ 200 + (i2 + 1) ∧ (Ckr.all S'.C).length ≤ 1500 + 1500 * (i2 + 1) by
                      have := HSC.out
                      have := HFEW.out
                      have := HL15.out
                      omega)
                    have HK2 := hid (show k7 ≤ 200 + (i2 + 1) by have := HK.out; have := HK7.out; omega)
                    have C20 := hid (HBT9.out.same (by have := HK2.out; omega) (by have := HSC2.out.1; omega))
                    clear ht19 h45 HBT8 HMI8 HB18 HB17 HB17D HK17
                    go_wp2_with fail
                    go_at_call 20
                    refine C20.out.mono ?_
                    clear C20
                    rintro e w20 ⟨rfl, hb20, hbt20⟩
                    have HBT20 := hid hbt20
                    have HB20 := hid hb20
                    have HMI20 := hid (HMI9.out.keep (hb20.mono (show W7.heap.size ≤ w19.heap.size by
                      obtain ⟨t, r, hs2, v, h1, _, _⟩ := HBT9.out
                      exact h1.facts.2.2.2.2)) HGS.out.2 HLT.out)
                    have HB4N := hid (HB49R.out.trans (hb20.mono HB49R.out.size))
                    clear hb20 hbt20 HMI9 HBT9 HB49R
                    go_wp2
                    go_roundw
                    case rel => exact ⟨i2 + 1, k7, S', by omega, by go_num, HK2, HSC2, HBT20, HMI20, HB4N⟩
                    case measure => simp [intOf]; omega
              · have hge2 : ¬ (i2 : Int) < nl := by omega
                have C20 := hid (HBT2.out.same (by have := HK.out; omega) (by have := HSC.out.1; omega))
                go_wp2_with fail
                go_at_call 20
                refine C20.out.mono ?_
                rintro e w20 ⟨rfl, hb20, _⟩
                go_wp2_with (go_at_call 10; refine (C10.out _).mono ?_; rintro e W10 ⟨rfl, h6⟩; have OUT := hid (HD4.out W10 ((HB4R.out.trans (hb20.mono HB4R.out.size)).trans (h6.mono (Nat.le_trans HB4R.out.size hb20.size)))); clear h6)
                go_ret
                exact ⟨rfl, OUT.out⟩
    · have C13' := hid (C13e.out W7 oF dF HCL7.out hr)
      have C14' := hid (fun X hX => C14e.out X hX hr)
      have hq1 : (Cnf.right vars cs == 0) = false := by simpa using hr
      have hq2 : (Cnf.right vars cs != 0) = true := by simpa using hr
      have hq3 : (Cnf.right vars cs != Cnf.right vars cs) = false := by simp
      clear C13 C13e C14 C14e hr
      generalize Cnf.right vars cs = q at *
      go_wp2_with fail
      clear hW7 u0 u1
      go_at_call 13
      refine C13'.out.mono ?_
      clear C13'
      rintro e W8 ⟨rfl, hB8⟩
      have hB48 : Below W4.heap.size W4 W8 := HB47.out.trans (hB8.mono HB47.out.size)
      have HB48 := hid hB48
      obtain ⟨y0, y1⟩ := HFB.out W8 hB48
      have C14'' := hid (C14'.out W8 hB48)
      clear hB8 hB48 C14'
      go_wp2_with fail
      go_at_call 14
      refine C14''.out.mono ?_
      clear C14''
      rintro e W9 ⟨rfl, hB9⟩
      have HB49 := hid (HB48.out.trans (hB9.mono HB48.out.size))
      clear hB9 y0 y1
      go_wp2_with (go_at_call 10; refine (C10.out _).mono ?_; rintro e W10 ⟨rfl, h6⟩; have OUT := hid (HD4.out W10 (HB49.out.trans (h6.mono HB49.out.size))); clear h6)
      go_ret
      exact ⟨rfl, OUT.out⟩
end Go.Proofs.Ytjjanmgeogjngaa

/- A checker of any formula answers any row of steps as the document says, and holds the clauses that it says (at most 1500 literals and clauses, 200 clauses; 1500 steps, literals and hints: beyond that nothing is asked); the input reads as it did. No condition. -/
namespace Go.Proofs.Ytjjanmgeogjngaa.checkPlays
open Go.ChangeShapes Go.WideShapes Go.ChangeAt Go.ChangeMaps Go.RowKit Go.Joins
set_option linter.unusedVariables false

set_option maxRecDepth 100000 in
theorem lifted (os : Os) (started : os.Started) (H : Type) (enc : TypeId × Value → H) :
    ReturnsInHanded {} Try.checked os 3 .any (Rows.checkPlaysSpec.pre6 enc Try.prog Try.f3 Rows.checkPlaysRow.domain false) (Rows.checkPlaysSpec.post enc Try.prog Try.f3 false true false false) := by
  refine returnsInHanded_of_change_sized (C := Try.checked) own started (by kernel_rfl) Try.func3
    (ChangeSpec.witness6 (enc := enc) (C := Try.checked) false ⟨#[], #[.agg #[.int .i64 0, .slice none 0 0], .slice none 0 0], []⟩ 8 (by kernel_rfl) (by kernel_rfl) (by kernel_rfl) (by kernel_rfl)) ?_
  intro W base args ds gs before hval0 hW hcnd0 hsz0 hholds
  have hval : ∀ (j : Nat) t v, Try.f3.params[j]? = some t → args[j]? = some v → Value.okWide Try.prog W .any base t v := hval0
  have hsz : (DataW.weightsEach Try.prog (Try.f3.params.toList ++ Rows.checkPlaysSpec.plain.varTypes Try.prog) (ds ++ gs)).all (· ≤ reachBytes) = true := hsz0
  have hW' := hW
  obtain ⟨p, q, hA0, hV, rfl, hfz, hnd⟩ := hW
  have hA : DataW.TrodAll enc Try.prog W 0 (fun _ => true) true Try.f3.params.toList args.toList ds p := hA0
  rw [Try.params3] at hA hval hsz
  obtain ⟨v0, vs0, d0, ds0, p0, q0, hargs, rfl, rfl, h0, r0⟩ := trodAll_cons hA
  obtain ⟨v1, vs1, d1, ds1, p1, q1, rfl, rfl, rfl, h1, r1⟩ := trodAll_cons r0
  obtain ⟨rfl, rfl, rfl⟩ := trodAll_nil r1
  obtain rfl : args = #[v0, v1] := by cases args; simp_all
  obtain ⟨rfl, rfl⟩ := trodVars_none hV
  have k0 := h0
  have lt0 : ∀ x ∈ p0, x.block < W.heap.size := by obtain ⟨m, hm⟩ := k0; exact DataW.trod_lt m _ _ _ hm
  obtain ⟨c00, c01, y00, y01, m0, rfl, rfl, rfl, hy00, hy01⟩ := open_agg2 Try.underlying24 (by kernel_rfl) cellsF (hval 0 24 v0 rfl rfl) h0
  obtain ⟨vars0, e00, e01, wv0⟩ := DataW.trod_int Try.underlying3 hy00
  simp only [List.cons.injEq, and_true] at e00
  subst e00
  have hws0 : ∀ x ∈ y01.1.weights Try.prog 22, x ≤ reachBytes := by
    intro x hx
    have hm2 : x ∈ (DataW.agg [y00.1, y01.1] : DataW H).weights Try.prog 24 := by
      simp only [DataW.weights, Try.underlying24]
      exact DataW.weights_mem_each (j := 1) rfl rfl x hx
    have := List.all_eq_true.1 hsz _ (DataW.weights_mem_each (j := 0) (t := 24) (d := .agg [y00.1, y01.1]) rfl rfl x hm2)
    simpa using this
  obtain ⟨a0, len0, cap0, z0, rfl, hl0, w0, hn0⟩ := cls_open hy01 hws0
  have k1 := h1
  have lt1 : ∀ x ∈ p1, x.block < W.heap.size := by obtain ⟨m, hm⟩ := k1; exact DataW.trod_lt m _ _ _ hm
  obtain ⟨a1, len1, cap1, rfl⟩ := okWide_slice Try.underlying25 (hval 1 25 v1 rfl rfl)
  obtain ⟨fu1, hf1⟩ := h1
  have hws1 : ∀ x ∈ d1.weights Try.prog 25, x ≤ reachBytes := by
    intro x hx
    have := List.all_eq_true.1 hsz _ (DataW.weights_mem_each (j := 1) (t := 25) (d := d1) rfl rfl x hx)
    simpa using this
  obtain ⟨_, _, _, z1, e1, hl1, w1, hn1⟩ := steps_open (y := (d1, p1)) hf1 hws1
  injection e1 with e1a e1b e1c
  subst e1a e1b e1c
  clear hA0 hval0
  refine (law3 vars0 a0 len0 cap0 z0 a1 len1 cap1 z1 W hl0 hn0 w0 hl1 hn1 w1).mono fun e W' ⟨he, bel⟩ => ?_
  subst he
  exact ⟨_, rfl, _, _, _, [], _, [], hW', trodAll_mk1 (shut_bool Try.underlying4 _), (trodAll_cons_mk (Below.trod laidOut (by kernel_rfl) (of_decide_eq_true (by kernel_rfl)) k0 bel lt0) (trodAll_cons_mk (Below.trod laidOut (by kernel_rfl) (of_decide_eq_true (by kernel_rfl)) k1 bel lt1) trodAll_mk0)), rfl, bel.frame _, fun h => by cases h⟩

theorem over : Rows.checkPlaysRow.holds Try.pinned (OpenSpec.ofChange Rows.checkPlaysSpec) :=
  OpenClaim.holds_of_wide 3 Try.f3 rfl rfl rfl rfl rfl rfl rfl ⟨rfl, rfl, rfl, rfl, rfl⟩ rfl rfl rfl rfl rfl (by kernel_rfl) Try.func3 (by kernel_rfl)
    (of_decide_eq_true (by kernel_rfl)) (by unfold Func.isWrapper; first | (rw [if_pos (by decide +kernel)]; kernel_rfl) | (rw [if_neg (by decide +kernel)]; exact ⟨rfl, rfl⟩))
    (fun os started H enc _ => lifted os started H enc)

end Go.Proofs.Ytjjanmgeogjngaa.checkPlays
namespace Go.Proofs.Ytjjanmgeogjngaa
open Go

/-- The given statement. -/
theorem checkPlays_holds : Rows.CheckPlaysSaid := checkPlays.over
end Go.Proofs.Ytjjanmgeogjngaa

