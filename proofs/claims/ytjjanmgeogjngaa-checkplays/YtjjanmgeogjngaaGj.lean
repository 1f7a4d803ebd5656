/- The document's groups of hints: the call. -/
import Derived.Test.YtjjanmgeogjngaaGi
import Derived.Test.YtjjanmgeogjngaaGc
/- The document's groups of hints: the call. -/
namespace Go.Proofs.Ytjjanmgeogjngaa
open Go.RowKit Go.Maps
set_option linter.unusedVariables false
set_option linter.unusedSimpArgs false

theorem hnts_take {w : World} {a : Option Addr} {xs : List Int} (h : Hnts w a xs) (j : Nat) : Hnts w a (xs.take j) := by
  refine ⟨fun x hx => h.1 x (List.mem_of_mem_take hx), ?_⟩
  rcases h.2 with h | ⟨b, off, e, hl, hc⟩
  · left; rw [h]; simp
  · refine .inr ⟨b, off, e, hl, fun i hi => ?_⟩
    have hi' : i < j ∧ i < xs.length := by simp at hi; omega
    rw [hc i hi'.2]
    simp [List.getD, hi'.1]
theorem hnts_drop {w : World} {b off : Nat} {xs : List Int} (h : Hnts w (some ⟨b, off, none⟩) xs) (j : Nat) : Hnts w (some ⟨b, off + j, none⟩) (xs.drop j) := by
  refine ⟨fun x hx => h.1 x (List.mem_of_mem_drop hx), ?_⟩
  rcases h.2 with h | ⟨b', off', e, hl, hc⟩
  · left; rw [h]; simp
  · simp only [Option.some.injEq, Addr.mk.injEq] at e
    obtain ⟨rfl, rfl, _⟩ := e
    refine .inr ⟨b, off + j, rfl, hl, fun i hi => ?_⟩
    have hi' : j + i < xs.length := by simp at hi; omega
    rw [show off + j + i = off + (j + i) by omega, hc (j + i) hi']
    simp [List.getD]
theorem hnts_none (w : World) (a : Option Addr) : Hnts w a [] := ⟨(fun x h => by cases h), .inl rfl⟩
theorem last_cell {W : World} {base m c : Nat} {o : Option Addr} {met : List Int} (h : W.ownsRow base 2 1 (.slice o m c) m (met.map (Value.int .i64))) (hm : met.length = m) (hp : 0 < m) : ∃ g, o = some ⟨g, 0, none⟩ ∧ W.cell? ⟨g, m - 1, none⟩ = some (.int .i64 (met.getLastD 0)) := by
  rcases h.2 with ⟨_, h0⟩ | ⟨g, cap, cur, e1, hb, hg, hnc, hcm, hcs, htk⟩
  · omega
  · injection e1 with e1 _ _
    subst e1
    refine ⟨g, rfl, ?_⟩
    have hl : met[m - 1]? = some (met.getLastD 0) := by
      rw [← hm, List.getLastD_eq_getLast?, List.getLast?_eq_getElem?]
      rw [List.getElem?_eq_getElem (by omega)]
      simp
    have e2 : (cur.toList.take (m * 1))[m - 1]? = cur.toList[m - 1]? := List.getElem?_take_of_lt (by omega)
    rw [htk, List.getElem?_map, hl] at e2
    rw [row_cell hg (m - 1), ← Array.getElem?_toList, ← e2]
    rfl

theorem sum_facts {nh nx : Nat} (k q : Nat) (hk : k ≤ nh) (hnb : nh ≤ 1048576) (hq : q ≤ nx) (hx : nx = nh - (k + 1)) : IntKind.i64.wrap ((k : Int) + 1 + (q : Int)) = (k : Int) + 1 + (q : Int) ∧ IntKind.i64.wrap ((k : Int) + 1) = (k : Int) + 1 ∧ wrap64 ((k : Int) + 1 + (q : Int)) = (k : Int) + 1 + (q : Int) ∧ wrap64 ((k : Int) + 1) = (k : Int) + 1 := by
  rw [IntKind.wrap_i64, IntKind.wrap_i64]
  unfold wrap64
  refine ⟨by omega, by omega, by omega, by omega⟩
theorem sum_cap {nh nx k q ch : Nat} (hk : k ≤ nh) (hch : nh ≤ ch) (hq : q ≤ nx) (hx : nx = nh - (k + 1)) (hlt : k < nh) : (k : Int) + 1 + (q : Int) ≤ (ch : Int) := by omega
theorem sum_nat {k q ch : Nat} (h : (k : Int) + 1 + (q : Int) ≤ (ch : Int)) : k + 1 + q ≤ ch := by omega
theorem len_take {xs : List Int} {n q nx : Nat} (h : xs.length = n) (hq : q ≤ nx) (hx : nx = n) : (xs.take q).length = q := by rw [List.length_take]; omega
theorem met_cell {W : World} {base m c g : Nat} {met : List Int} (h : W.ownsRow base 2 1 (.slice (some ⟨g, 0, none⟩) m c) m (met.map (Value.int .i64))) (hm : met.length = m) {u : Nat} (hu : u < m) : W.cell? ⟨g, u, none⟩ = some (.int .i64 (met.getD u 0)) := by
  have := h.cells (g := g) rfl u (.int .i64 (met.getD u 0)) (by simp [List.getD, show u < met.length by omega])
  rwa [show (⟨g, 0, none⟩ : Addr).add u = ⟨g, 0 + u, none⟩ from Go.WideShapes.add_plain _ _ _, Nat.zero_add] at this
theorem mem_take (xs : List Int) (x : Int) (u : Nat) (hu : u < xs.length) : decide (x ∈ xs.take (u + 1)) = (decide (x ∈ xs.take u) || (xs.getD u 0 == x)) := by
  rw [Lra.take_snoc xs u hu]
  generalize xs.getD u 0 = y
  by_cases h : x ∈ xs.take u
  · simp [h]
  · by_cases h2 : y = x
    · subst h2; simp
    · have h3 : ¬ x = y := fun e => h2 e.symm
      simp [h, h2, h3]
theorem small_m {m k nh : Nat} (h1 : m ≤ k) (h2 : k ≤ nh) (h3 : nh ≤ 1048576) : m ≤ 1073741824 := by omega
theorem fuel_on {nh k f q : Nat} (h : nh - k < f + 1) (hlt : k < nh) : nh - (k + 1 + q) < f := by omega
theorem sum_nh {nh nx k q : Nat} (hlt : k < nh) (hq : q ≤ nx) (hx : nx = nh - (k + 1)) : k + 1 + q ≤ nh := by omega
theorem elem42 : Try.prog.elem 42 = 2 := by kernel_rfl
theorem size2 (X : World) : (sizeOf 2).run Try.prog X = .ok 1 X := by
  obtain ⟨i0, hi, hz⟩ := Option.map_eq_some_iff.1 info2
  simp only [Prod.mk.injEq] at hz
  simp [sizeOf, typeInfo, hi, hz.2.1]
theorem cut_run (b off nh ch k q : Nat) (hq : k + 1 + q ≤ ch) (x : Addr) (hx : x = if ch = k + 1 then ⟨b, off, none⟩ else ⟨b, off + (k + 1), none⟩) (X : World) : (Instr.sliceAt 42 (.slice (some ⟨b, off, none⟩) nh ch) (some (.int .i64 ((k : Int) + 1))) (some (.int .i64 ((k : Int) + 1 + (q : Int)))) none).run Try.prog X = .ok (.slice (some x) q (ch - (k + 1))) X := by
  have hu : Try.prog.underlying 42 = some (.slice (Try.prog.elem 42)) := by rw [elem42]; exact Try.underlying42
  rw [run_sliceAt_slice X 42 _ _ _ _ hu, run_slice_lh X 42 _ _ _ hu .i64 .i64 _ _ (by omega) (by omega) (by omega), elem42, size2]
  simp only [Result.andThen, sliced]
  rw [hx, show ((k : Int) + 1).toNat = k + 1 by omega, show ((k : Int) + 1 + (q : Int)).toNat = k + 1 + q by omega, show k + 1 + q - (k + 1) = q by omega, Nat.mul_one]
  by_cases e : ch = k + 1
  · rw [if_pos e, if_pos e]
  · rw [if_neg e, if_neg e]
    rw [show (some (⟨b, off, none⟩ : Addr)).map (·.add (k + 1)) = some ⟨b, off + (k + 1), none⟩ from congrArg some (Go.WideShapes.add_plain _ _ _)]

theorem cut_run2 (b off nh ch k q : Nat) (hq : k + 1 + q ≤ ch) (x : Addr) (hx : x = if ch = k + 1 then ⟨b, off, none⟩ else ⟨b, off + (k + 1), none⟩) (X : World) : (Instr.slice 42 (.slice (some ⟨b, off, none⟩) nh ch) (some (.int .i64 ((k : Int) + 1))) (some (.int .i64 ((k : Int) + 1 + (q : Int)))) none).run Try.prog X = .ok (.slice (some x) q (ch - (k + 1))) X := by
  have hu : Try.prog.underlying 42 = some (.slice (Try.prog.elem 42)) := by rw [elem42]; exact Try.underlying42
  rw [← run_sliceAt_slice X 42 _ _ _ _ hu]
  exact cut_run b off nh ch k q hq x hx X

set_option maxRecDepth 100000 in
set_option maxHeartbeats 8000000 in
theorem groups67 {n mb : Nat} {W : World} {S : Ckr.St} {hs : List Hd} {v : Value} (hD : Dk n mb W S hs v) (hG : Ckr.Good S.C S.last) (hcl : S.C.length ≤ 4194304) (al : Option Addr) (nl cl : Nat) (lits : List Int) (hc : Lits W al lits) (hcn : lits.length = nl) (hcL : Lit1 lits)
    (ay : Option Addr) (ny cy : Nat) (Y : List Int) (hy : Lits W ay Y) (hyn : Y.length = ny) (hyL : Lit1 Y) (hyb : ny ≤ 8388608) (hlen : ∀ c ∈ S.C, c.2.length ≤ 8388608) (ah : Option Addr) (nh ch : Nat) (hts : List Int) (hh : Hnts W ah hts) (hn : hts.length = nh) (hnb : nh ≤ 1048576) (hch : nh ≤ ch) (hchm : ch ≤ maxLen) (hh0 : ∀ x ∈ hts, x ≠ 0 ∧ -4611686018427387903 ≤ x ∧ x ≤ 4611686018427387903) :
    Calls Try.prog 67 #[.pointer (some ⟨mb, 0, none⟩), .slice al nl cl, .slice ay ny cy, .slice ah nh ch] W fun e W' => IntTo W (groupsD S.C Y lits hts) e W' := by
  have HD := hid hD
  have HG := hid hG
  have HCl := hid hcl
  have HC := hid hc
  have HCN := hid hcn
  have HCL := hid hcL
  have HYy := hid hy
  have HYN := hid hyn
  have HYL := hid hyL
  have HLn := hid hlen
  have HH := hid hh
  have HN := hid hn
  have HH0 := hid hh0
  clear hD hG hcl hc hcn hcL hy hyn hyL hlen hh hn hh0
  rcases Nat.eq_zero_or_pos nl with h0 | hpos
  · have e : groupsD S.C Y lits hts = 61 := by unfold groupsD; rw [if_pos (List.eq_nil_of_length_eq_zero (by rw [HCN.out]; exact h0))]
    rw [e]
    have h0' : ((nl : Int) == 0) = true := by simpa using h0
    clear e h0
    go_enter Try.func67, Try.ntmps67
    go_wp2
    go_ret
    exact ⟨rfl, Below.refl _ _⟩
  have h0' : ((nl : Int) == 0) = false := by simp; omega
  have hpos' : (0 : Int) < nl := by omega
  obtain ⟨bl, ol, rfl, hbl, hlc, _, _⟩ := Row.at HC.out (j := 0) (by rw [HCN.out]; exact hpos)
  have hp : -1048576 ≤ lits.getD 0 0 ∧ lits.getD 0 0 ≤ 1048576 := HCL.out _ (Lra.getD_mem lits 0 (by rw [HCN.out]; exact hpos))
  obtain ⟨R, hR⟩ : ∃ R, Ckr.coverD S.C Y (lits.getD 0 0) (hts.length + 1) [] hts = R := ⟨_, rfl⟩
  have e : groupsD S.C Y lits hts = R := by
    unfold groupsD
    rw [if_neg (fun e => by rw [e] at HCN; have := HCN.out; simp at this; omega)]
    exact hR
  rw [e]
  generalize lits.getD 0 0 = p at hlc hp hR
  rw [Nat.add_zero] at hlc
  have HR := hid hR
  have pw : IntKind.i32.wrap (-p) = -p := by rw [IntKind.wrap_i32]; omega
  clear e hR hbl
  go_enter Try.func67, Try.ntmps67
  go_wp2
  clear hlc h0' hpos'
  go_loopw [10, 11, 12, 13, 14, 15] (fun mv av _ _ _ _ wr => ∃ (k m : Nat) (met : List Int) (o : Option Addr) (c f : Nat), mv = .slice o m c ∧ av = .int .i64 k ∧ k ≤ nh ∧ m ≤ k ∧ Hid (met.length = m) ∧ Hid (nh - k < f ∧ Ckr.coverD S.C Y p f met (hts.drop k) = R) ∧ Hid (wr.ownsRow W.heap.size 2 1 (.slice o m c) m (met.map (Value.int .i64))) ∧ Hid (Below W.heap.size W wr)) (fun _ av _ _ _ _ _ => nh - (intOf av).toNat)
  case atStart => exact ⟨0, 0, [], none, 0, nh + 1, rfl, rfl, Nat.zero_le _, Nat.le_refl _, hid rfl, hid ⟨by omega, by rw [List.drop_zero, ← HN.out]; exact HR.out⟩, hid (World.ownsRow_nil _ _ _ _), hid (Below.refl _ _)⟩
  case round =>
    clear HR
    obtain ⟨k, m, met, o, c, f, rfl, rfl, hk, hmk, HM, HF, HO, HB⟩ := hrel
    obtain ⟨f, rfl⟩ : ∃ g, f = g + 1 := ⟨f - 1, by have := HF.out.1; omega⟩
    by_cases hlt : k < nh
    · have hlt' : (k : Int) < nh := by omega
      have hkl : k < hts.length := by rw [HN.out]; exact hlt
      obtain ⟨b, off, rfl, hbh, hcell, _, _⟩ := Row.at HH.out hkl
      have hcw := (HB.out.cell (p := ⟨b, off + k, none⟩) hbh).trans hcell
      have hdr : hts.drop k = hts.getD k 0 :: hts.drop (k + 1) := by rw [List.drop_eq_getElem_cons hkl]; simp [List.getD, hkl]
      have HE := hid (show Ckr.coverD S.C Y p (f + 1) met (hts.getD k 0 :: hts.drop (k + 1)) = R by rw [← hdr]; exact HF.out.2)
      have hhb := (HH0.out _ (Lra.getD_mem hts k hkl)).2
      have HRest := hid (show (hts.drop (k + 1)).length = nh - (k + 1) by rw [List.length_drop, HN.out])
      generalize hts.getD k 0 = h at hcw HE hhb
      have hw : wrap64 (-h) = -h := by unfold wrap64; omega
      have C63 := hid (find63 (HD.out.below HB.out) (-h) HCl.out)
      have hDr := hid (HD.out.below HB.out)
      clear hcell hdr
      have key : ∃ (x : Addr) (nx cx : Nat), nx = nh - (k + 1) ∧ Hnts W (some x) (hts.drop (k + 1)) ∧ ((ch = k + 1 ∧ x = ⟨b, off, none⟩ ∧ nx = 0 ∧ cx = 0) ∨ (¬ ch = k + 1 ∧ x = ⟨b, off + (k + 1), none⟩ ∧ nx = nh - (k + 1) ∧ cx = ch - (k + 1))) := by
        by_cases hcut : ch = k + 1
        · refine ⟨⟨b, off, none⟩, 0, 0, by omega, ?_, .inl ⟨hcut, rfl, rfl, rfl⟩⟩
          rw [List.drop_of_length_le (by rw [HN.out]; omega)]
          exact hnts_none _ _
        · exact ⟨⟨b, off + (k + 1), none⟩, nh - (k + 1), ch - (k + 1), rfl, hnts_drop HH.out (k + 1), .inr ⟨hcut, rfl, rfl, rfl⟩⟩
      obtain ⟨x, nx, cx, hnx, hxr, hcase⟩ := key
      have C65 := hid (head65 (some x) nx cx (hts.drop (k + 1)) wr (by rw [HRest.out, hnx]) (by omega) (hxr.below HB.out))
      have HXR := hid hxr
      have HNX := hid hnx
      have HCHM := hid hchm
      have hnxb : nx ≤ 1048576 := by omega
      clear hxr hnx hchm
      have hrest0 : ∀ y ∈ hts.drop (k + 1), y ≠ 0 := fun y hy => (HH0.out y (List.mem_of_mem_drop hy)).1
      have HR0 := hid hrest0
      clear hrest0
      obtain ⟨L, hL⟩ : ∃ L, Ckr.look S.C (-h) = L := ⟨_, rfl⟩
      have HLk := hid hL
      clear hL
      rcases hcase with ⟨rfl, rfl, rfl, rfl⟩ | ⟨hcut, rfl, rfl, rfl⟩
      all_goals
        go_wp2_with fail
        go_at_call 65
        refine C65.out.mono ?_
        clear C65
        rintro e w2 ⟨⟨q, hq, rfl, hq1, hq2⟩, hw2⟩
        rw [hw2]
        clear hw2 hcw
        have HAB := hid (head_ahead HR0.out (k := q) (by rw [HRest.out]; omega) hq1 (by rw [HRest.out]; rcases hq2 with e | e; exact .inl (by omega); exact .inr e))
        have HQ := hid hq
        have hqb : (q : Int) ≤ 1048576 := by omega
        clear hq1 hq2 hq hnxb
        go_wp2_with fail
        go_at_call 63
        refine C63.out.mono ?_
        clear C63
        rintro e w3 ⟨z, rfl, hfind, hw3⟩
        rw [hw3]
        clear hw3
        rcases hfind with ⟨rfl, hnone⟩ | ⟨j, hj, rfl, hid1, hsome⟩
        · have HZ : Hid (IntTo W R (.returned (.int .i64 60)) wr) := by
            have e := HE.out
            rw [Ckr.coverD, if_pos (.inl (.inl hnone))] at e
            rw [← e]
            exact ⟨rfl, HB.out⟩
          clear hnone
          go_wp2
          go_ret
          exact HZ.out
        · have hlen : hs.length = S.C.length := by rw [← HD.out.is]; simp
          have hjh : j < hs.length := by omega
          have hjc : hs[j].1 = S.C[j] := by
            have e1 : (hs.map (·.1))[j]? = S.C[j]? := by rw [HD.out.is]
            rw [List.getElem?_map, List.getElem?_eq_getElem hjh, List.getElem?_eq_getElem hj] at e1
            simpa using e1
          obtain ⟨gv, cv, a5, c5, hve, y00, y1, hq2⟩ := hDr.out.mem.at hjh
          have hown := hDr.out.mem.each hs[j] (List.getElem_mem hjh)
          rw [hjc] at y1 hq2 hown
          rw [hq2] at hown
          have x0 : wr.cell? ⟨mb, 0, none⟩ = some v := row_cell hDr.out.blk 0
          rw [hve] at x0
          have hCl : Lit1 S.C[j].2 := fun x hx => (HG.out.lits x (Ckr.mem_all (List.getElem_mem hj) x hx)).2
          have HLl := hid (hCl.lits hown)
          have HCL2 := hid hCl
          have HSome := hid hsome
          have hLe : S.C[j].2.length ≤ 8388608 := HLn.out _ (List.getElem_mem hj)
          have hjm : (j : Int) < hs.length := by omega
          generalize S.C[j].2 = cc at y1 HLl HCL2 HSome hLe
          generalize hs.length = mh at x0 hjm
          obtain ⟨nc, hnc⟩ : ∃ nc, cc.length = nc := ⟨_, rfl⟩
          rw [hnc] at y1 hLe
          have HNC := hid hnc
          have C52 := hid (has52 a5 nc c5 cc (-p) wr hnc (by omega) HLl.out)
          clear y00 hown hq2 hve hCl hsome hid1 hjc hlen hnc hjh hj
          by_cases hin : -p ∈ cc
          · rw [(Cnf.has_iff cc (-p)).2 hin] at C52
            have HIn := hid hin
            clear hin
            have HC52 := hid C52.out
            have hsh : Hid (m = 0) ∨ (0 < m ∧ ∃ gm, o = some ⟨gm, 0, none⟩ ∧ wr.cell? ⟨gm, m - 1, none⟩ = some (.int .i64 (met.getLastD 0))) := by
              rcases Nat.eq_zero_or_pos m with e | e
              · exact .inl e
              · exact .inr ⟨e, last_cell HO.out HM.out e⟩
            have hsp : (¬ (0 : Int) < m ∧ Hid (¬ (met ≠ [] ∧ -h ≤ met.getLastD 0))) ∨ ((0 : Int) < m ∧ ∃ gm la, o = some ⟨gm, 0, none⟩ ∧ wr.cell? ⟨gm, m - 1, none⟩ = some (.int .i64 la) ∧ -h ≤ la ∧ Hid (met ≠ [] ∧ -h ≤ met.getLastD 0)) ∨ ((0 : Int) < m ∧ ∃ gm la, o = some ⟨gm, 0, none⟩ ∧ wr.cell? ⟨gm, m - 1, none⟩ = some (.int .i64 la) ∧ ¬ -h ≤ la ∧ Hid (¬ (met ≠ [] ∧ -h ≤ met.getLastD 0))) := by
              rcases hsh with e | ⟨e, gm, e1, e2⟩
              · exact .inl ⟨by have := e.out; omega, hid (fun q => q.1 (List.eq_nil_of_length_eq_zero (by rw [HM.out]; exact e.out)))⟩
              · have hne : met ≠ [] := fun q => by rw [q] at HM; have := HM.out; simp at this; omega
                by_cases hl : -h ≤ met.getLastD 0
                · exact .inr (.inl ⟨by omega, gm, _, e1, e2, hl, hid ⟨hne, hl⟩⟩)
                · exact .inr (.inr ⟨by omega, gm, _, e1, e2, hl, hid (fun q => hl q.2)⟩)
            clear hsh
            have hm20 : (m : Int) ≤ 1048576 := by omega
            rcases hsp with ⟨hm0, HNo⟩ | ⟨hm0, gm, la, rfl, hmc, hla, HYes⟩ | ⟨hm0, gm, la, rfl, hmc, hla, HNo⟩
            rotate_left
            · have HZ : Hid (IntTo W R (.returned (.int .i64 60)) wr) := by
                have e := HE.out
                rw [Ckr.coverD, if_pos (.inr HYes.out)] at e
                rw [← e]
                exact ⟨rfl, HB.out⟩
              have hm1 : (0 : Int) ≤ (m : Int) - 1 := by omega
              go_wp2_with (go_at_call 52; refine C52.out.mono ?_; clear C52; rintro e w4 ⟨rfl, hw4⟩; rw [hw4]; clear hw4)
              go_ret
              exact HZ.out
            all_goals
              go_wp2_with (go_at_call 52; refine C52.out.mono ?_; clear C52; rintro e w4 ⟨rfl, hw4⟩; rw [hw4]; clear hw4)
              obtain ⟨g, hg⟩ : ∃ g, Ckr.groupD (Ckr.look S.C) Y cc p (Ckr.ahead (hts.drop (k + 1))) = g := ⟨_, rfl⟩
              have HE2 := hid (show (g = 0 → Ckr.coverD S.C Y p f (met ++ [-h]) (hts.drop (k + 1 + q)) = R) ∧ (g ≠ 0 → g = R) by
                have e := HE.out
                rw [Ckr.coverD, if_neg (by rw [HSome.out]; rintro ((e | e) | e); exact absurd e (by simp); exact e HIn.out; exact HNo.out e), HSome.out] at e
                simp only [Option.getD_some, hg] at e
                constructor
                · intro h0
                  rw [if_pos h0, HAB.out.2, List.drop_drop] at e
                  exact e
                · intro h0
                  rw [if_neg h0] at e
                  exact e)
              have hah : ((hts.drop (k + 1)).take q).length = q := len_take HRest.out HQ.out (by first | rfl | exact HNX.out)
              have C82 := hid (fun X (hX : Below wr.heap.size wr X) (xa : Addr) (cx : Nat) (hxx : Hnts W (some xa) (hts.drop (k + 1))) => (group82 (hDr.out.below hX) HG.out HCl.out a5 nc c5 cc (HLl.out.below hX) HNC.out HCL2.out (by omega) p hp ay ny cy Y ((HYy.out.below HB.out).below hX) HYN.out HYL.out hyb (some xa) q cx ((hts.drop (k + 1)).take q) (hnts_take ((hxx.below HB.out).below hX) q) hah (by omega)).mono (R' := fun e w' => e = .returned (.int .i64 g) ∧ w'.cell? ⟨mb, 0, none⟩ = some (.slice (some ⟨gv, 0, none⟩) mh cv) ∧ w'.cell? ⟨gv, j * 2 + 1, none⟩ = some (.slice a5 nc c5) ∧ Below wr.heap.size wr w') fun e w' hw' => by
                have hw2 : Below wr.heap.size wr w' := hX.trans (hw'.2.mono hX.size)
                refine ⟨?_, (hw2.cell (p := ⟨mb, 0, none⟩) (cell_lt x0)).trans x0, (hw2.cell (p := ⟨gv, j * 2 + 1, none⟩) (cell_lt y1)).trans y1, hw2⟩
                rw [hw'.1, ← hg, HAB.out.1])
              have C82' := hid (fun X hX cx => C82.out X hX _ cx HXR.out)
              have kk : (wr.drew).cell? ⟨mb, 0, none⟩ = some (.slice (some ⟨gv, 0, none⟩) mh cv) ∧ (wr.drew).cell? ⟨gv, j * 2 + 1, none⟩ = some (.slice a5 nc c5) ∧ Below wr.heap.size wr wr.drew := ⟨x0, y1, (Below.refl _ _).drew⟩
              have KK := hid kk
              obtain ⟨hwr, hwr2, hwr3, hwr4⟩ := sum_facts k q hk hnb HQ.out (by first | rfl | exact HNX.out)
              first
              | have hsl : ∀ X, (Instr.slice 42 (.slice (some ⟨b, off, none⟩) nh ch) (some (.int .i64 ((k : Int) + 1))) (some (.int .i64 ((k : Int) + 1 + (q : Int)))) none).run Try.prog X = .ok (.slice (some ⟨b, off + (k + 1), none⟩) q (ch - (k + 1))) X := cut_run2 b off nh ch k q (sum_nat (sum_cap hk hch HQ.out (by first | rfl | exact HNX.out) hlt)) ⟨b, off + (k + 1), none⟩ (by rw [if_neg hcut])
              | have hsl : ∀ X, (Instr.slice 42 (.slice (some ⟨b, off, none⟩) nh (k + 1)) (some (.int .i64 ((k : Int) + 1))) (some (.int .i64 ((k : Int) + 1 + (q : Int)))) none).run Try.prog X = .ok (.slice (some ⟨b, off, none⟩) q ((k + 1) - (k + 1))) X := cut_run2 b off nh (k + 1) k q (sum_nat (sum_cap hk hch HQ.out (by first | rfl | exact HNX.out) hlt)) ⟨b, off, none⟩ (by rw [if_pos rfl])
              clear kk C82 hg hah hw hlt'
              generalize hK : (k : Int) = K at hwr hwr2 hwr3 hwr4 hsl ⊢
              generalize hQQ : (q : Int) = Q at hwr hwr3 hsl hqb ⊢
              have HKQ := hid (And.intro hK hQQ)
              clear hK hQQ
              go_region_held3 (fun X => X.cell? ⟨mb, 0, none⟩ = some (.slice (some ⟨gv, 0, none⟩) mh cv) ∧ X.cell? ⟨gv, j * 2 + 1, none⟩ = some (.slice a5 nc c5) ∧ Below wr.heap.size wr X)
                (first | exact KK.out | exact ⟨s0, s1, hb8⟩)
                (first | (go_at_call 82; refine (C82'.out _ ?_ _).mono ?_; exact (Below.refl _ _).drew; rintro e w8 ⟨rfl, s0, s1, hb8⟩))
              clear hwr hwr2 hwr3 hwr4 hsl s0 s1 KK C82' HC52
              obtain ⟨rfl, rfl⟩ := HKQ.out
              clear HKQ
              have HB8 := hid (HB.out.trans (hb8.mono HB.out.size))
              have HO8 := hid (own_below HO.out hb8)
              clear hb8 x0 y1
              by_cases hg0 : g = 0
              · have hg0' : (g != 0) = false := by simpa using hg0
                have HE3 := hid (HE2.out.1 hg0)
                have hpush := id_push (n := W.heap.size) (v := .slice _ m c) (xs := met) (by rw [HM.out]; exact HO8.out) (-h) (by rw [HM.out]; exact small_m hmk hk hnb) HB8.out.size
                rw [HM.out] at hpush
                obtain ⟨o9, c9, B9, hrun, ho9, hY9, hN9⟩ := hpush
                have RUN := hid hrun
                have HO9 := hid ho9
                have HB9 := hid (HB8.out.trans (hY9.below HB8.out.size (fun g e => (own_blk HO8.out e).1)))
                have HM9 := hid (show (met ++ [-h]).length = m + 1 by rw [List.length_append, HM.out]; rfl)
                have HF9 := hid (show nh - (k + 1 + q) < f ∧ Ckr.coverD S.C Y p f (met ++ [-h]) (hts.drop (k + 1 + q)) = R from ⟨fuel_on HF.out.1 hlt, HE3.out⟩)
                have hkn : k + 1 + q ≤ nh := sum_nh hlt HQ.out (by first | rfl | exact HNX.out)
                have hmn : m + 1 ≤ k + 1 + q := by omega
                clear hrun ho9 hY9 hN9 hg0 HE3 HE2
                go_wp2_with (at_builtin; refine wpList_append_run rfl (.tmp 96) (.tmp 98) 42 42 rfl rfl rfl RUN.out ?_; clear RUN)
                go_roundw
                case rel => exact ⟨k + 1 + q, m + 1, met ++ [-h], o9, c9, f, rfl, by go_num, hkn, hmn, HM9, HF9, HO9, HB9⟩
                case measure => simp [intOf]; omega
              · have hg0' : (g != 0) = true := by simpa using hg0
                have HZ := hid (HE2.out.2 hg0)
                go_wp2
                go_ret
                exact ⟨by rw [← HZ.out]; rfl, HB8.out⟩
          · rw [(Cnf.has_false cc (-p)).2 hin] at C52
            have HZ : Hid (IntTo W R (.returned (.int .i64 60)) wr) := by
              have e := HE.out
              rw [Ckr.coverD, if_pos (.inl (.inr (by rw [HSome.out]; exact hin)))] at e
              rw [← e]
              exact ⟨rfl, HB.out⟩
            go_wp2_with (go_at_call 52; refine C52.out.mono ?_; clear C52; rintro e w4 ⟨rfl, hw4⟩; rw [hw4]; clear hw4)
            go_ret
            exact HZ.out
    · have hge : ¬ (k : Int) < nh := by omega
      have HE := hid (show (if S.C.all (fun q => decide (-p ∈ q.2 → q.1 ∈ met)) then (0 : Int) else 61) = R by
        have e := HF.out.2
        rw [List.drop_of_length_le (by rw [HN.out]; omega), Ckr.coverD] at e
        exact e)
      have hDr := hid (HD.out.below HB.out)
      have hlenC : hs.length = S.C.length := by rw [← HD.out.is]; simp
      have x0 : wr.cell? ⟨mb, 0, none⟩ = some v := row_cell hDr.out.blk 0
      obtain ⟨av, cv, hve⟩ := own_slc hDr.out.mem.row
      obtain ⟨mh, hmh⟩ : ∃ mh, hs.length = mh := ⟨_, rfl⟩
      rw [hmh] at hve
      rw [hve] at x0
      have HX0 := hid x0
      have HLC := hid (hmh.symm.trans hlenC)
      have HMH := hid hmh
      have HVE := hid hve
      have hmhb : mh ≤ 4194304 := by have := HCl.out; omega
      have hm20 : m ≤ 1048576 := by omega
      have shv : Hid (mh = 0) ∨ ∃ gv, av = some ⟨gv, 0, none⟩ := by
        rcases Nat.eq_zero_or_pos mh with h0 | h0
        · exact .inl h0
        · obtain ⟨g2, c2, _, _, e2, _⟩ := hDr.out.mem.at (j := 0) (by omega)
          rw [hve] at e2
          injection e2 with e2
          exact .inr ⟨g2, e2⟩
      have shm : Hid (m = 0) ∨ ∃ gm, o = some ⟨gm, 0, none⟩ := by
        rcases Nat.eq_zero_or_pos m with h0 | h0
        · exact .inl h0
        · obtain ⟨g2, e2, _⟩ := last_cell HO.out HM.out h0
          exact .inr ⟨g2, e2⟩
      clear hve hmh hlenC HF hge
      obtain ⟨wx, hwx⟩ : ∃ wx, wx = wr := ⟨wr, rfl⟩
      subst hwx
      have hgl : ¬ (k : Int) < nh := by omega
      rcases shv with ZV | ⟨gv, rfl⟩
      all_goals
        rcases shm with ZM | ⟨gm, rfl⟩
      all_goals
        go_wp2
        clear x0
        go_loopw [16, 17, 18] (fun iv _ _ wr => ∃ t : Nat, iv = .int .i64 t ∧ t ≤ mh ∧ Hid (∀ j (hj : j < S.C.length), j < t → -p ∈ S.C[j].2 → S.C[j].1 ∈ met) ∧ Hid (Drawn wx wr)) (fun iv _ _ _ => mh - (intOf iv).toNat)
        case atStart => exact ⟨0, rfl, Nat.zero_le _, hid (fun j _ h => by omega), hid (Drawn.refl _)⟩
        case round =>
          obtain ⟨t, rfl, ht, HJ, HDw⟩ := hrel
          have x0 := (HDw.out.cell _).trans HX0.out
          by_cases htl : t < mh
          · first
            | (exfalso; have := ZV.out; omega)
            | (have htl' : (t : Int) < mh := by omega
               have hth : t < hs.length := by rw [HMH.out]; exact htl
               have htc : t < S.C.length := by rw [← HLC.out]; exact htl
               obtain ⟨g2, c2, a5, c5, e2, y0, y1, hq2⟩ := hDr.out.mem.at hth
               rw [HVE.out] at e2
               injection e2 with e2 _ _
               injection e2 with e2
               injection e2 with e2
               subst e2
               have hjc : hs[t].1 = S.C[t] := by
                 have e1 : (hs.map (·.1))[t]? = S.C[t]? := by rw [HD.out.is]
                 rw [List.getElem?_map, List.getElem?_eq_getElem hth, List.getElem?_eq_getElem htc] at e1
                 simpa using e1
               have hown := hDr.out.mem.each hs[t] (List.getElem_mem hth)
               rw [hjc] at y0 y1 hq2 hown
               rw [hq2] at hown
               have hCl : Lit1 S.C[t].2 := fun x hx => (HG.out.lits x (Ckr.mem_all (List.getElem_mem htc) x hx)).2
               have HLl := hid (hCl.lits hown)
               have hLe : S.C[t].2.length ≤ 8388608 := HLn.out _ (List.getElem_mem htc)
               have HJn := hid (show (-p ∈ S.C[t].2 → S.C[t].1 ∈ met) → ∀ j (hj : j < S.C.length), j < t + 1 → -p ∈ S.C[j].2 → S.C[j].1 ∈ met from fun q j hj hjt => by
                 rcases Nat.lt_or_ge j t with h | h
                 · exact HJ.out j hj h
                 · obtain rfl : j = t := by omega
                   exact q)
               have HNo := hid (show -p ∈ S.C[t].2 → S.C[t].1 ∉ met → R = 61 from fun q1 q2 => by
                 rw [← HE.out, if_neg]
                 intro hall
                 have := List.all_eq_true.1 hall _ (List.getElem_mem htc)
                 exact q2 (of_decide_eq_true this q1))
               have Y0 := hid y0
               have Y1 := hid y1
               clear y0 y1 hown hq2 hCl hjc hth
               obtain ⟨nc, hnc⟩ : ∃ nc, S.C[t].2.length = nc := ⟨_, rfl⟩
               have C52 := hid (has52 a5 nc c5 S.C[t].2 (-p) wr hnc (by omega) (HDw.out.lits HLl.out))
               rw [hnc] at Y1
               generalize S.C[t].2 = cc at C52 HJn HNo hnc HLl hLe
               generalize S.C[t].1 = id5 at Y0 HJn HNo
               clear htc hnc hLe HLl
               have y0 := (HDw.out.cell _).trans Y0.out
               have y1 := (HDw.out.cell _).trans Y1.out
               by_cases hin : -p ∈ cc
               · rw [(Cnf.has_iff cc (-p)).2 hin] at C52
                 have HIn := hid hin
                 clear hin
                 obtain ⟨wi, hwi⟩ : ∃ wi, wi = wr := ⟨wr, rfl⟩
                 subst hwi
                 go_wp2_with (go_at_call 52; refine C52.out.mono ?_; clear C52; rintro e w4 ⟨rfl, hw4⟩; rw [hw4]; clear hw4)
                 clear x0 y0 y1
                 go_loopw [17, 18] (fun ov kv wr => ∃ (u : Nat) (ob : Bool), ov = .bool ob ∧ kv = .int .i64 u ∧ u ≤ m ∧ Hid (ob = decide (id5 ∈ met.take u)) ∧ Hid (Drawn wx wr)) (fun _ kv _ => m - (intOf kv).toNat)
                 case atStart => exact ⟨0, false, rfl, rfl, Nat.zero_le _, hid (by simp), HDw⟩
                 case round =>
                   obtain ⟨u, ob, rfl, rfl, hu, HOb, HDu⟩ := hrel
                   by_cases hum : u < m
                   · first
                     | (exfalso; have := ZM.out; omega)
                     | (have hum' : (u : Int) < m := by omega
                        have x0 := (HDu.out.cell _).trans HX0.out
                        have y0 := (HDu.out.cell _).trans Y0.out
                        have hul : u < met.length := by rw [HM.out]; exact hum
                        have hmc := met_cell HO.out HM.out hum
                        rw [← HDu.out.cell] at hmc
                        have HTk := hid (mem_take met id5 u hul)
                        generalize met.getD u 0 = mu at hmc HTk
                        cases ob
                        · by_cases hq : mu = id5
                          · have hqb : (mu == id5) = true := by simpa using hq
                            have HOb2 := hid (show true = decide (id5 ∈ met.take (u + 1)) by rw [HTk.out, ← HOb.out, hqb]; rfl)
                            clear hq
                            go_wp2
                            go_quiet (fail)
                            go_wp2
                            go_roundw
                            case rel => exact ⟨u + 1, true, rfl, by go_num, by omega, HOb2, hid (HDu.out.drewN _)⟩
                            case measure => simp [intOf]; omega
                          · have hqb : (mu == id5) = false := by simpa using hq
                            have HOb2 := hid (show false = decide (id5 ∈ met.take (u + 1)) by rw [HTk.out, ← HOb.out, hqb]; rfl)
                            clear hq
                            go_wp2
                            go_quiet (fail)
                            go_wp2
                            go_roundw
                            case rel => exact ⟨u + 1, false, rfl, by go_num, by omega, HOb2, hid (HDu.out.drewN _)⟩
                            case measure => simp [intOf]; omega
                        · have HOb2 := hid (show true = decide (id5 ∈ met.take (u + 1)) by rw [HTk.out, ← HOb.out]; rfl)
                          go_wp2
                          go_quiet (fail)
                          go_wp2
                          go_roundw
                          case rel => exact ⟨u + 1, true, rfl, by go_num, by omega, HOb2, hid (HDu.out.drewN _)⟩
                          case measure => simp [intOf]; omega)
                   · have hum' : ¬ (u : Int) < m := by omega
                     have HO2 := hid (show ob = decide (id5 ∈ met) by have h := HOb.out; rwa [List.take_of_length_le (by rw [HM.out]; omega)] at h)
                     cases ob
                     · have HZ := hid (HNo.out HIn.out (of_decide_eq_false HO2.out.symm))
                       go_wp2
                       go_ret
                       exact ⟨by rw [HZ.out]; rfl, HB.out.trans (HDu.out.below'.mono HB.out.size)⟩
                     · have HJ2 := hid (HJn.out (fun _ => of_decide_eq_true HO2.out.symm))
                       go_wp2
                       go_roundw
                       case rel => exact ⟨t + 1, by go_num, by omega, HJ2, HDu⟩
                       case measure => simp [intOf]; omega
               · rw [(Cnf.has_false cc (-p)).2 hin] at C52
                 have HJ2 := hid (HJn.out (fun q => absurd q hin))
                 go_wp2_with (go_at_call 52; refine C52.out.mono ?_; clear C52; rintro e w4 ⟨rfl, hw4⟩; rw [hw4]; clear hw4)
                 go_roundw
                 case rel => exact ⟨t + 1, by go_num, by omega, HJ2, HDw⟩
                 case measure => simp [intOf]; omega)
          · have htl' : ¬ (t : Int) < mh := by omega
            have HZ := hid (show R = 0 by
              rw [← HE.out, if_pos]
              refine List.all_eq_true.2 fun q hq => ?_
              obtain ⟨j, hj, rfl⟩ := List.mem_iff_getElem.1 hq
              exact decide_eq_true (HJ.out j hj (by rw [← HLC.out] at hj; omega)))
            go_wp2
            go_ret
            exact ⟨by rw [HZ.out]; rfl, HB.out.trans (HDw.out.below'.mono HB.out.size)⟩
end Go.Proofs.Ytjjanmgeogjngaa

/- Why a clause does not follow, by the document: the call. -/
namespace Go.Proofs.Ytjjanmgeogjngaa
open Go.RowKit Go.Maps
set_option linter.unusedVariables false
set_option linter.unusedSimpArgs false

theorem under42 : Try.prog.underlying 42 = some (.slice (Try.prog.elem 42)) := by rw [elem42]; exact Try.underlying42
theorem cutH (ah : Option Addr) (nh ch q : Nat) (hq : q ≤ ch) (X : World) : (Instr.slice 42 (.slice ah nh ch) none (some (.int .i64 (q : Int))) none).run Try.prog X = .ok (.slice ah q ch) X := by
  rw [run_slice_h X 42 _ _ _ under42 .i64 _ (by omega) (by omega), elem42, size2]
  simp only [Result.andThen, sliced, Nat.zero_mul, Nat.sub_zero, Int.toNat_natCast]
  congr 2
  split
  · rfl
  · cases ah <;> simp [Addr.add]
def cutA (ah : Option Addr) (ch q : Nat) : Option Addr := if ch = q then ah else ah.map (·.add q)
theorem cutL (ah : Option Addr) (nh ch q : Nat) (hq : q ≤ nh) (X : World) : (Instr.slice 42 (.slice ah nh ch) (some (.int .i64 (q : Int))) none none).run Try.prog X = .ok (.slice (cutA ah ch q) (nh - q) (ch - q)) X := by
  rw [run_slice_l X 42 _ _ _ under42 .i64 _ (by omega) (by omega), elem42, size2]
  simp only [Result.andThen, sliced, Nat.mul_one, Int.toNat_natCast, cutA]
theorem cut_hnts {W : World} {ah : Option Addr} {nh ch q : Nat} {hts : List Int} (h : Hnts W ah hts) (hn : hts.length = nh) (hch : nh ≤ ch) (hq : q ≤ nh) : Hnts W (cutA ah ch q) (hts.drop q) := by
  unfold cutA
  by_cases e : ch = q
  · rw [if_pos e, List.drop_of_length_le (by omega)]
    exact hnts_none _ _
  · rw [if_neg e]
    rcases h.2 with h0 | ⟨b, off, rfl, hl, hc⟩
    · rw [h0, List.drop_nil]
      exact hnts_none _ _
    · have := hnts_drop h q
      rwa [show (some (⟨b, off, none⟩ : Addr)).map (·.add q) = some ⟨b, off + q, none⟩ from congrArg some (Go.WideShapes.add_plain _ _ _)]
theorem neg_snoc (xs : List Int) (k : Nat) (h : k < xs.length) : (xs.take (k + 1)).map (fun l => -l) = (xs.take k).map (fun l => -l) ++ [-(xs.getD k 0)] := by rw [Lra.take_snoc xs k h, List.map_append]; rfl

set_option maxRecDepth 100000 in
set_option maxHeartbeats 8000000 in
theorem follows48 {n mb : Nat} {W : World} {S : Ckr.St} {hs : List Hd} {v : Value} (hD : Dk n mb W S hs v) (hG : Ckr.Good S.C S.last) (hcl : S.C.length ≤ 4194304) (hlen : ∀ c ∈ S.C, c.2.length ≤ 8388608) (al : Option Addr) (nl cl : Nat) (lits : List Int) (hc : Lits W al lits) (hcn : lits.length = nl) (hcL : Lit1 lits) (hnl : nl ≤ 1048576)
    (ah : Option Addr) (nh ch : Nat) (hts : List Int) (hh : Hnts W ah hts) (hn : hts.length = nh) (hnb : nh ≤ 1048576) (hch : nh ≤ ch) (hchm : ch ≤ maxLen) (hh0 : ∀ x ∈ hts, x ≠ 0 ∧ -4611686018427387903 ≤ x ∧ x ≤ 4611686018427387903) :
    Calls Try.prog 48 #[.pointer (some ⟨mb, 0, none⟩), .slice al nl cl, .slice ah nh ch] W fun e W' => IntTo W (Ckr.followsD S.C lits hts) e W' := by
  have HD := hid hD
  have HG := hid hG
  have HCl := hid hcl
  have HLn := hid hlen
  have HC := hid hc
  have HCN := hid hcn
  have HCL := hid hcL
  have HH := hid hh
  have HN := hid hn
  have HH0 := hid hh0
  have HCHM := hid hchm
  have C64 := hid (both64 al nl cl lits W hcn (by omega) hc)
  obtain ⟨R, hR⟩ : ∃ R, Ckr.followsD S.C lits hts = R := ⟨_, rfl⟩
  have HR := hid hR
  rw [hR]
  obtain ⟨bb, hbb⟩ : ∃ bb, Cnf.both lits = bb := ⟨_, rfl⟩
  rw [hbb] at C64
  have HBB := hid hbb
  clear hD hG hcl hlen hc hcn hcL hh hn hh0 hchm hR hbb
  go_enter Try.func48, Try.ntmps48
  go_wp2_with fail
  go_at_call 64
  refine C64.out.mono ?_
  clear C64
  rintro e W1 ⟨rfl, hb1⟩
  have HB1 := hid hb1
  clear hb1
  cases bb
  · go_wp2
    go_loopw [7, 8] (fun yv iv wr => ∃ (k : Nat) (o : Option Addr) (c : Nat), yv = .slice o k c ∧ iv = .int .i64 k ∧ k ≤ nl ∧ Hid (wr.ownsRow W.heap.size 40 1 (.slice o k c) k (((lits.take k).map (fun l => -l)).map (Value.int .i32))) ∧ Hid (Below W.heap.size W wr)) (fun _ iv _ => nl - (intOf iv).toNat)
    case atStart => exact ⟨0, none, 0, rfl, rfl, Nat.zero_le _, hid (World.ownsRow_nil _ _ _ _), HB1⟩
    case round =>
      obtain ⟨k, o, c, rfl, rfl, hk, HO, HB⟩ := hrel
      by_cases hlt : k < nl
      · have hlt' : (k : Int) < nl := by omega
        have hkc : k < lits.length := by rw [HCN.out]; exact hlt
        obtain ⟨bl, ol, rfl, hbl, hcell, _, _⟩ := Row.at HC.out hkc
        have hcx := (HB.out.cell (p := ⟨bl, ol + k, none⟩) hbl).trans hcell
        have hxr : -1048576 ≤ lits.getD k 0 ∧ lits.getD k 0 ≤ 1048576 := HCL.out _ (Lra.getD_mem lits k hkc)
        have HS := hid (neg_snoc lits k hkc)
        have hlk : ((lits.take k).map (fun l => -l)).length = k := by rw [List.length_map, List.length_take, HCN.out]; omega
        generalize lits.getD k 0 = x at hcx hxr HS
        have xw : IntKind.i32.wrap (-x) = -x := by rw [IntKind.wrap_i32]; omega
        have hpush := lit_push (n := W.heap.size) (v := .slice o k c) (xs := (lits.take k).map (fun l => -l)) (by rw [hlk]; exact HO.out) (-x) (by rw [hlk]; omega) HB.out.size
        rw [hlk] at hpush
        obtain ⟨o5, c5, B5, hrun, ho5, hY5, hN5⟩ := hpush
        have RUN := hid hrun
        have HO5 := hid (show B5.ownsRow W.heap.size 40 1 (.slice o5 (k + 1) c5) (k + 1) (((lits.take (k + 1)).map (fun l => -l)).map (Value.int .i32)) by rw [HS.out]; exact ho5)
        have HB5 := hid (HB.out.trans (hY5.below HB.out.size (fun g e => (own_blk HO.out e).1)))
        clear hrun ho5 hY5 hN5 hcell hbl hlk
        go_wp2_with (at_builtin; refine wpList_append_run rfl (.tmp 21) (.tmp 27) 39 39 rfl rfl rfl RUN.out ?_; clear RUN)
        go_roundw
        case rel => exact ⟨k + 1, o5, c5, rfl, by go_num, by omega, HO5, HB5⟩
        case measure => simp [intOf]; omega
      · have hge : ¬ (k : Int) < nl := by omega
        obtain rfl : k = nl := by omega
        have hlk : (lits.map (fun l => -l)).length = k := by rw [List.length_map, HCN.out]
        have HO2 := hid (show wr.ownsRow W.heap.size 40 1 (.slice o k c) k ((lits.map (fun l => -l)).map (Value.int .i32)) by have h := HO.out; rwa [List.take_of_length_le (by rw [HCN.out]; omega)] at h)
        have C65 := hid (head65 ah nh ch hts wr HN.out (by omega) (HH.out.below HB.out))
        have HLK := hid hlk
        clear HO hlk
        go_wp2_with fail
        go_at_call 65
        refine C65.out.mono ?_
        clear C65
        rintro e w2 ⟨⟨q, hq, rfl, hq1, hq2⟩, hw2⟩
        rw [hw2]
        clear hw2
        obtain ⟨ha1, ha2⟩ := head_ahead (fun x hx => (HH0.out x hx).1) (by rw [HN.out]; exact hq) hq1 (by rw [HN.out]; exact hq2)
        have HA1 := hid ha1
        have HA2 := hid ha2
        have hcutH := cutH ah nh ch q (by omega)
        have C66 := hid (through66 (W0 := W) (W := wr) HD.out HG.out HCl.out HB.out (lits.map (fun l => -l)) o c (by rw [HLK.out]; exact HO2.out) HCL.out.neg (by rw [HLK.out]; omega) ah q ch (hts.take q) (hnts_take HH.out q) (by rw [List.length_take, HN.out]; omega) (by omega))
        rw [HLK.out] at C66
        have HR2 := hid (show (if (Ckr.thruD (Ckr.look S.C) (lits.map (fun l => -l)) (hts.take q)).1 = 2 then (60 : Int) else if (Ckr.thruD (Ckr.look S.C) (lits.map (fun l => -l)) (hts.take q)).1 = 1 then 0 else groupsD S.C (Ckr.thruD (Ckr.look S.C) (lits.map (fun l => -l)) (hts.take q)).2 lits (hts.drop q)) = R by
          have e := HR.out
          unfold Ckr.followsD at e
          rw [HBB.out, HA1.out, HA2.out] at e
          simpa [groupsD] using e)
        have hhow := thruD_how (Ckr.look S.C) (hts.take q) (lits.map (fun l => -l))
        have hL1 := thruD_lit1 (Ckr.look S.C) (fun i c e x hx => (HG.out.lits x (Ckr.mem_all (Ckr.look_mem e) x hx)).2) (hts.take q) (lits.map (fun l => -l)) HCL.out.neg
        generalize Ckr.thruD (Ckr.look S.C) (lits.map (fun l => -l)) (hts.take q) = D at C66 HR2 hhow hL1
        obtain ⟨d1, d2⟩ := D
        simp only at hhow HR2 hL1
        unfold ThruTo at C66
        simp only at C66
        obtain ⟨hL1a, hL1b⟩ := hL1
        have hd2 : d2.length ≤ 8388608 := by rw [HLK.out, List.length_take] at hL1b; omega
        have HL1 := hid hL1a
        clear hL1a hL1b hq1 hq2 ha1 ha2 HO2
        go_wp2_with fail
        go_at_call 66
        refine C66.out.mono ?_
        clear C66 hcutH
        rintro e W5 ⟨o5, c5, rfl, hown5, hB5⟩
        have HB5 := hid hB5
        have HY5 := hid (HL1.out.lits hown5)
        obtain ⟨ny, hny⟩ : ∃ ny, d2.length = ny := ⟨_, rfl⟩
        have C67 := hid (groups67 (HD.out.below hB5) HG.out HCl.out al k cl lits (HC.out.below hB5) HCN.out HCL.out o5 ny c5 d2 HY5.out hny HL1.out (by omega) HLn.out (cutA ah ch q) (nh - q) (ch - q) (hts.drop q) ((cut_hnts HH.out HN.out hch hq).below hB5) (by rw [List.length_drop, HN.out]) (by omega) (by omega) (by have := HCHM.out; omega) (fun x hx => HH0.out x (List.mem_of_mem_drop hx)))
        have hcutL := cutL ah nh ch q hq
        rw [hny]
        clear hown5 hB5 hny hd2
        rcases hhow with rfl | rfl | rfl
        · have HZ := hid (show groupsD S.C d2 lits (hts.drop q) = R by simpa using HR2.out)
          by_cases hz : k = 0 ∧ q = nh
          · have h1 : ((k : Int) == 0) = true := by simp; omega
            have h2 : ((q : Int) == (nh : Int)) = true := by simp; omega
            have HZ2 := hid (show R = 61 by rw [← HZ.out]; unfold groupsD; rw [if_pos (List.eq_nil_of_length_eq_zero (by rw [HCN.out]; exact hz.1))])
            clear hz C67
            go_wp2
            go_ret
            exact ⟨by rw [HZ2.out]; rfl, HB5.out⟩
          · by_cases hk0 : k = 0
            · have h1 : ((k : Int) == 0) = true := by simp; omega
              have h2 : ((q : Int) == (nh : Int)) = false := by simp; omega
              clear hz hk0
              go_wp2_with (go_at_call 67; refine C67.out.mono ?_; clear C67; rintro e w7 ⟨rfl, hb7⟩; have HB7 := hid (HB5.out.trans (hb7.mono HB5.out.size)); clear hb7)
              go_ret
              exact ⟨by rw [← HZ.out]; rfl, HB7.out⟩
            · have h1 : ((k : Int) == 0) = false := by simp; omega
              clear hz hk0
              go_wp2_with (go_at_call 67; refine C67.out.mono ?_; clear C67; rintro e w7 ⟨rfl, hb7⟩; have HB7 := hid (HB5.out.trans (hb7.mono HB5.out.size)); clear hb7)
              go_ret
              exact ⟨by rw [← HZ.out]; rfl, HB7.out⟩
        · have HZ := hid (show R = 0 by rw [← HR2.out]; simp)
          clear C67
          go_wp2
          go_ret
          exact ⟨by rw [HZ.out]; rfl, HB5.out⟩
        · have HZ := hid (show R = 60 by rw [← HR2.out]; simp)
          clear C67
          go_wp2
          go_ret
          exact ⟨by rw [HZ.out]; rfl, HB5.out⟩
  · have HZ := hid (show R = 0 by rw [← HR.out]; unfold Ckr.followsD; rw [HBB.out, if_pos rfl])
    go_wp2
    go_ret
    exact ⟨by rw [HZ.out]; rfl, HB1.out⟩
end Go.Proofs.Ytjjanmgeogjngaa

/- The document's checker: a clause taken out of the row of those that stand. -/
namespace Ckr
theorem split_at (C : List (Int × List Int)) {j : Nat} (hj : j < C.length) : C = C.take j ++ (C[j] :: C.drop (j + 1)) := by
  conv => lhs; rw [← List.take_append_drop j C, List.drop_eq_getElem_cons hj]
theorem drop1_mid (A B : List (Int × List Int)) (c : Int × List Int) (hs : (A ++ c :: B).Pairwise (fun p q => p.1 < q.1)) : drop1 (A ++ c :: B) c.1 = A ++ B := by
  obtain ⟨h1, h2, h3⟩ := List.pairwise_append.1 hs
  obtain ⟨h4, h5⟩ := List.pairwise_cons.1 h2
  have f1 : A.filter (fun p => p.1 != c.1) = A := List.filter_eq_self.2 fun p hp => by
    have := h3 p hp c List.mem_cons_self
    simp; omega
  have f2 : B.filter (fun p => p.1 != c.1) = B := List.filter_eq_self.2 fun p hp => by
    have := h4 p hp
    simp; omega
  unfold drop1
  rw [List.filter_append, List.filter_cons_of_neg (by simp), f1, f2]
theorem drop1_at {C : List (Int × List Int)} (hs : C.Pairwise (fun p q => p.1 < q.1)) {j : Nat} (hj : j < C.length) : drop1 C C[j].1 = C.take j ++ C.drop (j + 1) := by
  have e := split_at C hj
  generalize C[j] = c at e ⊢
  generalize C.take j = A at e ⊢
  generalize C.drop (j + 1) = B at e ⊢
  subst e
  exact drop1_mid A B c hs
theorem all_take_drop {C : List (Int × List Int)} {j : Nat} (hj : j < C.length) : (all (C.take j ++ C.drop (j + 1))).length + C[j].2.length = (all C).length := by
  have e := split_at C hj
  generalize C[j] = c at e ⊢
  generalize C.take j = A at e ⊢
  generalize C.drop (j + 1) = B at e ⊢
  subst e
  simp [all]
  omega
end Ckr
namespace Go.Proofs.Ytjjanmgeogjngaa
open Go.RowKit Go.Maps
set_option linter.unusedVariables false
set_option linter.unusedSimpArgs false

theorem hflat_take (hs : List Hd) (t : Nat) : (hs.take t).flatMap hvals = (hs.flatMap hvals).take (t * 2) := by
  induction hs generalizing t with
  | nil => simp
  | cons q hs ih =>
    cases t with
    | zero => simp
    | succ t => rw [List.take_succ_cons, List.flatMap_cons, List.flatMap_cons, ih, show (t + 1) * 2 = t * 2 + 1 + 1 by omega]; simp [hvals]
theorem hflat_drop (hs : List Hd) (t : Nat) : (hs.drop t).flatMap hvals = (hs.flatMap hvals).drop (t * 2) := by
  induction hs generalizing t with
  | nil => simp
  | cons q hs ih =>
    cases t with
    | zero => simp
    | succ t => rw [List.drop_succ_cons, ih, List.flatMap_cons, show (t + 1) * 2 = t * 2 + 1 + 1 by omega]; simp [hvals]
theorem hflat_len (hs : List Hd) : (hs.flatMap hvals).length = hs.length * 2 := by
  induction hs with
  | nil => rfl
  | cons q hs ih => rw [List.flatMap_cons, List.length_append, ih]; simp [hvals]; omega
theorem hone {n : Nat} {W : World} {hs : List Hd} (h : ∀ q ∈ hs, W.ownsRow n 40 1 q.2 q.1.2.length (q.1.2.map (Value.int .i32))) : ∀ u ∈ hs.flatMap hvals, u.oneCell' = true := by
  intro u hu
  obtain ⟨q, hq, hu⟩ := List.mem_flatMap.1 hu
  simp [hvals] at hu
  rcases hu with rfl | rfl
  · rfl
  · exact own_one (h q hq)
/-- A clause is taken out: what is ahead of it and what is behind it, in a row of their own. -/
theorem Hm.erase {n : Nat} {W : World} {g L cap t : Nat} {hs : List Hd} (h : Hm n W (.slice (some ⟨g, 0, none⟩) L cap) hs) (hL : hs.length = L) (hL2 : L ≤ 4194304) (ht : t < L) (hn : n ≤ W.heap.size) :
    ∃ o1 c1 V1, (Builtin.append_ #[77, 77] 77 #[.slice none 0 0, .slice (some ⟨g, 0, none⟩) t cap]).run Try.prog W = .ok (.slice o1 t c1) V1 ∧ Below W.heap.size W V1 ∧
      ∀ (x : Addr) (capx : Nat), (0 < L - (t + 1) → x = ⟨g, (t + 1) * 2, none⟩) → ∃ o2 c2 V2, (Builtin.append_ #[77, 77] 77 #[.slice o1 t c1, .slice (some x) (L - (t + 1)) capx]).run Try.prog V1 = .ok (.slice o2 (L - 1) c2) V2 ∧ Hm n V2 (.slice o2 (L - 1) c2) (hs.take t ++ hs.drop (t + 1)) ∧ Below W.heap.size W V2 := by
  obtain ⟨i0, hi, hz⟩ := Option.map_eq_some_iff.1 info84
  simp only [Prod.mk.injEq] at hz
  have hgl : g < W.heap.size := (h.row.lt g rfl).2
  have hcell := h.row.cells (g := g) rfl
  have hmem : ∀ q ∈ hs.take t ++ hs.drop (t + 1), q ∈ hs := by
    intro q hq
    rcases List.mem_append.1 hq with hq | hq
    · exact List.mem_of_mem_take hq
    · exact List.mem_of_mem_drop hq
  have hl1 : (hs.take t).length = t := by simp; omega
  obtain ⟨v1, V1, hr1, ho1, hg1, _, _⟩ := run_append_own_at (P := Try.prog) W W.heap.size 77 77 84 i0 _ 2 32 Try.underlying77 hi hz.1 hz.2.1 hz.2.2 rfl (by decide) (.slice none 0 0) 0 [] (World.ownsRow_nil _ _ _ _) ⟨g, 0, none⟩ t cap ((hs.take t).flatMap hvals) (by rw [hflat_len, hl1]) (fun j u hu => by
    refine hcell j u ?_
    rw [hflat_take] at hu
    have hj : j < t * 2 := by
      rcases Nat.lt_or_ge j (t * 2) with h' | h'
      · exact h'
      · rw [List.getElem?_eq_none (by rw [List.length_take]; omega)] at hu; cases hu
    rwa [List.getElem?_take_of_lt hj] at hu) (hone (fun q hq => h.each q (List.mem_of_mem_take hq))) (by simp [maxLen]; omega) (by omega) (Nat.le_refl _)
  obtain ⟨o1, c1, rfl⟩ := own_slc ho1
  rw [Nat.zero_add] at hr1 ho1
  rw [List.nil_append] at ho1
  have hb1 : Below W.heap.size W V1 := ⟨hg1.os, hg1.tape, hg1.output, hg1.size, fun k hk => hg1.block k hk (by simp [Value.ownBlock])⟩
  refine ⟨o1, c1, V1, hr1, hb1, fun x capx hx => ?_⟩
  obtain ⟨v2, V2, hr2, ho2, hg2, _, _⟩ := run_append_own_at (P := Try.prog) V1 W.heap.size 77 77 84 i0 _ 2 32 Try.underlying77 hi hz.1 hz.2.1 hz.2.2 rfl (by decide) (.slice o1 t c1) t _ ho1 x (L - (t + 1)) capx ((hs.drop (t + 1)).flatMap hvals) (by rw [hflat_len, List.length_drop, hL]) (fun j u hu => by
    have hj : j < (L - (t + 1)) * 2 := by
      rcases Nat.lt_or_ge j ((L - (t + 1)) * 2) with h' | h'
      · exact h'
      · rw [List.getElem?_eq_none (by rw [hflat_len, List.length_drop, hL]; omega)] at hu; cases hu
    rw [hx (by omega), show (⟨g, (t + 1) * 2, none⟩ : Addr).add j = ⟨g, (t + 1) * 2 + j, none⟩ from Go.WideShapes.add_plain _ _ _]
    refine (hb1.cell (p := ⟨g, (t + 1) * 2 + j, none⟩) hgl).trans ?_
    rw [hflat_drop, List.getElem?_drop] at hu
    have := hcell _ u hu
    rwa [show (⟨g, 0, none⟩ : Addr).add ((t + 1) * 2 + j) = ⟨g, 0 + ((t + 1) * 2 + j), none⟩ from Go.WideShapes.add_plain _ _ _, Nat.zero_add] at this) (hone (fun q hq => h.each q (List.mem_of_mem_drop hq))) (by simp [maxLen]; omega) (by omega) hb1.size
  obtain ⟨o2, c2, rfl⟩ := own_slc ho2
  rw [show t + (L - (t + 1)) = L - 1 by omega] at hr2 ho2
  have hb2 : Below W.heap.size W V2 := hb1.grown hg2 hb1.size (fun k e => (ho1.lt k e).1)
  refine ⟨o2, c2, V2, hr2, ⟨?_, fun q hq => own_below (h.each q (hmem q hq)) hb2⟩, hb2⟩
  rw [List.flatMap_append, show (hs.take t ++ hs.drop (t + 1)).length = L - 1 by simp; omega]
  exact own_base ho2 hn
theorem rem_first {C : List (Int × List Int)} {ids : List Int} {k : Nat} (hk : k < ids.length) (h : Ckr.look C (ids.getD k 0) = none) : Ckr.remOK C ids = false := by
  unfold Ckr.remOK
  rw [Bool.and_eq_false_iff]
  left
  cases e : ids.all (fun i => (Ckr.look C i).isSome)
  · rfl
  · have := List.all_eq_true.1 e _ (Lra.getD_mem ids k hk)
    rw [h] at this; cases this
theorem rem_twice {C : List (Int × List Int)} {ids : List Int} {k j : Nat} (hk : k < ids.length) (hj : j < k) (h : ids.getD j 0 = ids.getD k 0) : Ckr.remOK C ids = false := by
  unfold Ckr.remOK
  rw [Bool.and_eq_false_iff]
  right
  rw [decide_eq_false_iff_not]
  intro hd
  have := (List.pairwise_iff_getElem.1 hd) j k (by omega) hk hj
  apply this
  simpa [List.getD, hk, show j < ids.length by omega] using h
theorem rem_ok {C : List (Int × List Int)} {ids : List Int} (h1 : ∀ k, k < ids.length → Ckr.look C (ids.getD k 0) ≠ none) (h2 : ∀ k j, k < ids.length → j < k → ids.getD j 0 ≠ ids.getD k 0) : Ckr.remOK C ids = true := by
  unfold Ckr.remOK
  rw [Bool.and_eq_true]
  constructor
  · refine List.all_eq_true.2 fun i hi => ?_
    obtain ⟨k, hk, rfl⟩ := List.mem_iff_getElem.1 hi
    have := h1 k hk
    simp [List.getD, hk] at this
    cases e : Ckr.look C ids[k] with
    | none => exact absurd e this
    | some c => rfl
  · refine decide_eq_true (List.pairwise_iff_getElem.2 fun j k hj hk hjk e => ?_)
    refine h2 k j hk hjk ?_
    simpa [List.getD, hk, hj] using e
end Go.Proofs.Ytjjanmgeogjngaa

/- Clauses are deleted, by the document: the call. -/
namespace Ckr
theorem dropL_len (ids : List Int) : ∀ (C : List (Int × List Int)), (dropL C ids).length ≤ C.length := by
  induction ids with
  | nil => intro C; exact Nat.le_refl _
  | cons i ids ih => intro C; exact Nat.le_trans (ih (drop1 C i)) (List.length_filter_le _ _)
end Ckr
namespace Go.Proofs.Ytjjanmgeogjngaa
open Go.RowKit Go.Maps
set_option linter.unusedVariables false
set_option linter.unusedSimpArgs false

/-- What a step of the document's checker leaves behind. -/
def DkOut (n mb : Nat) (W : World) (r : Int) (S : Ckr.St) (e : Ending) (W' : World) : Prop := e = .returned (.int .i64 r) ∧ (∃ hs v, Dk n mb W' S hs v) ∧ Below n W W'

set_option maxRecDepth 100000 in
set_option maxHeartbeats 8000000 in
theorem drop47 {n mb : Nat} {W0 W : World} {S : Ckr.St} {hs : List Hd} {v : Value} (hD : Dk n mb W S hs v) (hG : Ckr.Good S.C S.last) (hcl : S.C.length ≤ 4194304) (hW : Below W0.heap.size W0 W) (hnn : W0.heap.size ≤ n) (ah : Option Addr) (nh ch : Nat) (ids : List Int) (hh : Hnts W0 ah ids) (hn : ids.length = nh) (hnb : nh ≤ 1048576) (d : Int × Ckr.St) (hd : d = if Ckr.remOK S.C ids then (0, ⟨Ckr.dropL S.C ids, S.last, S.dn⟩) else (5, S)) :
    Calls Try.prog 47 #[.pointer (some ⟨mb, 0, none⟩), .slice ah nh ch] W fun e W' => DkOut n mb W d.1 d.2 e W' := by
  have HD := hid hD
  have HG := hid hG
  have HCl := hid hcl
  have HW := hid hW
  have HH := hid hh
  have HN := hid hn
  have HDD := hid hd
  have hnW : n ≤ W.heap.size := by have := hD.base; have := (Array.getElem?_eq_some_iff.1 hD.blk).1; omega
  have sh : Hid (nh = 0) ∨ ∃ b off, ah = some ⟨b, off, none⟩ ∧ b < W0.heap.size := by
    rcases hh.2 with e | ⟨b, off, e, hl, _⟩
    · left; rw [e] at hn; exact hn.symm
    · exact .inr ⟨b, off, e, hl⟩
  clear hD hG hcl hW hh hn hd
  rcases sh with Z | ⟨b, off, rfl, hbl⟩
  all_goals
    go_enter Try.func47, Try.ntmps47
    go_wp2
    go_loopw [5, 6] (fun iv _ wr => ∃ k : Nat, iv = .int .i64 k ∧ k ≤ nh ∧ Hid (∀ j, j < k → Ckr.look S.C (ids.getD j 0) ≠ none) ∧ Hid (∀ j i, j < k → i < j → ids.getD i 0 ≠ ids.getD j 0) ∧ Hid (Drawn W wr)) (fun iv _ _ => nh - (intOf iv).toNat)
    case atStart => exact ⟨0, rfl, Nat.zero_le _, hid (fun j h => by omega), hid (fun j i h => by omega), hid (Drawn.refl _)⟩
    case round =>
      obtain ⟨k, rfl, hk, HJ1, HJ2, HDw⟩ := hrel
      by_cases hlt : k < nh
      · first
        | (exfalso; have := Z.out; omega)
        | (have hlt' : (k : Int) < nh := by omega
           have hki : k < ids.length := by rw [HN.out]; exact hlt
           have hall : ∀ j, j < ids.length → wr.cell? ⟨b, off + j, none⟩ = some (.int .i64 (ids.getD j 0)) := fun j hj => by
             rw [HDw.out.cell]
             obtain ⟨b', off', e, hb', hc', _, _⟩ := Row.at (HH.out.below HW.out) hj
             cases e
             exact hc'
           have HAll := hid hall
           have hcw := hall k hki
           have C63 := hid (find63 (HD.out.below HDw.out.below') (ids.getD k 0) HCl.out)
           have HRF := hid (rem_first (C := S.C) hki)
           have HRT := hid (fun j hj => rem_twice (C := S.C) (j := j) hki hj)
           have HJ1n := hid (show Ckr.look S.C (ids.getD k 0) ≠ none → ∀ j, j < k + 1 → Ckr.look S.C (ids.getD j 0) ≠ none from fun q j hj => by
             rcases Nat.lt_or_ge j k with h | h
             · exact HJ1.out j h
             · obtain rfl : j = k := by omega
               exact q)
           have HJ2n := hid (show (∀ i, i < k → ids.getD i 0 ≠ ids.getD k 0) → ∀ j i, j < k + 1 → i < j → ids.getD i 0 ≠ ids.getD j 0 from fun q j i hj hi => by
             rcases Nat.lt_or_ge j k with h | h
             · exact HJ2.out j i h hi
             · obtain rfl : j = k := by omega
               exact q i hi)
           generalize hidk : ids.getD k 0 = id at hcw C63 HRF HRT HJ1n HJ2n
           have HIK := hid hidk
           clear hall hidk
           go_wp2_with fail
           go_at_call 63
           refine C63.out.mono ?_
           clear C63
           rintro e w2 ⟨z, rfl, hfind, hw2⟩
           rw [hw2]
           clear hw2
           rcases hfind with ⟨rfl, hnone⟩ | ⟨j, hj, rfl, hid1, hsome⟩
           · have HZ : Hid (DkOut n mb W d.1 d.2 (.returned (.int .i64 5)) wr) := by
               have e := HDD.out
               rw [HRF.out hnone] at e
               rw [e]
               exact ⟨rfl, ⟨hs, v, HD.out.below HDw.out.below'⟩, HDw.out.below'.mono hnW⟩
             clear hnone
             go_wp2
             go_ret
             exact HZ.out
           · have HJ1' := hid (HJ1n.out (by rw [hsome]; simp))
             have hjb : ¬ (j : Int) < 0 := by omega
             clear hsome hid1 hj
             go_wp2
             obtain ⟨wi, hwi⟩ : ∃ wi, wi = wr := ⟨wr, rfl⟩
             subst hwi
             clear hcw
             go_loopw [6] (fun kv wr => ∃ u : Nat, kv = .int .i64 u ∧ u ≤ k ∧ Hid (∀ i, i < u → ids.getD i 0 ≠ id) ∧ Hid (Drawn wi wr)) (fun kv _ => k - (intOf kv).toNat)
             case atStart => exact ⟨0, rfl, Nat.zero_le _, hid (fun i h => by omega), hid (Drawn.refl _)⟩
             case round =>
               obtain ⟨u, rfl, hu, HU, HDu⟩ := hrel
               by_cases huk : u < k
               · have huk' : (u : Int) < k := by omega
                 have hun : (u : Int) < nh := by omega
                 have c1 := HAll.out u (by rw [HN.out]; omega)
                 have c2 := HAll.out k (by rw [HN.out]; exact hlt)
                 rw [HIK.out] at c2
                 rw [← HDu.out.cell] at c1 c2
                 have HUn := hid (show ids.getD u 0 ≠ id → ∀ i, i < u + 1 → ids.getD i 0 ≠ id from fun q i hi => by
                   rcases Nat.lt_or_ge i u with h | h
                   · exact HU.out i h
                   · obtain rfl : i = u := by omega
                     exact q)
                 have HT := hid (HRT.out u huk)
                 generalize ids.getD u 0 = y at c1 HUn HT
                 by_cases hq : y = id
                 · have hqb : (y == id) = true := by simpa using hq
                   have HZ : Hid (∀ q, DkOut n mb W d.1 d.2 (.returned (.int .i64 5)) (wr.drewN q)) := fun q => by
                     have e := HDD.out
                     rw [HT.out hq] at e
                     rw [e]
                     have hdd : Drawn W (wr.drewN q) := (HDw.out.trans HDu.out).drewN q
                     exact ⟨rfl, ⟨hs, v, HD.out.below hdd.below'⟩, hdd.below'.mono hnW⟩
                   clear hq
                   go_wp2
                   go_quiet (fail)
                   go_wp2
                   go_ret
                   exact HZ.out _
                 · have hqb : (y == id) = false := by simpa using hq
                   have HU2 := hid (HUn.out hq)
                   clear hq
                   go_wp2
                   go_quiet (fail)
                   go_wp2
                   go_roundw
                   case rel => exact ⟨u + 1, by go_num, by omega, HU2, hid (HDu.out.drewN _)⟩
                   case measure => simp [intOf]; omega
               · have huk' : ¬ (u : Int) < k := by omega
                 have HJ2' := hid (HJ2n.out (fun i hi => HU.out i (by omega)))
                 go_wp2
                 go_roundw
                 case rel => exact ⟨k + 1, by go_num, by omega, HJ1', HJ2', hid (HDw.out.trans HDu.out)⟩
                 case measure => simp [intOf]; omega)
      · have hge : ¬ (k : Int) < nh := by omega
        have HOK := hid (rem_ok (C := S.C) (ids := ids) (fun j hj => HJ1.out j (by rw [HN.out] at hj; omega)) (fun j i hj hi => HJ2.out j i (by rw [HN.out] at hj; omega) hi))
        have HBw := hid (HDw.out.below'.mono hnW)
        have HDk := hid (HD.out.below HDw.out.below')
        clear HJ1 HJ2 hk
        obtain ⟨wx, hwx⟩ : ∃ wx, wx = wr := ⟨wr, rfl⟩
        subst hwx
        go_wp2
        go_loopw [7, 8, 9] (fun iv _ _ wr => ∃ t : Nat, iv = .int .i64 t ∧ t ≤ nh ∧ Hid (∃ hs' v', Dk n mb wr ⟨Ckr.dropL S.C (ids.take t), S.last, S.dn⟩ hs' v') ∧ Hid (Below n W wr)) (fun iv _ _ _ => nh - (intOf iv).toNat)
        case atStart => exact ⟨0, rfl, Nat.zero_le _, hid ⟨hs, v, HDk.out⟩, HBw⟩
        case round =>
          clear HDk HBw
          obtain ⟨t, rfl, ht, HDt, HB⟩ := hrel
          by_cases htl : t < nh
          · first
            | (exfalso; have := Z.out; omega)
            | (have htl' : (t : Int) < nh := by omega
               have hti : t < ids.length := by rw [HN.out]; exact htl
               obtain ⟨hs1, v1, hDt⟩ := HDt.out
               have hc := Row.at HH.out hti
               obtain ⟨b', off', e, hb', hc', _, _⟩ := hc
               cases e
               have hcw := ((HW.out.trans (HB.out.mono hnn)).cell (p := ⟨b, off + t, none⟩) hb').trans hc'
               have hlk : Ckr.look (Ckr.dropL S.C (ids.take t)) (ids.getD t 0) ≠ none := by
                 have hok := HOK.out
                 unfold Ckr.remOK at hok
                 rw [Bool.and_eq_true] at hok
                 have h1 := List.all_eq_true.1 hok.1 _ (Lra.getD_mem ids t hti)
                 have h2 := of_decide_eq_true hok.2
                 rw [Ckr.look_dropL, if_neg]
                 · intro e; rw [e] at h1; cases h1
                 · intro hm
                   obtain ⟨i, hi, e⟩ := List.mem_iff_getElem.1 hm
                   have hit : i < t := by simp at hi; omega
                   have := (List.pairwise_iff_getElem.1 h2) i t (by omega) hti hit
                   apply this
                   simp [List.getD, hti] at e
                   exact e
               have HSn := hid (show Ckr.dropL S.C (ids.take (t + 1)) = Ckr.drop1 (Ckr.dropL S.C (ids.take t)) (ids.getD t 0) by rw [Lra.take_snoc ids t hti, Ckr.dropL_snoc])
               have hGt := Ckr.Good.dropL (ids.take t) HG.out
               have hclt : (Ckr.dropL S.C (ids.take t)).length ≤ 4194304 := Nat.le_trans (Ckr.dropL_len (ids.take t) S.C) HCl.out
               have C63 := hid (find63 hDt (ids.getD t 0) hclt)
               simp only at C63
               generalize ids.getD t 0 = id at hcw hlk HSn C63
               generalize Ckr.dropL S.C (ids.take t) = C1 at hDt hlk HSn hGt hclt C63
               clear hc' hb'
               go_wp2_with fail
               go_at_call 63
               refine C63.out.mono ?_
               clear C63
               rintro e w2 ⟨z, rfl, hfind, hw2⟩
               rw [hw2]
               clear hw2 hcw
               rcases hfind with ⟨_, hnone⟩ | ⟨j, hj, rfl, hid1, hsm⟩
               · exact absurd hnone hlk
               have his : hs1.map (·.1) = C1 := hDt.is
               have hlen : hs1.length = C1.length := by rw [← his]; simp
               have hjh : j < hs1.length := by omega
               have hjc : hs1[j].1 = C1[j] := by
                 have e1 : (hs1.map (·.1))[j]? = C1[j]? := by rw [his]
                 rw [List.getElem?_map, List.getElem?_eq_getElem hjh, List.getElem?_eq_getElem hj] at e1
                 simpa using e1
               obtain ⟨g, cv, a5, c5, hve, y00, y1, hq2⟩ := hDt.mem.at hjh
               rw [hjc] at y1
               have hdrop : Ckr.drop1 C1 id = C1.take j ++ C1.drop (j + 1) := by rw [← hid1]; exact Ckr.drop1_at hGt.sorted hj
               have hall := Ckr.all_take_drop hj
               have hfew : (Ckr.all C1).length ≤ 16777216 := hGt.few
               have hmb : mb < wr.heap.size := (Array.getElem?_eq_some_iff.1 hDt.blk).1
               have hnmb := hDt.base
               subst hve
               have hblk := hDt.blk
               simp only at hblk
               have x0 := row_cell hblk 0
               have x3 := row_cell hblk 3
               have f3 := row_frozen hblk 3
               simp only [List.getElem?_toArray, List.getElem?_cons_zero, List.getElem?_cons_succ] at x0 x3
               obtain ⟨W2, hW2⟩ : ∃ W2, (wr.setCell ⟨mb, 3, none⟩ (.int .i64 ((Ckr.all (C1.take j ++ C1.drop (j + 1))).length : Int))).drew = W2 := ⟨_, rfl⟩
               have hs2 : W2.heap.size = wr.heap.size := by rw [← hW2]; simp [World.setCell]
               have hother : ∀ g2, g2 ≠ mb → W2.heap[g2]? = wr.heap[g2]? := fun g2 h2 => by rw [← hW2]; exact heap_other wr _ h2
               have hblk2 : W2.heap[mb]? = some (.cells #[.slice (some ⟨g, 0, none⟩) hs1.length cv, .int .i64 S.last, .bool S.dn, .int .i64 ((Ckr.all (C1.take j ++ C1.drop (j + 1))).length : Int)] 79 (0, 0)) := by rw [← hW2]; exact heap_set_row hblk _
               have hM2 : Hm n W2 (.slice (some ⟨g, 0, none⟩) hs1.length cv) hs1 := hDt.mem.keep (fun g2 cs2 ty hty _ hg2 => hother g2 (fun e => by
                 rw [e, hblk] at hg2
                 injection hg2 with hg2
                 injection hg2 with _ hg2 _
                 rcases hty with rfl | rfl <;> cases hg2))
               have hB2 : Below n W W2 := by
                 rw [← hW2]
                 have h3 := HB.out.setCell (p := ⟨mb, 3, none⟩) hnmb (.int .i64 ((Ckr.all (C1.take j ++ C1.drop (j + 1))).length : Int))
                 exact h3.drew
               obtain ⟨o1, c1, V1, hr1, hbV1, hsec⟩ := hM2.erase rfl (by omega) (t := j) hjh (by rw [hs2]; omega)
               have hcv : hs1.length ≤ cv := by
                 rcases hM2.row.2 with ⟨e, _⟩ | ⟨g2, c2, cur, e, _, _, h3, _⟩
                 · cases e
                 · injection e with _ _ e; omega
               have x0b := row_cell hblk2 0
               simp only [List.getElem?_toArray, List.getElem?_cons_zero] at x0b
               have x0c := (hbV1.cell (p := ⟨mb, 0, none⟩) (by rw [hs2]; exact hmb)).trans x0b
               have hnc : ((Ckr.all C1).length : Int) - (C1[j].2.length : Int) = ((Ckr.all (C1.take j ++ C1.drop (j + 1))).length : Int) := by omega
               have hAb : ((Ckr.all C1).length : Int) ≤ 16777216 := by omega
               have hCb : (C1[j].2.length : Int) ≤ (Ckr.all C1).length := by omega
               have HFin := hid (fun (o2 : Option Addr) (L1 c2 : Nat) (V2 : World) (hL1 : hs1.length - 1 = L1) (hM3 : Hm n V2 (.slice o2 L1 c2) (hs1.take j ++ hs1.drop (j + 1))) (hb3 : Below W2.heap.size W2 V2) => show (∃ hs' v', Dk n mb (V2.setCell ⟨mb, 0, none⟩ (.slice o2 L1 c2)) ⟨Ckr.dropL S.C (ids.take (t + 1)), S.last, S.dn⟩ hs' v') ∧ Below n W (V2.setCell ⟨mb, 0, none⟩ (.slice o2 L1 c2)) by
                 have hbV : V2.heap[mb]? = _ := (hb3.block mb (by rw [hs2]; exact hmb)).trans hblk2
                 refine ⟨⟨hs1.take j ++ hs1.drop (j + 1), .slice o2 L1 c2, hnmb, ?_, hM3.keep (fun g2 cs2 ty hty _ hg2 => heap_other V2 _ (fun e => by
                   rw [e, hbV] at hg2
                   injection hg2 with hg2
                   injection hg2 with _ hg2 _
                   rcases hty with rfl | rfl <;> cases hg2)), ?_⟩, ?_⟩
                 · simp only
                   rw [HSn.out, hdrop, List.map_append, List.map_take, List.map_drop, his]
                 · simp only
                   rw [HSn.out, hdrop]
                   exact heap_set_row hbV _
                 · exact (hB2.trans (hb3.mono (by rw [hs2]; omega))).setCell (p := ⟨mb, 0, none⟩) hnmb _)
               have HR1 := hid hr1
               have HSec := hid hsec
               have hjm : (j : Int) < hs1.length := by omega
               have hjcv : (j : Int) ≤ cv := by omega
               have hL22 : hs1.length ≤ 4194304 := by omega
               have hfV : ∀ V2, Below W2.heap.size W2 V2 → V2.cell? ⟨mb, 0, none⟩ = some (.slice (some ⟨g, 0, none⟩) hs1.length cv) ∧ V2.frozen? ⟨mb, 0, none⟩ = false := fun V2 hb => by
                 have hbV : V2.heap[mb]? = _ := (hb.block mb (by rw [hs2]; exact hmb)).trans hblk2
                 exact ⟨row_cell hbV 0, row_frozen hbV 0⟩
               have HFV := hid hfV
               have hNCe : ∃ NC, C1[j].2.length = NC := ⟨_, rfl⟩
               obtain ⟨NC, hNC⟩ := hNCe
               rw [hNC] at y1 hnc hCb
               clear hr1 hsec hM2 hB2 hblk2 hblk hlk hGt his hdrop hall hfV y00 hq2 hjc hid1 hfew hother hNC hlen hclt hDt
               clear hsm
               clear hjh hj
               generalize hLL : hs1.length = LL at x0 x0b x0c HFV HFin HSec hjm hcv hL22
               generalize hA3 : ((Ckr.all (C1.take j ++ C1.drop (j + 1))).length : Int) = A3 at hnc hW2
               generalize hAA : ((Ckr.all C1).length : Int) = AA at x3 hnc hAb hCb
               clear hLL hA3 hAA
               go_wp2
               go_region
               obtain ⟨L1, hL1⟩ : ∃ L1, LL - 1 = L1 := ⟨_, rfl⟩
               have HL1 := hid hL1
               clear x0 x3 f3 y1 hW2 hnc hAb hCb
               by_cases hcut : cv = j + 1
               all_goals
                 first
                 | (subst hcut; obtain ⟨o2, c2, V2, hr2, hM3, hbV2⟩ := HSec.out ⟨g, 0, none⟩ 0 (fun h => by omega); rw [show LL - (j + 1) = 0 by omega] at hr2)
                 | (obtain ⟨o2, c2, V2, hr2, hM3, hbV2⟩ := HSec.out ⟨g, (j + 1) * 2, none⟩ (cv - (j + 1)) (fun _ => rfl))
                 rw [hL1] at hr2 hM3
                 obtain ⟨hx6, hf6⟩ := HFV.out V2 hbV2
                 obtain ⟨hdk, hbw⟩ := HFin.out o2 L1 c2 V2 hL1 hM3 hbV2
                 have HDK := hid hdk
                 have HBW := hid hbw
                 have HR2 := hid hr2
                 clear hr2 hM3 hbV2 hdk hbw hL1 HFin HFV HSec
                 go_wp2_with (first
                   | (at_builtin; refine wpList_append_run rfl (.tmp 66) (.tmp 72) 77 77 rfl rfl rfl HR1.out ?_; clear HR1)
                   | (at_builtin; refine wpList_append_run rfl (.tmp 74) (.tmp 81) 77 77 rfl rfl rfl HR2.out ?_; clear HR2))
                 go_roundw
                 case rel => exact ⟨t + 1, by go_num, by omega, HDK, HBW⟩
                 case measure => simp [intOf]; omega)
          · have htl' : ¬ (t : Int) < nh := by omega
            have HZ : Hid (DkOut n mb W d.1 d.2 (.returned (.int .i64 0)) wr) := by
              have e := HDD.out
              rw [HOK.out, if_pos rfl] at e
              rw [e]
              have q := HDt.out
              rw [List.take_of_length_le (by rw [HN.out]; omega)] at q
              exact ⟨rfl, q, HB.out⟩
            go_wp2
            go_ret
            exact HZ.out
end Go.Proofs.Ytjjanmgeogjngaa

