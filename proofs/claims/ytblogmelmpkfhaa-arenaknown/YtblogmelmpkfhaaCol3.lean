/- Collect. -/
import Derived.Test.YtblogmelmpkfhaaCol2
namespace Go.Proofs.Ytblogmelmpkfhaa
open Go.RowKit Go.Maps
set_option linter.unusedVariables false

theorem step_copy_run {P : Program} {w w' : World} {ops : Array Oper} {o : Oper} {a : Act} {K : Act → World → Prop} {Q : Exit → Act → World → Prop} {E : Prop} (hgd : o.guard = none) (s x : Operand) (t u : TypeId)
    (ho : o.op = .call { callee := .builtin .copy, args := #[s, x], argTypes := #[t, u] }) {v xv v' : Value} (hs : a.eval s = v) (hx : a.eval x = xv)
    (hrun : (Builtin.copy_ #[t, u] o.type #[v, xv]).run P w = .ok v' w') (h : K (a.put o.dst v') w') :
    if Region.wanted o (yielded ops a.tmps) = true then Oper.wp P o a w K Q else E := by
  have hw : Region.wanted o (yielded ops a.tmps) = true := by simp [Region.wanted, hgd]
  rw [if_pos hw]
  unfold Oper.wp
  simp [execOp, ho, resolve, invoke, builtin, hs, hx, hrun, Result.andThen]
  exact h
theorem refs_count (M : List Arn.It) (o : Int) : (Arn.refs M o).length = (Arn.collect M).length := by
  induction M generalizing o with
  | nil => rfl
  | cons x M ih =>
    rw [show x :: M = [x] ++ M from rfl, Arn.collect_append, Arn.refs_append, List.length_append, List.length_append, ih]
    cases hd : x.dead
    · rw [Arn.collect_live x hd]; simp [hd, Arn.refs]
    · rw [show Arn.collect [x] = [] from Arn.collect_dead (fun y hy => by rw [List.mem_singleton.1 hy]; exact hd)]; simp [hd, Arn.refs]
/-- It is put together. -/
theorem Cm.done {n ab lim bm nm G R g c : Nat} {W0 : World} {M A B : List Arn.It} {ws : List Int} {W : World} (h : Cm n ab lim bm nm G R g c W0 M A B ws W) (hi : (Arn.refs A 0).length = R) (hl : lim ≤ 268435456) (hf : Arn.size M ≤ lim) (e : Nat) (he : Arn.size (Arn.collect A) = e) (W' : World)
    (hW' : ((W.setCell ⟨ab, 1, none⟩ (.slice (some ⟨g, 0, none⟩) e c)).setCell ⟨ab, 2, none⟩ (.map (some nm))).setCell ⟨ab, 3, none⟩ (.int .i64 0) = W') :
    Did n ab lim W0 (Arn.collect M) W' ∧ MovesOut W0.heap.size (Arn.refs M 0) (Arn.refs (Arn.collect M) 0) (.returned (.slice (some ⟨G, 0, none⟩) R R)) W' := by
  obtain ⟨n1, n2, n3, n4, n5, n6⟩ := h.nes
  have hrefs : Arn.refs M 0 = Arn.refs A 0 ++ Arn.refs B (Arn.size A : Nat) := by rw [h.mid.1, Arn.refs_append, Int.zero_add]
  have hB0 : (Arn.refs B (Arn.size A : Nat)).length = 0 := by
    have := congrArg List.length hrefs
    rw [List.length_append, hi, h.num] at this
    omega
  have hB := Arn.rest_dead B _ hB0
  obtain ⟨hcol, htake⟩ := Arn.mid_end h.ok h.mid hB
  have hrA : Arn.refs M 0 = Arn.refs A 0 := by rw [hrefs, Arn.refs_dead hB, List.append_nil]
  have hcs := Arn.collect_size h.ok
  have hq : W'.heap[ab]? = some (.cells #[.int .i64 lim, .slice (some ⟨g, 0, none⟩) e c, .map (some nm), .int .i64 0] 69 (0, 0)) := by
    rw [← hW', heap_set_row (heap_set_row (heap_set_row h.blk _) _)]
    rfl
  have ho : ∀ q, q ≠ ab → W'.heap[q]? = W.heap[q]? := fun q hq => by
    rw [← hW']
    exact (heap_other _ _ hq).trans ((heap_other _ _ hq).trans (heap_other _ _ hq))
  have hgr : W.grownBy W' (some ab) := by
    rw [← hW']
    exact ⟨rfl, rfl, rfl, by simp [World.setCell], fun q _ hne => by rw [hW']; exact ho q (fun e => hne (by rw [e]))⟩
  refine ⟨⟨⟨.slice (some ⟨g, 0, none⟩) e c, nm, h.nab, Nat.le_trans h.nsz h.new, ?_, ?_, ?_, Arn.collect_ok h.ok, Nat.le_trans hcs hf, hl⟩, h.fr.trans ?_⟩, _, rfl, ?_⟩
  · rw [hq, Arn.collect_waste]; rfl
  · rcases h.own.2 with ⟨e', _⟩ | ⟨g', c', cur', e', q1, q2, q3, q4, q5, q6⟩
    · cases e'
    · cases e'
      rw [hcol, he]
      refine own_mk q1 ((ho g (fun e => n1 e.symm)).trans q2) ?_ q4 (by omega) ?_
      · rw [hcol, he] at hcs; omega
      · rw [← hcol, ← htake, he, List.map_take, ← q6, List.take_take]
        congr 1
        rw [hcol, he] at hcs
        omega
  · rw [← refs_count M 0, h.num, hcol, ← hi]
    exact h.map.kept hgr (by simpa using n4)
  · exact Fr.grown hgr (fun q hq2 => by
      cases hq2
      refine ⟨h.nab, fun o ho2 => ?_⟩
      rw [h.blk] at ho2
      cases ho2
      exact .inl rfl)
  · rw [h.num]
    have := h.mvs.kept hgr (.inr (by simp [Value.ownBlock]; exact fun e => n2 e.symm))
    unfold mvL at this
    rw [hi, Nat.sub_self, Nat.mul_zero, List.replicate_zero, List.append_nil] at this
    rw [hrA, hcol]
    exact this
set_option maxRecDepth 100000 in
set_option maxHeartbeats 4000000 in
theorem collect26_live {n ab lim bm g c : Nat} {M : List Arn.It} {W : World} (h : Ar n ab lim (.slice (some ⟨g, 0, none⟩) (Arn.size M) c) bm M W) (hpos0 : 0 < (Arn.refs M 0).length) :
    Calls Try.prog 26 #[.pointer (some ⟨ab, 0, none⟩)] W fun e w' => MovesOut W.heap.size (Arn.refs M 0) (Arn.refs (Arn.collect M) 0) e w' ∧ Did n ab lim W (Arn.collect M) w' := by
  have HR := hid (refs25 h)
  have HLM := hid h.lim
  have HFT := hid h.fit
  obtain ⟨i0, hi, hz⟩ := Option.map_eq_some_iff.1 info63
  simp only [Prod.mk.injEq] at hz
  have hRl : (Arn.refs M 0).length ≤ 67108864 := by have := Arn.refs_len M 0; have := Arn.len_size h.ok; have := h.fit; have := h.lim; omega
  obtain ⟨R, hR⟩ : ∃ R, (Arn.refs M 0).length = R := ⟨_, rfl⟩
  have HRn := hid hR
  have HM := hid (fun (w' : World) (hw : W.heap.size ≤ w'.heap.size) => run_make_full (P := Try.prog) w' W.heap.size 54 63 i0 _ 2 Try.underlying54 hi hz.1 hz.2.1 .i64 .i64 R (by rw [hz.2.2]; omega) (by unfold maxLen; omega) hw)
  have hmk : ∀ W, (Instr.makeMap 66 (some (.int .i64 R))).run Try.prog W = .ok (.map (some W.heap.size)) (W.alloc (.map #[] 0)) := fun W => by simp [Instr.makeMap, run_underlying Try.underlying66, asInt, asIntOf, Result.andThen]
  rw [hR] at hRl hpos0
  clear hi hz hR
  go_enter Try.func26, Try.ntmps26
  go_wp2_with (fail)
  go_at_call 25
  refine HR.out.mono ?_
  rintro e w1 ⟨⟨vr, rfl, hvr⟩, hb1⟩
  rw [HRn.out] at hvr
  obtain ⟨ro, rc, rfl⟩ := own_slc hvr
  obtain ⟨w2, hm2, hmo, hg2⟩ := HM.out w1 hb1.size
  have hb2 := hb1.trans ((Below.refl _ _).grown hg2 hb1.size (fun q hq => by cases hq))
  have hs12 : w1.heap.size ≤ w2.heap.size := hg2.size
  have hb3 := hb2.alloc hb2.size (.map #[] 0)
  have hvr3 : (w2.alloc (.map #[] 0)).ownsRow W.heap.size 36 1 (.slice ro R rc) R ((Arn.refs M 0).map (Value.int .i64)) := (hvr.kept hg2 (by
    cases ro with
    | none => exact .inl rfl
    | some a => exact .inr (by simp [Value.ownBlock]))).alloc _
  have hcm : Cm n ab lim bm w2.heap.size w1.heap.size R g c W M [] M (Arn.row M) (w2.alloc (.map #[] 0)) := by
    have hA3 := h.below hb3
    obtain ⟨_, cur, hgq⟩ := own_blk h.own rfl
    refine ⟨h.nab, (own_blk h.own rfl).1, h.ok, Nat.le_trans h.fit h.lim, ?_, ?_, hA3.blk, hA3.own, Arn.mid_start M, ?_, ?_, HRn.out, Fr.of_below hb3, hb2.size, hb3.mono ?_, ?_⟩
    · rcases h.own.2 with ⟨e, _⟩ | ⟨g', c', cur', e, _, _, h4, h5, _⟩
      · cases e
      · cases e; exact h4
    · rcases h.own.2 with ⟨e, _⟩ | ⟨g', c', cur', e, _, _, h4, h5, _⟩
      · cases e
      · cases e; exact h5
    · exact Mp.new w2
    · have := hmo.alloc (.map #[] 0)
      have e : mvL [] R = (madeCells (Value.agg #[.int .i64 0, .int .i64 0]).cells (R * 2)).toList := by
        show [] ++ List.replicate (2 * (R - 0)) (Value.int .i64 0) = _
        apply List.ext_getElem
        · simp [madeCells]; omega
        · intro j h1 h2
          simp only [List.nil_append, List.getElem_replicate, madeCells]
          have hj : j % 2 = 0 ∨ j % 2 = 1 := by omega
          rcases hj with hj | hj <;> simp [Value.cells, hj]
      rw [e]
      exact this
    · have := h.nab; have := lt_of_blk h.blk; omega
    · have := h.nab; have := lt_of_blk h.blk; omega
  have HCM := hid hcm
  have HVR := hid hvr3
  generalize hG : w1.heap.size = G at *
  clear hcm hvr3 hmo hg2 hb2 hb3 hvr hb1 HM HR h
  obtain ⟨rg, rfl⟩ : ∃ rg, ro = some ⟨rg, 0, none⟩ := by
    rcases HVR.out.2 with ⟨e, h0⟩ | ⟨g', c', cur', e, _⟩
    · omega
    · cases e; exact ⟨_, rfl⟩
  go_wp2
  generalize hw3 : w2.alloc (.map #[] 0) = w3 at *
  generalize hnm : w2.heap.size = nm at *
  clear hw3 hnm hmk hm2 hs12
  go_loopw [21, 6] (fun iv ev wr => ∃ (i e : Nat) (A B : List Arn.It) (ws : List Int), i ≤ R ∧ e ≤ 268435456 ∧ iv = .int .i64 i ∧ ev = .int .i64 e ∧ Hid ((Arn.refs A 0).length = i) ∧ Hid (Arn.size (Arn.collect A) = e) ∧ Hid (Cm n ab lim bm nm G R g c W M A B ws wr) ∧ Hid (wr.ownsRow W.heap.size 36 1 (.slice (some ⟨rg, 0, none⟩) R rc) R ((Arn.refs M 0).map (Value.int .i64)))) (fun iv _ _ => R - (intOf iv).toNat)
  case atStart => exact ⟨0, 0, [], M, Arn.row M, Nat.zero_le _, by decide, rfl, rfl, hid rfl, hid rfl, HCM, HVR⟩
  case round =>
    obtain ⟨i, e, A, B, ws, hiR, he, rfl, rfl, HI, HE, HC, HV⟩ := hrel
    by_cases hlt : i < R
    · have hlt' : (i : Int) < R := by omega
      have hrefs : Arn.refs M 0 = Arn.refs A 0 ++ Arn.refs B (Arn.size A : Nat) := by rw [HC.out.mid.1, Arn.refs_append, Int.zero_add]
      have hpos : 0 < (Arn.refs B (Arn.size A : Nat)).length := by
        have := congrArg List.length hrefs
        rw [List.length_append, HI.out, HRn.out] at this
        omega
      obtain ⟨D, x, C, rfl, hD, hx⟩ := Arn.next_live B _ hpos
      have hri : (Arn.refs M 0)[i]? = some (Arn.size (A ++ D) : Int) := by
        rw [hrefs, List.getElem?_append_right (by rw [HI.out]; exact Nat.le_refl _), HI.out, Nat.sub_self, Arn.refs_append, Arn.refs_dead hD, Arn.refs_cons, if_neg (by simp [hx]), Arn.size_append]
        simp
      have hrc := HV.out.cellAt i (by omega)
      rw [List.getElem?_map, hri, Option.map_some] at hrc
      obtain ⟨W2, W3, hr2, hc1, hc0, hr3, ws', hC', hkeep⟩ := HC.out.step hD hx HI.out hlt
      have hfz1 := HC.out.mvs.frozenAt (i * 2)
      have hfz2 := HC.out.mvs.frozenAt (i * 2 + 1)
      have hml := mvL_len (A := A) (R := R) (by rw [HI.out]; exact hiR)
      obtain ⟨u1, hcl1⟩ : ∃ u, wr.cell? ⟨G, i * 2, none⟩ = some u := ⟨_, (HC.out.mvs.cellAt (i * 2) (by omega)).trans (List.getElem?_eq_getElem (by omega))⟩
      obtain ⟨u2, hcl2⟩ : ∃ u, wr.cell? ⟨G, i * 2 + 1, none⟩ = some u := ⟨_, (HC.out.mvs.cellAt (i * 2 + 1) (by omega)).trans (List.getElem?_eq_getElem (by omega))⟩
      have hhd : 0 ≤ x.head := by unfold Arn.It.head; split <;> split <;> omega
      have hxo : x.ok := HC.out.ok x (by rw [HC.out.mid.1]; simp)
      have hsM : Arn.size M = Arn.size (A ++ D) + (x.room + Arn.size C) := by rw [HC.out.mid.1]; simp [Arn.size_append, Arn.size]; omega
      have hkr : Arn.size (A ++ D) + x.room ≤ Arn.size M := by omega
      have hN := HC.out.fit
      have hfits := hxo.fits
      have hcap := HC.out.cap
      have hhd2 : x.head ≤ 1073741827 := by unfold Arn.It.head; split <;> split <;> omega
      have hq : x.head / 4 = x.lits.length := by unfold Arn.It.head; split <;> split <;> omega
      have C44 := hid (fun (w' : World) (h1 : w'.cell? ⟨ab, 1, none⟩ = some (.slice (some ⟨g, 0, none⟩) (Arn.size M) c)) (h2 : w'.cell? ⟨g, Arn.size (A ++ D), none⟩ = some (.int .u32 x.head)) => clause44w ab g (Arn.size M) c (Arn.size (A ++ D)) x.lits.length x.head w' h1 h2 hhd hhd2 hq (by omega) hN hcap)
      have hAo : Arn.Oks A := fun y hy => HC.out.ok y (by rw [HC.out.mid.1]; simp [hy])
      have hcA := Arn.collect_size hAo
      have hAD : Arn.size A ≤ Arn.size (A ++ D) := by rw [Arn.size_append]; omega
      have HC' := hid hC'
      have HI' := hid (show (Arn.refs (A ++ D ++ [x]) 0).length = i + 1 by rw [(refs_step (A := A) hD hx).1, List.length_append, HI.out]; rfl)
      have HE' := hid (show Arn.size (Arn.collect (A ++ D ++ [x])) = e + (4 + x.lits.length) by rw [Arn.collect_append, Arn.collect_append, Arn.collect_dead hD, Arn.collect_live x hx, List.append_nil, Arn.size_append, HE.out]; simp [Arn.size, Arn.It.tight])
      have HV' := hid (show W3.ownsRow W.heap.size 36 1 (.slice (some ⟨rg, 0, none⟩) R rc) R ((Arn.refs M 0).map (Value.int .i64)) from ⟨HV.out.1, HV.out.2.imp id (by
        rintro ⟨g9, c9, cur9, e9, q1, q2, q3⟩
        exact ⟨g9, c9, cur9, e9, q1, hkeep _ _ _ q2, q3⟩)⟩)
      have heq := HE.out
      rw [heq] at hr2 hr3 hcA
      obtain ⟨hc0d, hc1d⟩ := And.intro hc0 hc1
      have HR3 := hid hr3
      generalize Arn.size (A ++ D) = k at *
      generalize Arn.size M = N at *
      generalize x.lits.length = L at *
      generalize x.head = hv at *
      have heN : (e : Int) ≤ N := by omega
      have heN' : e < c := by omega
      have hcc : c ≤ 9223372036854775807 := by have := HC.out.capm; unfold maxLen at this; omega
      clear hr3 hC' hkeep HC HV HI HE heq hrefs hpos hri hD hx hml hAo hxo hsM
      have hce : ¬ c = e := by omega
      have hce2 : ¬ c - e = 0 := by omega
      have hb2 : e + (4 + L) ≤ 268435456 := by omega
      rw [show goInt (4 + L) = .int .i64 (4 + (L : Int)) by simp [goInt]] at HR3
      go_wp2_with (fail)
      go_region_law (first
        | (refine step_copy_run rfl (.tmp 41) (.tmp 44) 67 67 (by rfl) (by rfl) (by rfl) HR3.out ?_)
        | (go_simp; go_at_call 44; refine (C44.out W2.drew hc1d hc0d).mono ?_; rintro e W7 ⟨rfl, hW7⟩; rw [hW7]; clear hW7))
      all_goals
        go_wp2
        go_roundw
        case rel => exact ⟨i + 1, e + (4 + L), A ++ D ++ [x], C, ws', by omega, hb2, by go_num, by go_num, HI', HE', HC', HV'⟩
        case measure => simp [intOf]; omega
    · have hge : ¬ (i : Int) < R := by omega
      obtain rfl : i = R := by omega
      have hblk := HC.out.blk
      have c1 := row_cell hblk 1
      have f1 := row_frozen hblk 1
      have f2 := row_frozen hblk 2
      have f3 := row_frozen hblk 3
      have c2 := row_cell hblk 2
      have c3 := row_cell hblk 3
      have hcap := HC.out.cap
      have hfit := HC.out.fit
      have heM : e ≤ Arn.size M := by
        have hAo : Arn.Oks A := fun y hy => HC.out.ok y (by rw [HC.out.mid.1]; simp [hy])
        have := Arn.collect_size hAo
        have := HC.out.mid.1
        have h5 : Arn.size M = Arn.size A + Arn.size B := by rw [this, Arn.size_append]
        have := HE.out
        omega
      have HD := hid (fun W' hW' => HC.out.done HI.out HLM.out HFT.out e HE.out W' hW')
      have hcc : c ≤ 9223372036854775807 := by have := HC.out.capm; unfold maxLen at this; omega
      generalize Arn.size M = N at *
      clear HC HV HI HE hblk HCM HVR
      go_wp2
      go_ret
      exact ⟨(HD.out _ rfl).2, (HD.out _ rfl).1⟩
end Go.Proofs.Ytblogmelmpkfhaa
