/- For every formula and proof the law CheckRuns returns true, and the arguments stay as they were. No condition. -/
import Derived.Test.YtjjanmgeogjngaaGj
import Derived.Test.YtjjanmgeogjngaaGg
import Derived.Test.YtjjanmgeogjngaaGh
import Derived.Test.YtjjanmgeogjngaaRows
import Derived.ShutString
import Derived.ChangeMaps5
import Derived.Below
/- A step, by the document: the call. -/
namespace Ckr
theorem len_le {C : List (Int × List Int)} {m : Nat} (h : (all C).length ≤ m) : ∀ c ∈ C, c.2.length ≤ m := fun _ hc => Nat.le_trans (len_all hc) h
theorem stepP_no {S : St} {s : Lra.Stp} (h : Lra.may s = false) : stepP S s = (40, S) := by unfold stepP; rw [h]; rfl
theorem stepP_rem {S : St} {s : Lra.Stp} (h : Lra.may s = true) (hk : s.kind = 2) : stepP S s = if remOK S.C s.hints then (0, ⟨dropL S.C s.hints, S.last, S.dn⟩) else (5, S) := by unfold stepP; rw [if_pos h, if_pos hk]; rfl
theorem stepP_id {S : St} {s : Lra.Stp} (h : Lra.may s = true) (hk : s.kind = 1) (hi : s.id ≤ S.last) : stepP S s = (62, S) := by
  unfold stepP; rw [if_pos h, if_neg (by omega)]; simp [addS, addE, hi]
theorem stepP_fol {S : St} {s : Lra.Stp} (h : Lra.may s = true) (hk : s.kind = 1) (hi : ¬ s.id ≤ S.last) (hf : ¬ followsF (look S.C) (all S.C) s.lits s.hints = 0) : stepP S s = (followsF (look S.C) (all S.C) s.lits s.hints, S) := by
  unfold stepP; rw [if_pos h, if_neg (by omega)]; simp [addS, addE, hi, hf]
theorem stepP_add {S : St} {s : Lra.Stp} (h : Lra.may s = true) (hk : s.kind = 1) (hi : ¬ s.id ≤ S.last) (hf : followsF (look S.C) (all S.C) s.lits s.hints = 0) (hl : ¬ (16777216 : Int) - (all S.C).length < s.lits.length) : stepP S s = (0, ⟨S.C ++ [(s.id, s.lits)], s.id, S.dn || s.lits.isEmpty⟩) := by
  unfold stepP; rw [if_pos h, if_neg (by omega)]; simp [addS, addE, hi, hf, hl]
end Ckr
namespace Go.Proofs.Ytjjanmgeogjngaa
open Go.RowKit Go.Maps
set_option linter.unusedVariables false
set_option linter.unusedSimpArgs false

theorem may_add {s : Lra.Stp} (h : Lra.may s = true) (hk : s.kind = 1) : (∀ x ∈ s.lits, x ≠ 0 ∧ -1048576 ≤ x ∧ x ≤ 1048576) ∧ (∀ x ∈ s.hints, x ≠ 0 ∧ -4611686018427387903 ≤ x ∧ x ≤ 4611686018427387903) := by
  unfold Lra.may at h
  rw [if_pos hk] at h
  simp only [Bool.and_eq_true] at h
  refine ⟨fun x hx => ?_, fun x hx => ?_⟩
  · have := List.all_eq_true.1 h.2.1 x hx
    simpa [Lra.literal] using this
  · have := List.all_eq_true.1 h.2.2 x hx
    simpa [Lra.hint] using this
theorem DkOut.on {n mb : Nat} {W W2 W' : World} {r : Int} {S : Ckr.St} {e : Ending} (h : DkOut n mb W2 r S e W') (hb : Below n W W2) : DkOut n mb W r S e W' := ⟨h.1, h.2.1, hb.trans h.2.2⟩

set_option maxRecDepth 100000 in
set_option maxHeartbeats 8000000 in
theorem step17 {n mb : Nat} {W0 W : World} {S : Ckr.St} {hs : List Hd} {v : Value} (hD : Dk n mb W S hs v) (hG : Ckr.Good S.C S.last) (hcl : S.C.length ≤ 4194304) (hal : (Ckr.all S.C).length ≤ 8388608) (hW : Below W0.heap.size W0 W) (hnn : W0.heap.size ≤ n) (s : Lra.Stp) (a1 : Option Addr) (c1 : Nat) (a2 : Option Addr) (c2 : Nat) (hst : StpV W0 a1 a2 s) (hc2 : s.hints.length ≤ c2) (hc2m : c2 ≤ maxLen) (hl1 : s.lits.length ≤ 1048576) (hl2 : s.hints.length ≤ 1048576) :
    Calls Try.prog 17 #[.pointer (some ⟨mb, 0, none⟩), sval s a1 c1 a2 c2] W fun e W' => DkOut n mb W (Ckr.stepP S s).1 (Ckr.stepP S s).2 e W' := by
  have hB := below_box W (.cells #[.int .u8 s.kind, .int .i64 s.id, .slice a1 s.lits.length c1, .slice a2 s.hints.length c2] 44)
  have hx := heap_alloc_new W (.cells #[.int .u8 s.kind, .int .i64 s.id, .slice a1 s.lits.length c1, .slice a2 s.hints.length c2] 44)
  have hnW : n ≤ W.heap.size := by have := hD.base; have := (Array.getElem?_eq_some_iff.1 hD.blk).1; omega
  unfold sval
  generalize hW1 : W.alloc (.cells #[.int .u8 s.kind, .int .i64 s.id, .slice a1 s.lits.length c1, .slice a2 s.hints.length c2] 44) = W1 at hB hx
  have hxl := (Array.getElem?_eq_some_iff.1 hx).1
  have HX := hid (fun X (hX : Below W1.heap.size W1 X) => show X.cell? ⟨W.heap.size, 0, none⟩ = some (.int .u8 s.kind) ∧ X.cell? ⟨W.heap.size, 1, none⟩ = some (.int .i64 s.id) ∧ X.cell? ⟨W.heap.size, 2, none⟩ = some (.slice a1 s.lits.length c1) ∧ X.cell? ⟨W.heap.size, 3, none⟩ = some (.slice a2 s.hints.length c2) ∧ X.cell? ⟨mb, 1, none⟩ = some (.int .i64 S.last) ∧ X.cell? ⟨mb, 3, none⟩ = some (.int .i64 (Ckr.all S.C).length) ∧ Dk n mb X S hs v ∧ Below W.heap.size W X from by
    have hX2 : Below W.heap.size W X := hB.trans (hX.mono (by omega))
    have hxx := (hX.block W.heap.size hxl).trans hx
    have hdd := hD.below hX2
    exact ⟨row_cell hxx 0, row_cell hxx 1, row_cell hxx 2, row_cell hxx 3, row_cell hdd.blk 1, row_cell hdd.blk 3, hdd, hX2⟩)
  have C46 := hid (may21 s a1 c1 a2 c2 W1 (hst.below (hW.trans (hB.mono hW.size))))
  unfold sval at C46
  have HG := hid hG
  have HW := hid hW
  have HST := hid hst
  have HC2 := hid (And.intro hc2 hc2m)
  have HKd := hid (fun h => may_kind (s := s) h)
  obtain ⟨d, hd⟩ : ∃ d, Ckr.stepP S s = d := ⟨_, rfl⟩
  have HDD := hid hd
  rw [hd]
  obtain ⟨z0, z1, z2, z3, _, _, _, _⟩ := HX.out W1 (Below.refl _ _)
  clear hB hx hD hG hW hst hc2 hc2m hd
  obtain ⟨bm, hbm⟩ : ∃ bm, Lra.may s = bm := ⟨_, rfl⟩
  rw [hbm] at C46
  have HBM := hid hbm
  clear hbm
  go_enter Try.func17, Try.ntmps17
  go_wp2_with fail
  go_at_call 46
  refine C46.out.mono ?_
  clear C46 z0 z1 z2 z3 hW1
  rintro e W2 ⟨rfl, hb2⟩
  obtain ⟨z0, z1, z2, z3, m1, m3, hdk, hB2⟩ := HX.out W2 hb2
  have HDK := hid hdk
  have HB2 := hid hB2
  have HB12 := hid hb2
  clear hdk hB2 hb2
  cases bm
  · have HZ : Hid (DkOut n mb W d.1 d.2 (.returned (.int .i64 40)) W2) := by
      rw [← HDD.out, Ckr.stepP_no HBM.out]
      exact ⟨rfl, ⟨hs, v, HDK.out⟩, HB2.out.mono hnW⟩
    go_wp2
    go_ret
    exact HZ.out
  · by_cases hk2 : s.kind = 2
    · have C47 := hid (drop47 HDK.out HG.out hcl (HW.out.trans (HB2.out.mono HW.out.size)) hnn a2 s.hints.length c2 s.hints HST.out.h rfl hl2 d (by rw [← HDD.out, Ckr.stepP_rem HBM.out hk2]))
      have hkb : (s.kind == 2) = true := by simpa using hk2
      generalize s.kind = kd at z0 hkb
      clear hk2
      go_wp2_with (go_at_call 47; refine C47.out.mono ?_; clear C47; rintro e W3 hR; have OUT := hid (hR.on (HB2.out.mono hnW)); obtain ⟨rfl, _⟩ := hR)
      go_ret
      exact OUT.out
    · have hk1 : s.kind = 1 := by rcases HKd.out HBM.out with h | h; exact h; exact absurd h hk2
      have hkb : (s.kind == 2) = false := by simpa using hk2
      obtain ⟨hla, hha⟩ := may_add HBM.out hk1
      have HLA := hid hla
      have HHA := hid hha
      have HId := hid (Ckr.stepP_id (S := S) HBM.out hk1)
      have HFo := hid (Ckr.stepP_fol (S := S) HBM.out hk1)
      have HAd := hid (Ckr.stepP_add (S := S) HBM.out hk1)
      have HL1 := hid hl1
      clear hla hha
      by_cases hid1 : s.id ≤ S.last
      · have HZ : Hid (∀ q, DkOut n mb W d.1 d.2 (.returned (.int .i64 62)) (W2.drewN q)) := fun q => by
          rw [← HDD.out, HId.out hid1]
          have hdr : Drawn W2 (W2.drewN q) := ⟨q, rfl⟩
          exact ⟨rfl, ⟨hs, v, HDK.out.below hdr.below'⟩, (HB2.out.mono hnW).trans (hdr.below'.mono (by have := HB2.out.size; omega))⟩
        generalize s.kind = kd at z0 hkb
        generalize s.id = sid at z1 hid1
        clear hk2 hk1
        go_wp2
        go_quiet (fail)
        go_wp2
        go_ret
        exact HZ.out _
      · have hL : Lit1 s.lits := fun x hx => (HLA.out x hx).2
        have C48 := hid (fun X (hX : Below W2.heap.size W2 X) => follows48 (HDK.out.below hX) HG.out hcl (Ckr.len_le hal) a1 s.lits.length c1 s.lits (HST.out.l.below (HW.out.trans ((HB2.out.trans (hX.mono HB2.out.size)).mono HW.out.size))) rfl hL hl1 a2 s.hints.length c2 s.hints (HST.out.h.below (HW.out.trans ((HB2.out.trans (hX.mono HB2.out.size)).mono HW.out.size))) rfl hl2 HC2.out.1 HC2.out.2 HHA.out)
        rw [Ckr.followsD_eq HG.out (fun x hx => (HLA.out x hx).1)] at C48
        obtain ⟨R, hR⟩ : ∃ R, Ckr.followsF (Ckr.look S.C) (Ckr.all S.C) s.lits s.hints = R := ⟨_, rfl⟩
        have HFo2 := hid (HFo.out hid1)
        have HAd2 := hid (HAd.out hid1)
        rw [hR] at C48 HFo2 HAd2
        have C42 := hid (fun X (hX : Below W2.heap.size W2 X) => put42 (HDK.out.below hX) s.id a1 s.lits.length c1 s.lits (HST.out.l.below (HW.out.trans ((HB2.out.trans (hX.mono HB2.out.size)).mono HW.out.size))) rfl (by omega) hcl (by omega))
        have HCells := hid (fun X (hX : Below W2.heap.size W2 X) => HX.out X (HB12.out.trans (hX.mono HB12.out.size)))
        have hsum : ¬ (16777216 : Int) < ((Ckr.all S.C).length : Int) + (s.lits.length : Int) := by omega
        have hlim : ¬ (16777216 : Int) - ((Ckr.all S.C).length : Int) < (s.lits.length : Int) := by omega
        have HLim := hid hlim
        have hAA : (0 : Int) ≤ ((Ckr.all S.C).length : Int) ∧ ((Ckr.all S.C).length : Int) ≤ 8388608 := by omega
        have hNN : (s.lits.length : Int) ≤ 1048576 := by omega
        obtain ⟨NL, hNL⟩ : ∃ NL, s.lits.length = NL := ⟨_, rfl⟩
        obtain ⟨NH, hNH⟩ : ∃ NH, s.hints.length = NH := ⟨_, rfl⟩
        rw [hNL] at z2 C48 C42 hsum hNN HCells
        rw [hNH] at z3 C48 HCells
        obtain ⟨AA, hAAe⟩ : ∃ AA, ((Ckr.all S.C).length : Int) = AA := ⟨_, rfl⟩
        rw [hAAe] at m3 hsum hAA HCells
        generalize s.kind = kd at z0 hkb HCells
        generalize hsid : s.id = sid at z1 hid1 C42 HCells HAd2
        clear hk2 hk1 hR hNL hNH hAAe HX hlim HFo HAd HId hL
        go_wp2
        go_quiet (fail)
        go_wp2_with fail
        go_at_call 48
        refine (C48.out _ (below_drewN _ _ _)).mono ?_
        clear C48
        rintro e W3 ⟨rfl, hb3⟩
        have hb23 : Below W2.heap.size W2 W3 := (below_drewN _ _ _).trans (hb3.mono (Nat.le_refl _))
        have HB3 := hid (HB2.out.trans (hb23.mono HB2.out.size))
        obtain ⟨_, t1, t2, _, _, t6, hdk3, _⟩ := HCells.out W3 hb23
        have HDK3 := hid hdk3
        have C42' := hid (fun X (hX : Below W3.heap.size W3 X) => C42.out X (hb23.trans (hX.mono hb23.size)))
        clear hb3 hb23 hdk3 z0 z1 z2 z3 m1 m3 HCells C42
        by_cases hR0 : R = 0
        · have hR0' : (R != 0) = false := by simpa using hR0
          have HAd3 := hid (HAd2.out hR0 HLim.out)
          clear hR0
          go_wp2
          go_quiet (fail)
          go_wp2_with fail
          go_at_call 42
          refine (C42'.out _ (below_drewN _ _ _)).mono ?_
          clear C42'
          rintro e W4 ⟨rfl, hs', v', hdk4, htw, _⟩
          have HZ : Hid (DkOut n mb W d.1 d.2 (.returned (.int .i64 0)) W4) := by
            rw [← HDD.out, HAd3.out]
            refine ⟨rfl, ⟨hs', v', hdk4⟩, (HB3.out.mono hnW).trans ?_⟩
            have h5 : Below n (W3.drewN _) W4 := (HDK3.out.below (below_drewN _ _ _)).tw htw
            exact (below_drewN n W3 _).trans h5
          clear hdk4 htw
          go_wp2
          go_ret
          exact HZ.out
        · have hR0' : (R != 0) = true := by simpa using hR0
          have HZ : Hid (DkOut n mb W d.1 d.2 (.returned (.int .i64 R)) W3) := by
            rw [← HDD.out, HFo2.out hR0]
            exact ⟨rfl, ⟨hs, v, HDK3.out⟩, HB3.out.mono hnW⟩
          clear hR0 C42'
          go_wp2
          go_ret
          exact HZ.out
end Go.Proofs.Ytjjanmgeogjngaa

/- A proof is gone through, by the document: the call; CheckRuns as a call. -/
namespace Ckr
theorem stepP_good {S : St} {s : Lra.Stp} (hG : Good S.C S.last) (hal : (all S.C).length + s.lits.length ≤ 16777216) : Good (stepP S s).2.C (stepP S s).2.last := by
  cases hm : Lra.may s with
  | false => rw [stepP_no hm]; exact hG
  | true =>
    by_cases hk : s.kind = 2
    · rw [stepP_rem hm hk]
      split
      · exact Good.dropL _ hG
      · exact hG
    · have hk1 : s.kind = 1 := by
        unfold Lra.may at hm
        by_cases h1 : s.kind = 1
        · exact h1
        · rw [if_neg h1, if_neg hk] at hm; cases hm
      have hm' := hm
      unfold Lra.may at hm'
      rw [if_pos hk1] at hm'
      simp only [Bool.and_eq_true] at hm'
      have hi : s.id ≤ 4611686018427387903 := by have := hm'.1; simp [Lra.added] at this; omega
      have hl : ∀ x ∈ s.lits, x ≠ 0 ∧ -1048576 ≤ x ∧ x ≤ 1048576 := fun x hx => by
        have := List.all_eq_true.1 hm'.2.1 x hx
        simpa [Lra.literal] using this
      by_cases hid : s.id ≤ S.last
      · rw [stepP_id hm hk1 hid]; exact hG
      · by_cases hf : followsF (look S.C) (all S.C) s.lits s.hints = 0
        · rw [stepP_add hm hk1 hid hf (by omega)]
          exact hG.snoc s.id s.lits (by omega) hi hl hal
        · rw [stepP_fol hm hk1 hid hf]; exact hG
theorem dropL_all (ids : List Int) : ∀ (C : List (Int × List Int)), (all (dropL C ids)).length ≤ (all C).length := by
  induction ids with
  | nil => intro C; exact Nat.le_refl _
  | cons i ids ih =>
    intro C
    refine Nat.le_trans (ih (drop1 C i)) ?_
    unfold drop1 all
    induction C with
    | nil => simp
    | cons p C ih2 =>
      rw [List.filter_cons]
      split
      · simp only [List.flatMap_cons, List.length_append]; omega
      · simp only [List.flatMap_cons, List.length_append]; omega
theorem stepP_few (S : St) (s : Lra.Stp) : (all (stepP S s).2.C).length ≤ (all S.C).length + s.lits.length ∧ (stepP S s).2.C.length ≤ S.C.length + 1 := by
  unfold stepP
  split
  · split
    · unfold remS
      split
      · exact ⟨by have := dropL_all s.hints S.C; simp only; omega, by have := dropL_len s.hints S.C; simp only; omega⟩
      · exact ⟨by simp only; omega, by simp only; omega⟩
    · unfold addS
      simp only
      split
      · exact ⟨by simp [all], by simp⟩
      · exact ⟨by omega, by omega⟩
  · exact ⟨by simp only; omega, by simp only; omega⟩
theorem runG_dn {i : Nat} {S : St} {ss : List Lra.Stp} (h : S.dn = true) : runG i S ss = (true, (i : Int), 0) := by
  cases ss with
  | nil => rw [runG, h]
  | cons s ss => exact runG_done h
end Ckr
namespace Go.Proofs.Ytjjanmgeogjngaa
open Go.RowKit Go.Maps
set_option linter.unusedVariables false
set_option linter.unusedSimpArgs false

set_option maxRecDepth 100000 in
set_option maxHeartbeats 4000000 in
theorem run22_err (vars : Int) (a : Option Addr) (n cap : Nat) (cs : List (List Int)) (al : Option Addr) (nl cl : Nat) (ss : List Lra.Stp) (w : World) (hn : cs.length = n) (hc : Cls w a cs) (hr : ¬ Cnf.right vars cs = 0) :
    Calls Try.prog 22 #[.agg #[.int .i64 vars, .slice a n cap], .slice al nl cl] w fun e w' => RunOut w (Ckr.runP vars cs ss) e w' := by
  have hB := below_box w (.cells #[.int .i64 vars, .slice a n cap] 24)
  have hx := heap_alloc_new w (.cells #[.int .i64 vars, .slice a n cap] 24)
  generalize hW1 : w.alloc (.cells #[.int .i64 vars, .slice a n cap] 24) = W1 at hB hx
  have C14 := hid (new14_err vars a n cap cs W1 hn (hc.below hB) hr)
  have x0 := row_cell hx 0
  have x1 := row_cell hx 1
  simp only [List.getElem?_toArray, List.getElem?_cons_zero, List.getElem?_cons_succ] at x0 x1
  have HB := hid hB
  have HE := hid (show Ckr.runP vars cs ss = (false, 0, Cnf.right vars cs) by unfold Ckr.runP; rw [if_neg hr])
  generalize Ckr.runP vars cs ss = d at HE ⊢
  generalize Cnf.right vars cs = q at C14 hr HE
  have hq : (q == 0) = false := by simpa using hr
  have hq2 : (q != 0) = true := by simpa using hr
  clear hx hB hc hn hr
  go_enter Try.func22, Try.ntmps22
  go_wp2_with (go_at_call 14; refine C14.out.mono ?_; clear C14; rintro e W2 ⟨rfl, hB2⟩; have HB2 := hid (HB.out.trans (hB2.mono HB.out.size)); clear hB2)
  go_ret3
  rw [HE.out]
  exact ⟨rfl, HB2.out⟩

set_option maxRecDepth 100000 in
set_option maxHeartbeats 8000000 in
theorem run22 (vars : Int) (a : Option Addr) (n cap : Nat) (cs : List (List Int)) (al : Option Addr) (nl cl : Nat) (ss : List Lra.Stp) (w : World) (hn : cs.length = n) (hc : Cls w a cs) (hr : Cnf.right vars cs = 0) (hnl : ss.length = nl) (hs : StepsC w al ss) (hF : Fine cs ss) :
    Calls Try.prog 22 #[.agg #[.int .i64 vars, .slice a n cap], .slice al nl cl] w fun e w' => RunOut w (Ckr.runP vars cs ss) e w' := by
  have hB := below_box w (.cells #[.int .i64 vars, .slice a n cap] 24)
  have hx := heap_alloc_new w (.cells #[.int .i64 vars, .slice a n cap] 24)
  generalize hW1 : w.alloc (.cells #[.int .i64 vars, .slice a n cap] 24) = W1 at hB hx
  have C14 := hid (new14 vars a n cap cs W1 hn (hc.below hB) hr)
  have x0 := row_cell hx 0
  have x1 := row_cell hx 1
  simp only [List.getElem?_toArray, List.getElem?_cons_zero, List.getElem?_cons_succ] at x0 x1
  have HB := hid hB
  have HE := hid (show Ckr.runG 0 (Ckr.new cs) ss = Ckr.runP vars cs ss by unfold Ckr.runP; rw [if_pos hr])
  have HG0 : Hid (Ckr.Good (Ckr.new cs).C (Ckr.new cs).last) := Ckr.new_good hr
  have HS1 := hid (hs.below hB)
  have HN := hid hnl
  have HFi := hid hF
  have hnl2 : nl ≤ 1500 := by have := hF.s; omega
  have HLen := hid (show ∀ j (h : j < ss.length), ss[j].lits.length ≤ 1500 ∧ ss[j].hints.length ≤ 1500 from fun j h => by
    have h1 := Lra.items_take ss j h
    have h2 := Lra.items_le ss (j + 1)
    have := hF.s
    omega)
  have HA0 : Hid ((Ckr.all (Ckr.new cs).C).length ≤ 1500 ∧ (Ckr.new cs).C.length ≤ 200) := by
    show (Ckr.all (Ckr.num 1 cs)).length ≤ 1500 ∧ (Ckr.num 1 cs).length ≤ 200
    rw [Ckr.num_all, Ckr.num_len]
    exact ⟨by have := hF.l; omega, hF.n⟩
  generalize Ckr.runP vars cs ss = d at HE ⊢
  clear hx hB hc hn hr hs hnl hF
  go_enter Try.func22, Try.ntmps22
  go_wp2_with fail
  go_at_call 14
  refine C14.out.mono ?_
  clear C14 x0 x1 hW1
  rintro e W2 ⟨mb, hs0, v0, rfl, hD2, hB2⟩
  have HD2 := hid hD2
  have HB2 := hid hB2
  clear hD2 hB2
  have sh : Hid (nl = 0) ∨ ∃ b off, al = some ⟨b, off, none⟩ := by
    rcases HS1.out with e | ⟨b, off, e, _⟩
    · left; have h := HN.out; rw [e] at h; exact h.symm
    · exact .inr ⟨b, off, e⟩
  rcases sh with Z | ⟨b, off, rfl⟩
  all_goals
    go_wp2
    go_loopw [8, 9] (fun _ iv wr => ∃ (k : Nat) (S : Ckr.St), iv = .int .i64 k ∧ k ≤ nl ∧ Hid (k = 0 ∨ S.dn = false) ∧ Hid (Ckr.runG k S (ss.drop k) = d) ∧ Hid (∃ hs1 v1, Dk W1.heap.size mb wr S hs1 v1) ∧ Hid (Ckr.Good S.C S.last) ∧ Hid ((Ckr.all S.C).length ≤ 1500 + 1500 * k ∧ S.C.length ≤ 200 + k) ∧ Hid (Below W1.heap.size W1 wr)) (fun _ iv _ => nl - (intOf iv).toNat)
    case atStart => exact ⟨0, Ckr.new cs, rfl, Nat.zero_le _, hid (.inl rfl), hid (by rw [List.drop_zero]; exact HE.out), hid ⟨hs0, v0, HD2.out⟩, HG0, hid ⟨by have := HA0.out.1; omega, by have := HA0.out.2; omega⟩, HB2⟩
    case round =>
      clear HD2 HB2 HE HG0 HA0
      obtain ⟨k, S, rfl, hk, HK0, HU, HDk, HG, HA, HBe⟩ := hrel
      obtain ⟨hs1, v1, hDk⟩ := HDk.out
      have m2 := row_cell hDk.blk 2
      simp only [List.getElem?_toArray, List.getElem?_cons_zero, List.getElem?_cons_succ] at m2
      have HDK := hid hDk
      clear HDk hDk
      cases hdn : S.dn with
      | true =>
        have HE := hid (show (true, (0 : Int), (0 : Int)) = d by
          have h := HU.out
          rw [Ckr.runG_dn hdn] at h
          rcases HK0.out with h0 | h0
          · rw [h0] at h; exact h
          · rw [hdn] at h0; cases h0)
        rw [hdn] at m2
        by_cases hlt : (k : Int) < nl
        · go_wp2
          go_ret3
          rw [← HE.out]
          exact ⟨rfl, HB.out.trans (HBe.out.mono HB.out.size)⟩
        · go_wp2
          go_ret3
          rw [← HE.out]
          exact ⟨rfl, HB.out.trans (HBe.out.mono HB.out.size)⟩
      | false =>
        rw [hdn] at m2
        by_cases hlt : k < nl
        · first
          | (exfalso; have := Z.out; omega)
          | (have hlt' : (k : Int) < nl := by omega
             have hkl : k < ss.length := by rw [HN.out]; exact hlt
             obtain ⟨b', off', a1, c1, a2, c2, hab, hst, hca, hcb⟩ := HS1.out.at hkl
             cases hab
             have hst2 := hst.below HBe.out
             have e0 := hst2.k
             have e1 := hst2.i
             have e2 := hst2.l
             have e3 := hst2.h
             have hlen := HLen.out k hkl
             have ha := HA.out
             have HDD := hid (show ss.drop k = ss[k] :: ss.drop (k + 1) from List.drop_eq_getElem_cons hkl)
             have C17 := hid (step17 (W0 := W1) HDK.out HG.out (by omega) (by omega) HBe.out (Nat.le_refl _) ss[k] a1 c1 a2 c2 hst.v hca hcb (by omega) (by omega))
             have HG2 := hid (Ckr.stepP_good (s := ss[k]) HG.out (by omega))
             have HA2 : Hid ((Ckr.all (Ckr.stepP S ss[k]).2.C).length ≤ 1500 + 1500 * (k + 1) ∧ (Ckr.stepP S ss[k]).2.C.length ≤ 200 + (k + 1)) := by
               have h := Ckr.stepP_few S ss[k]
               exact ⟨by omega, by omega⟩
             have HU1 := hid (show Ckr.runG k S (ss[k] :: ss.drop (k + 1)) = d by have := HU.out; rwa [HDD.out] at this)
             have HOn := hid (fun (h : (Ckr.stepP S ss[k]).1 = 0) => show Ckr.runG (k + 1) (Ckr.stepP S ss[k]).2 (ss.drop (k + 1)) = d by rw [← HU1.out, Ckr.runG_on hdn h])
             have HErr := hid (fun (h : ¬ (Ckr.stepP S ss[k]).1 = 0) => show (false, (k : Int), (Ckr.stepP S ss[k]).1) = d by rw [← HU1.out, Ckr.runG_err hdn h])
             unfold sval at C17
             clear hst hst2 hca hcb HDD HU HU1 hlen ha HG HA HDK
             generalize Ckr.stepP S ss[k] = st at C17 HG2 HA2 HOn HErr
             obtain ⟨q, S2⟩ := st
             simp only at HOn HErr HG2 HA2
             unfold DkOut at C17
             simp only at C17
             generalize ss[k].lits.length = n1 at *
             generalize ss[k].hints.length = n2 at *
             generalize ss[k].kind = kd at *
             generalize ss[k].id = ki at *
             by_cases hq : q = 0
             · have HU2 := hid (HOn.out hq)
               have hq' : (q != 0) = false := by simpa using hq
               have hq2 : (q == 0) = true := by simpa using hq
               clear HOn HErr hq
               go_wp2_with fail
               go_at_call 17
               refine C17.out.mono ?_
               clear C17
               rintro e W5 ⟨rfl, ⟨hs5, v5, hD5⟩, hB5⟩
               have m5 := row_cell hD5.blk 2
               simp only [List.getElem?_toArray, List.getElem?_cons_zero, List.getElem?_cons_succ] at m5
               have HD5 := hid (show ∃ hs1 v1, Dk W1.heap.size mb W5 S2 hs1 v1 from ⟨hs5, v5, hD5⟩)
               have HB5 : Hid (Below W1.heap.size W1 W5) := HBe.out.trans hB5
               clear hD5 hB5
               cases hd2 : S2.dn with
               | true =>
                 have HE := hid (show (true, ((k + 1 : Nat) : Int), (0 : Int)) = d by rw [← HU2.out, Ckr.runG_dn hd2])
                 rw [hd2] at m5
                 go_wp2
                 go_ret3
                 rw [← HE.out]
                 exact ⟨by go_num, HB.out.trans (HB5.out.mono HB.out.size)⟩
               | false =>
                 have HK2 := hid (show k + 1 = 0 ∨ S2.dn = false from .inr hd2)
                 rw [hd2] at m5
                 go_wp2
                 go_roundw
                 case rel => exact ⟨k + 1, S2, by go_num, by omega, HK2, HU2, HD5, HG2, HA2, HB5⟩
                 case measure => simp [intOf]; omega
             · have HU2 := hid (HErr.out hq)
               have hq' : (q != 0) = true := by simpa using hq
               have hq2 : (q == 0) = false := by simpa using hq
               clear HOn HErr hq
               go_wp2_with fail
               go_at_call 17
               refine C17.out.mono ?_
               clear C17
               rintro e W5 ⟨rfl, _, hB5⟩
               have HB5 : Hid (Below W1.heap.size W1 W5) := HBe.out.trans hB5
               clear hB5
               go_wp2
               go_ret3
               rw [← HU2.out]
               exact ⟨rfl, HB.out.trans (HB5.out.mono HB.out.size)⟩)
        · have hge : ¬ (k : Int) < nl := by omega
          have HE := hid (show (false, (nl : Int), (0 : Int)) = d by
            obtain rfl : k = nl := by omega
            have h := HU.out
            rw [List.drop_of_length_le (by rw [HN.out]; omega), Ckr.runG, hdn] at h
            exact h)
          go_wp2
          go_ret3
          rw [← HE.out]
          exact ⟨rfl, HB.out.trans (HBe.out.mono HB.out.size)⟩
end Go.Proofs.Ytjjanmgeogjngaa

/- Any proof is gone through as the document says: the call. -/
namespace Go.Proofs.Ytjjanmgeogjngaa
open Go.RowKit
set_option linter.unusedVariables false
set_option linter.unusedSimpArgs false

/-- True was returned, and nothing was turned. -/
def TrueOut4 (w : World) (e : Ending) (w' : World) : Prop := e = .returned (.bool true) ∧ Below w.heap.size w w'
/-- By the program, within what is looked at. -/
theorem run21_fine (vars : Int) (a : Option Addr) (n cap : Nat) (cs : List (List Int)) (al : Option Addr) (nl cl : Nat) (ss : List Lra.Stp) (w : World) (hn : cs.length = n) (hc : Cls w a cs) (hnl : ss.length = nl) (hs : StepsC w al ss) (hF : Fine cs ss) :
    Calls Try.prog 21 #[.agg #[.int .i64 vars, .slice a n cap], .slice al nl cl] w fun e w' => RunOut w (Ckr.runP vars cs ss) e w' := by
  by_cases hr : Cnf.right vars cs = 0
  · refine run21 vars a n cap cs al nl cl ss w hn hc hr hnl (by have := hF.s; omega) hs fun s hsm => ?_
    obtain ⟨j, hj, rfl⟩ := List.getElem_of_mem hsm
    have h1 := Lra.items_take ss j hj
    have h2 := Lra.items_le ss (j + 1)
    have := hF.s
    exact ⟨by omega, by omega⟩
  · exact run21_err vars a n cap cs al nl cl ss w hn hc hr
/-- By the document, within what is looked at. -/
theorem run22_fine (vars : Int) (a : Option Addr) (n cap : Nat) (cs : List (List Int)) (al : Option Addr) (nl cl : Nat) (ss : List Lra.Stp) (w : World) (hn : cs.length = n) (hc : Cls w a cs) (hnl : ss.length = nl) (hs : StepsC w al ss) (hF : Fine cs ss) :
    Calls Try.prog 22 #[.agg #[.int .i64 vars, .slice a n cap], .slice al nl cl] w fun e w' => RunOut w (Ckr.runP vars cs ss) e w' := by
  by_cases hr : Cnf.right vars cs = 0
  · exact run22 vars a n cap cs al nl cl ss w hn hc hr hnl hs hF
  · exact run22_err vars a n cap cs al nl cl ss w hn hc hr

set_option maxRecDepth 100000 in
set_option maxHeartbeats 16000000 in
theorem law4 (vars : Int) (a : Option Addr) (n c : Nat) (cs : List (List Int)) (al : Option Addr) (nl cl : Nat) (ss : List Lra.Stp) (w : World) (hn : cs.length = n) (hb : n ≤ 8796093022208) (hc : Cls w a cs) (hnl : ss.length = nl) (hbl : nl ≤ 2199023255552) (hs : StepsC w al ss) :
    Calls Try.prog 4 #[.agg #[.int .i64 vars, .slice a n c], .slice al nl cl] w fun e w' => TrueOut4 w e w' := by
  have hB := below_box w (.cells #[.int .i64 vars, .slice a n c] 24)
  have hx := heap_alloc_new w (.cells #[.int .i64 vars, .slice a n c] 24)
  generalize hW1 : w.alloc (.cells #[.int .i64 vars, .slice a n c] 24) = W1 at hB hx
  have x0 : W1.cell? ⟨w.heap.size, 0, none⟩ = some (.int .i64 vars) := row_cell hx 0
  have x1 : W1.cell? ⟨w.heap.size, 1, none⟩ = some (.slice a n c) := row_cell hx 1
  have HX := hid (Array.getElem?_eq_some_iff.1 hx).1
  have HC := hid (hc.below hB)
  have HS := hid (hs.below hB)
  have HN := hid hn
  have HB := hid hB
  have HNL := hid hnl
  have C10 := hid works10
  have C9 := hid (large9 vars a n c cs al nl cl ss W1 hn (by omega) (hc.below hB) hnl (by omega) (hs.below hB).steps)
  have HDone := hid (fun W5 (h : Below W1.heap.size W1 W5) W6 (h6 : Below W5.heap.size W5 W6) => show TrueOut4 w (.returned (.bool true)) W6 from ⟨rfl, (HB.out.trans (h.mono HB.out.size)).trans (h6.mono (Nat.le_trans HB.out.size h.size))⟩)
  clear hc hs hn hB hx hnl
  go_enter Try.func4, Try.ntmps4
  go_wp2_with fail
  go_at_call 9
  refine C9.out.mono ?_
  clear C9
  rintro e W4 ⟨⟨b, rfl, hfine⟩, hB4⟩
  have HB4 := hid hB4
  have z0 := (hB4.cell (p := ⟨w.heap.size, 0, none⟩) HX.out).trans x0
  have z1 := (hB4.cell (p := ⟨w.heap.size, 1, none⟩) HX.out).trans x1
  have HFine := hid hfine
  clear hfine hB4
  cases b with
  | true =>
    go_wp2_with (go_at_call 10; refine (C10.out _).mono ?_; rintro e W6 ⟨rfl, h6⟩; have OUT := hid (HDone.out W4 HB4.out W6 h6); clear h6)
    go_ret
    exact OUT.out
  | false =>
    have HF := hid (HFine.out rfl)
    have C21 := hid (run21_fine vars a n c cs al nl cl ss W4 HN.out (HC.out.below HB4.out) HNL.out (HS.out.below HB4.out) HF.out)
    have C22 := hid (fun W5 (h : Below W1.heap.size W1 W5) => run22_fine vars a n c cs al nl cl ss W5 HN.out (HC.out.below h) HNL.out (HS.out.below h) HF.out)
    generalize Ckr.runP vars cs ss = d at C21 C22
    obtain ⟨d1, d2, d3⟩ := d
    unfold RunOut at C21 C22
    simp only at C21 C22
    clear HFine HF
    go_wp2_with fail
    go_at_call 21
    refine C21.out.mono ?_
    clear C21
    rintro e W5 ⟨rfl, hB5⟩
    have HB5 := hid (HB4.out.trans (hB5.mono HB4.out.size))
    have u0 := (HB5.out.cell (p := ⟨w.heap.size, 0, none⟩) HX.out).trans x0
    have u1 := (HB5.out.cell (p := ⟨w.heap.size, 1, none⟩) HX.out).trans x1
    clear hB5 z0 z1
    go_wp2_with fail
    go_at_call 22
    refine (C22.out W5 HB5.out).mono ?_
    clear C22
    rintro e W6 ⟨rfl, hB6⟩
    have HB6 := hid (HB5.out.trans (hB6.mono HB5.out.size))
    clear hB6
    go_wp2_with (go_at_call 10; refine (C10.out _).mono ?_; rintro e W7 ⟨rfl, h7⟩; have OUT := hid (HDone.out W6 HB6.out W7 h7); clear h7)
    go_ret
    exact OUT.out
end Go.Proofs.Ytjjanmgeogjngaa

/- For every formula and proof the law CheckRuns returns true, and the arguments stay as they were. No condition. -/
namespace Go.Proofs.Ytjjanmgeogjngaa.checkRuns
open Go.ChangeShapes Go.WideShapes Go.ChangeAt Go.ChangeMaps Go.RowKit Go.Joins
set_option linter.unusedVariables false

set_option maxRecDepth 100000 in
theorem lifted (os : Os) (started : os.Started) (H : Type) (enc : TypeId × Value → H) :
    ReturnsInHanded {} Try.checked os 4 .any (Rows.checkRunsSpec.pre6 enc Try.prog Try.f4 Rows.checkRunsRow.domain false) (Rows.checkRunsSpec.post enc Try.prog Try.f4 false true false false) := by
  refine returnsInHanded_of_change_sized (C := Try.checked) own started (by kernel_rfl) Try.func4
    (ChangeSpec.witness6 (enc := enc) (C := Try.checked) false ⟨#[], #[.agg #[.int .i64 0, .slice none 0 0], .slice none 0 0], []⟩ 8 (by kernel_rfl) (by kernel_rfl) (by kernel_rfl) (by kernel_rfl)) ?_
  intro W base args ds gs before hval0 hW hcnd0 hsz0 hholds
  have hval : ∀ (j : Nat) t v, Try.f4.params[j]? = some t → args[j]? = some v → Value.okWide Try.prog W .any base t v := hval0
  have hsz : (DataW.weightsEach Try.prog (Try.f4.params.toList ++ Rows.checkRunsSpec.plain.varTypes Try.prog) (ds ++ gs)).all (· ≤ reachBytes) = true := hsz0
  have hW' := hW
  obtain ⟨p, q, hA0, hV, rfl, hfz, hnd⟩ := hW
  have hA : DataW.TrodAll enc Try.prog W 0 (fun _ => true) true Try.f4.params.toList args.toList ds p := hA0
  rw [Try.params4] at hA hval hsz
  obtain ⟨v0, vs0, d0, ds0, p0, q0, hargs, rfl, rfl, h0, r0⟩ := trodAll_cons hA
  obtain ⟨v1, vs1, d1, ds1, p1, q1, rfl, rfl, rfl, h1, r1⟩ := trodAll_cons r0
  obtain ⟨rfl, rfl, rfl⟩ := trodAll_nil r1
  obtain rfl : args = #[v0, v1] := by cases args; simp_all
  obtain ⟨rfl, rfl⟩ := trodVars_none hV
  have k0 := h0
  have lt0 : ∀ x ∈ p0, x.block < W.heap.size := by obtain ⟨m, hm⟩ := k0; exact DataW.trod_lt m _ _ _ hm
  obtain ⟨c00, c01, y00, y01, m0, rfl, rfl, rfl, hy00, hy01⟩ := open_agg2 Try.underlying24 (by kernel_rfl) cellsF (hval 0 24 v0 rfl rfl) h0
  obtain ⟨vars0, e00, e01, wv0⟩ := DataW.trod_int Try.underlying3 hy00
  simp only [List.cons.injEq, and_true] at e00
  subst e00
  have hws0 : ∀ x ∈ y01.1.weights Try.prog 22, x ≤ reachBytes := by
    intro x hx
    have hm2 : x ∈ (DataW.agg [y00.1, y01.1] : DataW H).weights Try.prog 24 := by
      simp only [DataW.weights, Try.underlying24]
      exact DataW.weights_mem_each (j := 1) rfl rfl x hx
    have := List.all_eq_true.1 hsz _ (DataW.weights_mem_each (j := 0) (t := 24) (d := .agg [y00.1, y01.1]) rfl rfl x hm2)
    simpa using this
  obtain ⟨a0, len0, cap0, z0, rfl, hl0, w0, hn0⟩ := cls_open hy01 hws0
  have k1 := h1
  have lt1 : ∀ x ∈ p1, x.block < W.heap.size := by obtain ⟨m, hm⟩ := k1; exact DataW.trod_lt m _ _ _ hm
  obtain ⟨a1, len1, cap1, rfl⟩ := okWide_slice Try.underlying25 (hval 1 25 v1 rfl rfl)
  obtain ⟨fu1, hf1⟩ := h1
  have hws1 : ∀ x ∈ d1.weights Try.prog 25, x ≤ reachBytes := by
    intro x hx
    have := List.all_eq_true.1 hsz _ (DataW.weights_mem_each (j := 1) (t := 25) (d := d1) rfl rfl x hx)
    simpa using this
  obtain ⟨_, _, _, z1, e1, hl1, w1, hn1⟩ := steps_open (y := (d1, p1)) hf1 hws1
  injection e1 with e1a e1b e1c
  subst e1a e1b e1c
  clear hA0 hval0
  refine (law4 vars0 a0 len0 cap0 z0 a1 len1 cap1 z1 W hl0 hn0 w0 hl1 hn1 w1).mono fun e W' ⟨he, bel⟩ => ?_
  subst he
  exact ⟨_, rfl, _, _, _, [], _, [], hW', trodAll_mk1 (shut_bool Try.underlying4 _), (trodAll_cons_mk (Below.trod laidOut (by kernel_rfl) (of_decide_eq_true (by kernel_rfl)) k0 bel lt0) (trodAll_cons_mk (Below.trod laidOut (by kernel_rfl) (of_decide_eq_true (by kernel_rfl)) k1 bel lt1) trodAll_mk0)), rfl, bel.frame _, fun h => by cases h⟩

theorem over : Rows.checkRunsRow.holds Try.pinned (OpenSpec.ofChange Rows.checkRunsSpec) :=
  OpenClaim.holds_of_wide 4 Try.f4 rfl rfl rfl rfl rfl rfl rfl ⟨rfl, rfl, rfl, rfl, rfl⟩ rfl rfl rfl rfl rfl (by kernel_rfl) Try.func4 (by kernel_rfl)
    (of_decide_eq_true (by kernel_rfl)) (by unfold Func.isWrapper; first | (rw [if_pos (by decide +kernel)]; kernel_rfl) | (rw [if_neg (by decide +kernel)]; exact ⟨rfl, rfl⟩))
    (fun os started H enc _ => lifted os started H enc)

end Go.Proofs.Ytjjanmgeogjngaa.checkRuns
namespace Go.Proofs.Ytjjanmgeogjngaa
open Go

/-- The given statement. -/
theorem checkRuns_holds : Rows.CheckRunsSaid := checkRuns.over
end Go.Proofs.Ytjjanmgeogjngaa

