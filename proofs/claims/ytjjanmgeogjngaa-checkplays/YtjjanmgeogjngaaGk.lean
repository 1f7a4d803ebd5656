/- A step, by the document: the call. -/
import Derived.Test.YtjjanmgeogjngaaGj
import Derived.Test.YtjjanmgeogjngaaGg
import Derived.Test.YtjjanmgeogjngaaGh
import Derived.Test.YtjjanmgeogjngaaGa
import Derived.Test.YtjjanmgeogjngaaGc
import Derived.Test.YtjjanmgeogjngaaGd
import Derived.Test.YtjjanmgeogjngaaGb
import Derived.Deep.AppendLies
import Derived.Laws.Rows
import Derived.Test.YtjjanmgeogjngaaGi
/- A step, by the document: the call. -/
namespace Ckr
theorem len_le {C : List (Int × List Int)} {m : Nat} (h : (all C).length ≤ m) : ∀ c ∈ C, c.2.length ≤ m := fun _ hc => Nat.le_trans (len_all hc) h
theorem stepP_no {S : St} {s : Lra.Stp} (h : Lra.may s = false) : stepP S s = (40, S) := by unfold stepP; rw [h]; rfl
theorem stepP_rem {S : St} {s : Lra.Stp} (h : Lra.may s = true) (hk : s.kind = 2) : stepP S s = if remOK S.C s.hints then (0, ⟨dropL S.C s.hints, S.last, S.dn⟩) else (5, S) := by unfold stepP; rw [if_pos h, if_pos hk]; rfl
theorem stepP_id {S : St} {s : Lra.Stp} (h : Lra.may s = true) (hk : s.kind = 1) (hi : s.id ≤ S.last) : stepP S s = (62, S) := by
  unfold stepP; rw [if_pos h, if_neg (by omega)]; simp [addS, addE, hi]
theorem stepP_fol {S : St} {s : Lra.Stp} (h : Lra.may s = true) (hk : s.kind = 1) (hi : ¬ s.id ≤ S.last) (hf : ¬ followsF (look S.C) (all S.C) s.lits s.hints = 0) : stepP S s = (followsF (look S.C) (all S.C) s.lits s.hints, S) := by
  unfold stepP; rw [if_pos h, if_neg (by omega)]; simp [addS, addE, hi, hf]
theorem stepP_add {S : St} {s : Lra.Stp} (h : Lra.may s = true) (hk : s.kind = 1) (hi : ¬ s.id ≤ S.last) (hf : followsF (look S.C) (all S.C) s.lits s.hints = 0) (hl : ¬ (16777216 : Int) - (all S.C).length < s.lits.length) : stepP S s = (0, ⟨S.C ++ [(s.id, s.lits)], s.id, S.dn || s.lits.isEmpty⟩) := by
  unfold stepP; rw [if_pos h, if_neg (by omega)]; simp [addS, addE, hi, hf, hl]
end Ckr
namespace Go.Proofs.Ytjjanmgeogjngaa
open Go.RowKit Go.Maps
set_option linter.unusedVariables false
set_option linter.unusedSimpArgs false

theorem may_add {s : Lra.Stp} (h : Lra.may s = true) (hk : s.kind = 1) : (∀ x ∈ s.lits, x ≠ 0 ∧ -1048576 ≤ x ∧ x ≤ 1048576) ∧ (∀ x ∈ s.hints, x ≠ 0 ∧ -4611686018427387903 ≤ x ∧ x ≤ 4611686018427387903) := by
  unfold Lra.may at h
  rw [if_pos hk] at h
  simp only [Bool.and_eq_true] at h
  refine ⟨fun x hx => ?_, fun x hx => ?_⟩
  · have := List.all_eq_true.1 h.2.1 x hx
    simpa [Lra.literal] using this
  · have := List.all_eq_true.1 h.2.2 x hx
    simpa [Lra.hint] using this
theorem DkOut.on {n mb : Nat} {W W2 W' : World} {r : Int} {S : Ckr.St} {e : Ending} (h : DkOut n mb W2 r S e W') (hb : Below n W W2) : DkOut n mb W r S e W' := ⟨h.1, h.2.1, hb.trans h.2.2⟩

set_option maxRecDepth 100000 in
set_option maxHeartbeats 8000000 in
theorem step17 {n mb : Nat} {W0 W : World} {S : Ckr.St} {hs : List Hd} {v : Value} (hD : Dk n mb W S hs v) (hG : Ckr.Good S.C S.last) (hcl : S.C.length ≤ 4194304) (hal : (Ckr.all S.C).length ≤ 8388608) (hW : Below W0.heap.size W0 W) (hnn : W0.heap.size ≤ n) (s : Lra.Stp) (a1 : Option Addr) (c1 : Nat) (a2 : Option Addr) (c2 : Nat) (hst : StpV W0 a1 a2 s) (hc2 : s.hints.length ≤ c2) (hc2m : c2 ≤ maxLen) (hl1 : s.lits.length ≤ 1048576) (hl2 : s.hints.length ≤ 1048576) :
    Calls Try.prog 17 #[.pointer (some ⟨mb, 0, none⟩), sval s a1 c1 a2 c2] W fun e W' => DkOut n mb W (Ckr.stepP S s).1 (Ckr.stepP S s).2 e W' := by
  have hB := below_box W (.cells #[.int .u8 s.kind, .int .i64 s.id, .slice a1 s.lits.length c1, .slice a2 s.hints.length c2] 44)
  have hx := heap_alloc_new W (.cells #[.int .u8 s.kind, .int .i64 s.id, .slice a1 s.lits.length c1, .slice a2 s.hints.length c2] 44)
  have hnW : n ≤ W.heap.size := by have := hD.base; have := (Array.getElem?_eq_some_iff.1 hD.blk).1; omega
  unfold sval
  generalize hW1 : W.alloc (.cells #[.int .u8 s.kind, .int .i64 s.id, .slice a1 s.lits.length c1, .slice a2 s.hints.length c2] 44) = W1 at hB hx
  have hxl := (Array.getElem?_eq_some_iff.1 hx).1
  have HX := hid (fun X (hX : Below W1.heap.size W1 X) => show X.cell? ⟨W.heap.size, 0, none⟩ = some (.int .u8 s.kind) ∧ X.cell? ⟨W.heap.size, 1, none⟩ = some (.int .i64 s.id) ∧ X.cell? ⟨W.heap.size, 2, none⟩ = some (.slice a1 s.lits.length c1) ∧ X.cell? ⟨W.heap.size, 3, none⟩ = some (.slice a2 s.hints.length c2) ∧ X.cell? ⟨mb, 1, none⟩ = some (.int .i64 S.last) ∧ X.cell? ⟨mb, 3, none⟩ = some (.int .i64 (Ckr.all S.C).length) ∧ Dk n mb X S hs v ∧ Below W.heap.size W X from by
    have hX2 : Below W.heap.size W X := hB.trans (hX.mono (by omega))
    have hxx := (hX.block W.heap.size hxl).trans hx
    have hdd := hD.below hX2
    exact ⟨row_cell hxx 0, row_cell hxx 1, row_cell hxx 2, row_cell hxx 3, row_cell hdd.blk 1, row_cell hdd.blk 3, hdd, hX2⟩)
  have C46 := hid (may21 s a1 c1 a2 c2 W1 (hst.below (hW.trans (hB.mono hW.size))))
  unfold sval at C46
  have HG := hid hG
  have HW := hid hW
  have HST := hid hst
  have HC2 := hid (And.intro hc2 hc2m)
  have HKd := hid (fun h => may_kind (s := s) h)
  obtain ⟨d, hd⟩ : ∃ d, Ckr.stepP S s = d := ⟨_, rfl⟩
  have HDD := hid hd
  rw [hd]
  obtain ⟨z0, z1, z2, z3, _, _, _, _⟩ := HX.out W1 (Below.refl _ _)
  clear hB hx hD hG hW hst hc2 hc2m hd
  obtain ⟨bm, hbm⟩ : ∃ bm, Lra.may s = bm := ⟨_, rfl⟩
  rw [hbm] at C46
  have HBM := hid hbm
  clear hbm
  go_enter Try.func17, Try.ntmps17
  go_wp2_with fail
  go_at_call 46
  refine C46.out.mono ?_
  clear C46 z0 z1 z2 z3 hW1
  rintro e W2 ⟨rfl, hb2⟩
  obtain ⟨z0, z1, z2, z3, m1, m3, hdk, hB2⟩ := HX.out W2 hb2
  have HDK := hid hdk
  have HB2 := hid hB2
  have HB12 := hid hb2
  clear hdk hB2 hb2
  cases bm
  · have HZ : Hid (DkOut n mb W d.1 d.2 (.returned (.int .i64 40)) W2) := by
      rw [← HDD.out, Ckr.stepP_no HBM.out]
      exact ⟨rfl, ⟨hs, v, HDK.out⟩, HB2.out.mono hnW⟩
    go_wp2
    go_ret
    exact HZ.out
  · by_cases hk2 : s.kind = 2
    · have C47 := hid (drop47 HDK.out HG.out hcl (HW.out.trans (HB2.out.mono HW.out.size)) hnn a2 s.hints.length c2 s.hints HST.out.h rfl hl2 d (by rw [← HDD.out, Ckr.stepP_rem HBM.out hk2]))
      have hkb : (s.kind == 2) = true := by simpa using hk2
      generalize s.kind = kd at z0 hkb
      clear hk2
      go_wp2_with (go_at_call 47; refine C47.out.mono ?_; clear C47; rintro e W3 hR; have OUT := hid (hR.on (HB2.out.mono hnW)); obtain ⟨rfl, _⟩ := hR)
      go_ret
      exact OUT.out
    · have hk1 : s.kind = 1 := by rcases HKd.out HBM.out with h | h; exact h; exact absurd h hk2
      have hkb : (s.kind == 2) = false := by simpa using hk2
      obtain ⟨hla, hha⟩ := may_add HBM.out hk1
      have HLA := hid hla
      have HHA := hid hha
      have HId := hid (Ckr.stepP_id (S := S) HBM.out hk1)
      have HFo := hid (Ckr.stepP_fol (S := S) HBM.out hk1)
      have HAd := hid (Ckr.stepP_add (S := S) HBM.out hk1)
      have HL1 := hid hl1
      clear hla hha
      by_cases hid1 : s.id ≤ S.last
      · have HZ : Hid (∀ q, DkOut n mb W d.1 d.2 (.returned (.int .i64 62)) (W2.drewN q)) := fun q => by
          rw [← HDD.out, HId.out hid1]
          have hdr : Drawn W2 (W2.drewN q) := ⟨q, rfl⟩
          exact ⟨rfl, ⟨hs, v, HDK.out.below hdr.below'⟩, (HB2.out.mono hnW).trans (hdr.below'.mono (by have := HB2.out.size; omega))⟩
        generalize s.kind = kd at z0 hkb
        generalize s.id = sid at z1 hid1
        clear hk2 hk1
        go_wp2
        go_quiet (fail)
        go_wp2
        go_ret
        exact HZ.out _
      · have hL : Lit1 s.lits := fun x hx => (HLA.out x hx).2
        have C48 := hid (fun X (hX : Below W2.heap.size W2 X) => follows48 (HDK.out.below hX) HG.out hcl (Ckr.len_le hal) a1 s.lits.length c1 s.lits (HST.out.l.below (HW.out.trans ((HB2.out.trans (hX.mono HB2.out.size)).mono HW.out.size))) rfl hL hl1 a2 s.hints.length c2 s.hints (HST.out.h.below (HW.out.trans ((HB2.out.trans (hX.mono HB2.out.size)).mono HW.out.size))) rfl hl2 HC2.out.1 HC2.out.2 HHA.out)
        rw [Ckr.followsD_eq HG.out (fun x hx => (HLA.out x hx).1)] at C48
        obtain ⟨R, hR⟩ : ∃ R, Ckr.followsF (Ckr.look S.C) (Ckr.all S.C) s.lits s.hints = R := ⟨_, rfl⟩
        have HFo2 := hid (HFo.out hid1)
        have HAd2 := hid (HAd.out hid1)
        rw [hR] at C48 HFo2 HAd2
        have C42 := hid (fun X (hX : Below W2.heap.size W2 X) => put42 (HDK.out.below hX) s.id a1 s.lits.length c1 s.lits (HST.out.l.below (HW.out.trans ((HB2.out.trans (hX.mono HB2.out.size)).mono HW.out.size))) rfl (by omega) hcl (by omega))
        have HCells := hid (fun X (hX : Below W2.heap.size W2 X) => HX.out X (HB12.out.trans (hX.mono HB12.out.size)))
        have hsum : ¬ (16777216 : Int) < ((Ckr.all S.C).length : Int) + (s.lits.length : Int) := by omega
        have hlim : ¬ (16777216 : Int) - ((Ckr.all S.C).length : Int) < (s.lits.length : Int) := by omega
        have HLim := hid hlim
        have hAA : (0 : Int) ≤ ((Ckr.all S.C).length : Int) ∧ ((Ckr.all S.C).length : Int) ≤ 8388608 := by omega
        have hNN : (s.lits.length : Int) ≤ 1048576 := by omega
        obtain ⟨NL, hNL⟩ : ∃ NL, s.lits.length = NL := ⟨_, rfl⟩
        obtain ⟨NH, hNH⟩ : ∃ NH, s.hints.length = NH := ⟨_, rfl⟩
        rw [hNL] at z2 C48 C42 hsum hNN HCells
        rw [hNH] at z3 C48 HCells
        obtain ⟨AA, hAAe⟩ : ∃ AA, ((Ckr.all S.C).length : Int) = AA := ⟨_, rfl⟩
        rw [hAAe] at m3 hsum hAA HCells
        generalize s.kind = kd at z0 hkb HCells
        generalize hsid : s.id = sid at z1 hid1 C42 HCells HAd2
        clear hk2 hk1 hR hNL hNH hAAe HX hlim HFo HAd HId hL
        go_wp2
        go_quiet (fail)
        go_wp2_with fail
        go_at_call 48
        refine (C48.out _ (below_drewN _ _ _)).mono ?_
        clear C48
        rintro e W3 ⟨rfl, hb3⟩
        have hb23 : Below W2.heap.size W2 W3 := (below_drewN _ _ _).trans (hb3.mono (Nat.le_refl _))
        have HB3 := hid (HB2.out.trans (hb23.mono HB2.out.size))
        obtain ⟨_, t1, t2, _, _, t6, hdk3, _⟩ := HCells.out W3 hb23
        have HDK3 := hid hdk3
        have C42' := hid (fun X (hX : Below W3.heap.size W3 X) => C42.out X (hb23.trans (hX.mono hb23.size)))
        clear hb3 hb23 hdk3 z0 z1 z2 z3 m1 m3 HCells C42
        by_cases hR0 : R = 0
        · have hR0' : (R != 0) = false := by simpa using hR0
          have HAd3 := hid (HAd2.out hR0 HLim.out)
          clear hR0
          go_wp2
          go_quiet (fail)
          go_wp2_with fail
          go_at_call 42
          refine (C42'.out _ (below_drewN _ _ _)).mono ?_
          clear C42'
          rintro e W4 ⟨rfl, hs', v', hdk4, htw, _⟩
          have HZ : Hid (DkOut n mb W d.1 d.2 (.returned (.int .i64 0)) W4) := by
            rw [← HDD.out, HAd3.out]
            refine ⟨rfl, ⟨hs', v', hdk4⟩, (HB3.out.mono hnW).trans ?_⟩
            have h5 : Below n (W3.drewN _) W4 := (HDK3.out.below (below_drewN _ _ _)).tw htw
            exact (below_drewN n W3 _).trans h5
          clear hdk4 htw
          go_wp2
          go_ret
          exact HZ.out
        · have hR0' : (R != 0) = true := by simpa using hR0
          have HZ : Hid (DkOut n mb W d.1 d.2 (.returned (.int .i64 R)) W3) := by
            rw [← HDD.out, HFo2.out hR0]
            exact ⟨rfl, ⟨hs, v, HDK3.out⟩, HB3.out.mono hnW⟩
          clear hR0 C42'
          go_wp2
          go_ret
          exact HZ.out
end Go.Proofs.Ytjjanmgeogjngaa

/- A proof is gone through, by the document: the call; CheckRuns as a call. -/
namespace Ckr
theorem stepP_good {S : St} {s : Lra.Stp} (hG : Good S.C S.last) (hal : (all S.C).length + s.lits.length ≤ 16777216) : Good (stepP S s).2.C (stepP S s).2.last := by
  cases hm : Lra.may s with
  | false => rw [stepP_no hm]; exact hG
  | true =>
    by_cases hk : s.kind = 2
    · rw [stepP_rem hm hk]
      split
      · exact Good.dropL _ hG
      · exact hG
    · have hk1 : s.kind = 1 := by
        unfold Lra.may at hm
        by_cases h1 : s.kind = 1
        · exact h1
        · rw [if_neg h1, if_neg hk] at hm; cases hm
      have hm' := hm
      unfold Lra.may at hm'
      rw [if_pos hk1] at hm'
      simp only [Bool.and_eq_true] at hm'
      have hi : s.id ≤ 4611686018427387903 := by have := hm'.1; simp [Lra.added] at this; omega
      have hl : ∀ x ∈ s.lits, x ≠ 0 ∧ -1048576 ≤ x ∧ x ≤ 1048576 := fun x hx => by
        have := List.all_eq_true.1 hm'.2.1 x hx
        simpa [Lra.literal] using this
      by_cases hid : s.id ≤ S.last
      · rw [stepP_id hm hk1 hid]; exact hG
      · by_cases hf : followsF (look S.C) (all S.C) s.lits s.hints = 0
        · rw [stepP_add hm hk1 hid hf (by omega)]
          exact hG.snoc s.id s.lits (by omega) hi hl hal
        · rw [stepP_fol hm hk1 hid hf]; exact hG
theorem dropL_all (ids : List Int) : ∀ (C : List (Int × List Int)), (all (dropL C ids)).length ≤ (all C).length := by
  induction ids with
  | nil => intro C; exact Nat.le_refl _
  | cons i ids ih =>
    intro C
    refine Nat.le_trans (ih (drop1 C i)) ?_
    unfold drop1 all
    induction C with
    | nil => simp
    | cons p C ih2 =>
      rw [List.filter_cons]
      split
      · simp only [List.flatMap_cons, List.length_append]; omega
      · simp only [List.flatMap_cons, List.length_append]; omega
theorem stepP_few (S : St) (s : Lra.Stp) : (all (stepP S s).2.C).length ≤ (all S.C).length + s.lits.length ∧ (stepP S s).2.C.length ≤ S.C.length + 1 := by
  unfold stepP
  split
  · split
    · unfold remS
      split
      · exact ⟨by have := dropL_all s.hints S.C; simp only; omega, by have := dropL_len s.hints S.C; simp only; omega⟩
      · exact ⟨by simp only; omega, by simp only; omega⟩
    · unfold addS
      simp only
      split
      · exact ⟨by simp [all], by simp⟩
      · exact ⟨by omega, by omega⟩
  · exact ⟨by simp only; omega, by simp only; omega⟩
theorem runG_dn {i : Nat} {S : St} {ss : List Lra.Stp} (h : S.dn = true) : runG i S ss = (true, (i : Int), 0) := by
  cases ss with
  | nil => rw [runG, h]
  | cons s ss => exact runG_done h
end Ckr
namespace Go.Proofs.Ytjjanmgeogjngaa
open Go.RowKit Go.Maps
set_option linter.unusedVariables false
set_option linter.unusedSimpArgs false

set_option maxRecDepth 100000 in
set_option maxHeartbeats 4000000 in
theorem run22_err (vars : Int) (a : Option Addr) (n cap : Nat) (cs : List (List Int)) (al : Option Addr) (nl cl : Nat) (ss : List Lra.Stp) (w : World) (hn : cs.length = n) (hc : Cls w a cs) (hr : ¬ Cnf.right vars cs = 0) :
    Calls Try.prog 22 #[.agg #[.int .i64 vars, .slice a n cap], .slice al nl cl] w fun e w' => RunOut w (Ckr.runP vars cs ss) e w' := by
  have hB := below_box w (.cells #[.int .i64 vars, .slice a n cap] 24)
  have hx := heap_alloc_new w (.cells #[.int .i64 vars, .slice a n cap] 24)
  generalize hW1 : w.alloc (.cells #[.int .i64 vars, .slice a n cap] 24) = W1 at hB hx
  have C14 := hid (new14_err vars a n cap cs W1 hn (hc.below hB) hr)
  have x0 := row_cell hx 0
  have x1 := row_cell hx 1
  simp only [List.getElem?_toArray, List.getElem?_cons_zero, List.getElem?_cons_succ] at x0 x1
  have HB := hid hB
  have HE := hid (show Ckr.runP vars cs ss = (false, 0, Cnf.right vars cs) by unfold Ckr.runP; rw [if_neg hr])
  generalize Ckr.runP vars cs ss = d at HE ⊢
  generalize Cnf.right vars cs = q at C14 hr HE
  have hq : (q == 0) = false := by simpa using hr
  have hq2 : (q != 0) = true := by simpa using hr
  clear hx hB hc hn hr
  go_enter Try.func22, Try.ntmps22
  go_wp2_with (go_at_call 14; refine C14.out.mono ?_; clear C14; rintro e W2 ⟨rfl, hB2⟩; have HB2 := hid (HB.out.trans (hB2.mono HB.out.size)); clear hB2)
  go_ret3
  rw [HE.out]
  exact ⟨rfl, HB2.out⟩

set_option maxRecDepth 100000 in
set_option maxHeartbeats 8000000 in
theorem run22 (vars : Int) (a : Option Addr) (n cap : Nat) (cs : List (List Int)) (al : Option Addr) (nl cl : Nat) (ss : List Lra.Stp) (w : World) (hn : cs.length = n) (hc : Cls w a cs) (hr : Cnf.right vars cs = 0) (hnl : ss.length = nl) (hs : StepsC w al ss) (hF : Fine cs ss) :
    Calls Try.prog 22 #[.agg #[.int .i64 vars, .slice a n cap], .slice al nl cl] w fun e w' => RunOut w (Ckr.runP vars cs ss) e w' := by
  have hB := below_box w (.cells #[.int .i64 vars, .slice a n cap] 24)
  have hx := heap_alloc_new w (.cells #[.int .i64 vars, .slice a n cap] 24)
  generalize hW1 : w.alloc (.cells #[.int .i64 vars, .slice a n cap] 24) = W1 at hB hx
  have C14 := hid (new14 vars a n cap cs W1 hn (hc.below hB) hr)
  have x0 := row_cell hx 0
  have x1 := row_cell hx 1
  simp only [List.getElem?_toArray, List.getElem?_cons_zero, List.getElem?_cons_succ] at x0 x1
  have HB := hid hB
  have HE := hid (show Ckr.runG 0 (Ckr.new cs) ss = Ckr.runP vars cs ss by unfold Ckr.runP; rw [if_pos hr])
  have HG0 : Hid (Ckr.Good (Ckr.new cs).C (Ckr.new cs).last) := Ckr.new_good hr
  have HS1 := hid (hs.below hB)
  have HN := hid hnl
  have HFi := hid hF
  have hnl2 : nl ≤ 1500 := by have := hF.s; omega
  have HLen := hid (show ∀ j (h : j < ss.length), ss[j].lits.length ≤ 1500 ∧ ss[j].hints.length ≤ 1500 from fun j h => by
    have h1 := Lra.items_take ss j h
    have h2 := Lra.items_le ss (j + 1)
    have := hF.s
    omega)
  have HA0 : Hid ((Ckr.all (Ckr.new cs).C).length ≤ 1500 ∧ (Ckr.new cs).C.length ≤ 200) := by
    show (Ckr.all (Ckr.num 1 cs)).length ≤ 1500 ∧ (Ckr.num 1 cs).length ≤ 200
    rw [Ckr.num_all, Ckr.num_len]
    exact ⟨by have := hF.l; omega, hF.n⟩
  generalize Ckr.runP vars cs ss = d at HE ⊢
  clear hx hB hc hn hr hs hnl hF
  go_enter Try.func22, Try.ntmps22
  go_wp2_with fail
  go_at_call 14
  refine C14.out.mono ?_
  clear C14 x0 x1 hW1
  rintro e W2 ⟨mb, hs0, v0, rfl, hD2, hB2⟩
  have HD2 := hid hD2
  have HB2 := hid hB2
  clear hD2 hB2
  have sh : Hid (nl = 0) ∨ ∃ b off, al = some ⟨b, off, none⟩ := by
    rcases HS1.out with e | ⟨b, off, e, _⟩
    · left; have h := HN.out; rw [e] at h; exact h.symm
    · exact .inr ⟨b, off, e⟩
  rcases sh with Z | ⟨b, off, rfl⟩
  all_goals
    go_wp2
    go_loopw [8, 9] (fun _ iv wr => ∃ (k : Nat) (S : Ckr.St), iv = .int .i64 k ∧ k ≤ nl ∧ Hid (k = 0 ∨ S.dn = false) ∧ Hid (Ckr.runG k S (ss.drop k) = d) ∧ Hid (∃ hs1 v1, Dk W1.heap.size mb wr S hs1 v1) ∧ Hid (Ckr.Good S.C S.last) ∧ Hid ((Ckr.all S.C).length ≤ 1500 + 1500 * k ∧ S.C.length ≤ 200 + k) ∧ Hid (Below W1.heap.size W1 wr)) (fun _ iv _ => nl - (intOf iv).toNat)
    case atStart => exact ⟨0, Ckr.new cs, rfl, Nat.zero_le _, hid (.inl rfl), hid (by rw [List.drop_zero]; exact HE.out), hid ⟨hs0, v0, HD2.out⟩, HG0, hid ⟨by have := HA0.out.1; omega, by have := HA0.out.2; omega⟩, HB2⟩
    case round =>
      clear HD2 HB2 HE HG0 HA0
      obtain ⟨k, S, rfl, hk, HK0, HU, HDk, HG, HA, HBe⟩ := hrel
      obtain ⟨hs1, v1, hDk⟩ := HDk.out
      have m2 := row_cell hDk.blk 2
      simp only [List.getElem?_toArray, List.getElem?_cons_zero, List.getElem?_cons_succ] at m2
      have HDK := hid hDk
      clear HDk hDk
      cases hdn : S.dn with
      | true =>
        have HE := hid (show (true, (0 : Int), (0 : Int)) = d by
          have h := HU.out
          rw [Ckr.runG_dn hdn] at h
          rcases HK0.out with h0 | h0
          · rw [h0] at h; exact h
          · rw [hdn] at h0; cases h0)
        rw [hdn] at m2
        by_cases hlt : (k : Int) < nl
        · go_wp2
          go_ret3
          rw [← HE.out]
          exact ⟨rfl, HB.out.trans (HBe.out.mono HB.out.size)⟩
        · go_wp2
          go_ret3
          rw [← HE.out]
          exact ⟨rfl, HB.out.trans (HBe.out.mono HB.out.size)⟩
      | false =>
        rw [hdn] at m2
        by_cases hlt : k < nl
        · first
          | (exfalso; have := Z.out; omega)
          | (have hlt' : (k : Int) < nl := by omega
             have hkl : k < ss.length := by rw [HN.out]; exact hlt
             obtain ⟨b', off', a1, c1, a2, c2, hab, hst, hca, hcb⟩ := HS1.out.at hkl
             cases hab
             have hst2 := hst.below HBe.out
             have e0 := hst2.k
             have e1 := hst2.i
             have e2 := hst2.l
             have e3 := hst2.h
             have hlen := HLen.out k hkl
             have ha := HA.out
             have HDD := hid (show ss.drop k = ss[k] :: ss.drop (k + 1) from List.drop_eq_getElem_cons hkl)
             have C17 := hid (step17 (W0 := W1) HDK.out HG.out (by omega) (by omega) HBe.out (Nat.le_refl _) ss[k] a1 c1 a2 c2 hst.v hca hcb (by omega) (by omega))
             have HG2 := hid (Ckr.stepP_good (s := ss[k]) HG.out (by omega))
             have HA2 : Hid ((Ckr.all (Ckr.stepP S ss[k]).2.C).length ≤ 1500 + 1500 * (k + 1) ∧ (Ckr.stepP S ss[k]).2.C.length ≤ 200 + (k + 1)) := by
               have h := Ckr.stepP_few S ss[k]
               exact ⟨by omega, by omega⟩
             have HU1 := hid (show Ckr.runG k S (ss[k] :: ss.drop (k + 1)) = d by have := HU.out; rwa [HDD.out] at this)
             have HOn := hid (fun (h : (Ckr.stepP S ss[k]).1 = 0) => show Ckr.runG (k + 1) (Ckr.stepP S ss[k]).2 (ss.drop (k + 1)) = d by rw [← HU1.out, Ckr.runG_on hdn h])
             have HErr := hid (fun (h : ¬ (Ckr.stepP S ss[k]).1 = 0) => show (false, (k : Int), (Ckr.stepP S ss[k]).1) = d by rw [← HU1.out, Ckr.runG_err hdn h])
             unfold sval at C17
             clear hst hst2 hca hcb HDD HU HU1 hlen ha HG HA HDK
             generalize Ckr.stepP S ss[k] = st at C17 HG2 HA2 HOn HErr
             obtain ⟨q, S2⟩ := st
             simp only at HOn HErr HG2 HA2
             unfold DkOut at C17
             simp only at C17
             generalize ss[k].lits.length = n1 at *
             generalize ss[k].hints.length = n2 at *
             generalize ss[k].kind = kd at *
             generalize ss[k].id = ki at *
             by_cases hq : q = 0
             · have HU2 := hid (HOn.out hq)
               have hq' : (q != 0) = false := by simpa using hq
               have hq2 : (q == 0) = true := by simpa using hq
               clear HOn HErr hq
               go_wp2_with fail
               go_at_call 17
               refine C17.out.mono ?_
               clear C17
               rintro e W5 ⟨rfl, ⟨hs5, v5, hD5⟩, hB5⟩
               have m5 := row_cell hD5.blk 2
               simp only [List.getElem?_toArray, List.getElem?_cons_zero, List.getElem?_cons_succ] at m5
               have HD5 := hid (show ∃ hs1 v1, Dk W1.heap.size mb W5 S2 hs1 v1 from ⟨hs5, v5, hD5⟩)
               have HB5 : Hid (Below W1.heap.size W1 W5) := HBe.out.trans hB5
               clear hD5 hB5
               cases hd2 : S2.dn with
               | true =>
                 have HE := hid (show (true, ((k + 1 : Nat) : Int), (0 : Int)) = d by rw [← HU2.out, Ckr.runG_dn hd2])
                 rw [hd2] at m5
                 go_wp2
                 go_ret3
                 rw [← HE.out]
                 exact ⟨by go_num, HB.out.trans (HB5.out.mono HB.out.size)⟩
               | false =>
                 have HK2 := hid (show k + 1 = 0 ∨ S2.dn = false from .inr hd2)
                 rw [hd2] at m5
                 go_wp2
                 go_roundw
                 case rel => exact ⟨k + 1, S2, by go_num, by omega, HK2, HU2, HD5, HG2, HA2, HB5⟩
                 case measure => simp [intOf]; omega
             · have HU2 := hid (HErr.out hq)
               have hq' : (q != 0) = true := by simpa using hq
               have hq2 : (q == 0) = false := by simpa using hq
               clear HOn HErr hq
               go_wp2_with fail
               go_at_call 17
               refine C17.out.mono ?_
               clear C17
               rintro e W5 ⟨rfl, _, hB5⟩
               have HB5 : Hid (Below W1.heap.size W1 W5) := HBe.out.trans hB5
               clear hB5
               go_wp2
               go_ret3
               rw [← HU2.out]
               exact ⟨rfl, HB.out.trans (HB5.out.mono HB.out.size)⟩)
        · have hge : ¬ (k : Int) < nl := by omega
          have HE := hid (show (false, (nl : Int), (0 : Int)) = d by
            obtain rfl : k = nl := by omega
            have h := HU.out
            rw [List.drop_of_length_le (by rw [HN.out]; omega), Ckr.runG, hdn] at h
            exact h)
          go_wp2
          go_ret3
          rw [← HE.out]
          exact ⟨rfl, HB.out.trans (HBe.out.mono HB.out.size)⟩
end Go.Proofs.Ytjjanmgeogjngaa

/- A checker and the document's hold the same: the call. -/
namespace Go.Proofs.Ytjjanmgeogjngaa
open Go.RowKit Go.Maps
set_option linter.unusedVariables false
set_option linter.unusedSimpArgs false

/-- What is left of a row of ids that is written over from its head on. -/
def Lid (m : Nat) (W : World) (a : Option Addr) (ks : List Int) (q : Nat) : Prop := ks = [] ∨ ∃ g cur, a = some ⟨g, 0, none⟩ ∧ m ≤ g ∧ W.heap[g]? = some (.cells cur 2 (0, 0)) ∧ ks.length ≤ cur.size ∧ ∀ j (h : j < ks.length), q ≤ j → cur[j]? = some (.int .i64 ks[j])
theorem lid_own {m : Nat} {W : World} {a : Option Addr} {c : Nat} {ks : List Int} (h : W.ownsRow m 2 1 (.slice a ks.length c) ks.length (ks.map (Value.int .i64))) : Lid m W a ks 0 := by
  rcases h.2 with ⟨_, h0⟩ | ⟨g, cap, cur, e1, hb, hg, hnc, hcm, hcs, htk⟩
  · exact .inl (List.eq_nil_of_length_eq_zero h0)
  · cases e1
    refine .inr ⟨g, cur, rfl, hb, hg, by omega, fun j hj _ => ?_⟩
    have e2 : (cur.toList.take (ks.length * 1))[j]? = cur.toList[j]? := List.getElem?_take_of_lt (by omega)
    rw [htk] at e2
    rw [← Array.getElem?_toList, ← e2]
    simp [hj]
theorem Lid.below {m : Nat} {W W' : World} {a : Option Addr} {ks : List Int} {q : Nat} (h : Lid m W a ks q) (hb : Below W.heap.size W W') : Lid m W' a ks q := by
  rcases h with h | ⟨g, cur, e, h1, h2, h3⟩
  · exact .inl h
  · exact .inr ⟨g, cur, e, h1, (hb.block g (Array.getElem?_eq_some_iff.1 h2).1).trans h2, h3⟩
theorem Lid.at {m : Nat} {W : World} {a : Option Addr} {ks : List Int} {q : Nat} (h : Lid m W a ks q) (hq : q < ks.length) : ∃ g, a = some ⟨g, 0, none⟩ ∧ m ≤ g ∧ W.cell? ⟨g, q, none⟩ = some (.int .i64 ks[q]) ∧ W.frozen? ⟨g, q, none⟩ = false ∧ ∀ u, Lid m (W.setCell ⟨g, q, none⟩ u) a ks (q + 1) := by
  rcases h with h | ⟨g, cur, e, h1, h2, h3, h4⟩
  · rw [h] at hq; simp at hq
  · refine ⟨g, e, h1, (row_cell h2 _).trans (h4 q hq (Nat.le_refl _)), row_frozen h2 _, fun u => .inr ⟨g, _, e, h1, heap_set_row h2 u, by simpa using h3, fun j hj hqj => ?_⟩⟩
    rw [Array.getElem?_setIfInBounds_ne (by omega)]
    exact h4 j hj (by omega)
def SameOut (w : World) (e : Ending) (w' : World) : Prop := e = .returned (.bool true) ∧ Below w.heap.size w w'

set_option maxRecDepth 100000 in
set_option maxHeartbeats 8000000 in
theorem same20 {n0 cb bm : Nat} {t r : Option Nat} {k n mb : Nat} {w : World} {S : Ckr.St} {hs : List Hd} {v : Value} (hC : Ck n0 cb bm t r k w S.C S.last S.dn) (hD : Dk n mb w S hs v) (hk : k ≤ 1048576) (hcl : S.C.length ≤ 1048576) :
    Calls Try.prog 20 #[.pointer (some ⟨cb, 0, none⟩), .pointer (some ⟨mb, 0, none⟩)] w fun e w' => SameOut w e w' := by
  have HC := hid hC
  have HD := hid hD
  obtain ⟨L, hn⟩ : ∃ n, S.C.length = n := ⟨_, rfl⟩
  have HN := hid hn
  have hhl : hs.length = L := by rw [← hn, ← hD.is, List.length_map]
  have HHL := hid hhl
  obtain ⟨av, cv, rfl⟩ : ∃ a c, v = .slice a L c := by rw [← hhl]; exact own_slc hD.mem.row
  rw [hn] at hcl
  have C35 := hid (hC.live hk)
  unfold KeysOut at C35
  rw [List.length_map, hn] at C35
  clear hC hD hn hhl
  go_enter Try.func20, Try.ntmps20
  go_wp2_with fail
  go_at_call 35
  refine C35.out.mono ?_
  clear C35
  rintro e W2 ⟨ai, ci, rfl, hoi, hB2⟩
  have HLid := hid (show Lid w.heap.size W2 ai (S.C.map (·.1)) 0 from lid_own (by rw [List.length_map, HN.out]; exact hoi))
  have HB2 := hid hB2
  have HC2 := hid (HC.out.below hB2)
  have hD2 := HD.out.below hB2
  have hdr : Below W2.heap.size W2 W2.drew := ⟨rfl, rfl, rfl, Nat.le_refl _, fun _ _ => rfl⟩
  have C27 := hid (Ck.done (HC2.out.below hdr))
  clear hdr
  have d0 := row_cell hD2.blk 0
  have d2 := row_cell hD2.blk 2
  simp only [List.getElem?_toArray, List.getElem?_cons_zero, List.getElem?_cons_succ] at d0 d2
  clear hB2 hoi hD2
  generalize hdn : S.dn = dn at C27 d2
  clear hdn
  go_wp2_with fail
  go_region_with (go_at_call 27; refine C27.out.mono ?_; rintro e W7 ⟨rfl, rfl⟩)
  all_goals
    go_wp2_with fail
    clear d0 d2
    go_loopw [6, 7, 8, 9] (fun iv _ _ _ wr => ∃ q : Nat, iv = .int .i64 q ∧ q ≤ L ∧ Hid (Lid w.heap.size wr ai (S.C.map (·.1)) q) ∧ Hid (Below w.heap.size w wr)) (fun iv _ _ _ _ => L - (intOf iv).toNat)
    case atStart => exact ⟨0, rfl, Nat.zero_le _, HLid, hid ⟨HB2.out.os, HB2.out.tape, HB2.out.output, HB2.out.size, HB2.out.block⟩⟩
    case round =>
      clear HLid HB2 HC2
      obtain ⟨q, rfl, hq, HLid, HBe⟩ := hrel
      by_cases hlt : q < L
      · have hlt' : (q : Int) < L := by omega
        have hqc : q < S.C.length := by rw [HN.out]; exact hlt
        have hqh : q < hs.length := by rw [HHL.out]; exact hlt
        obtain ⟨gl, rfl, hgl, l0, lf, hlid⟩ := HLid.out.at (by rw [List.length_map]; exact hqc)
        have HL2 := hid hlid
        have hge : hs[q].1 = S.C[q] := by
          have h := HD.out.is
          have h2 : (hs.map (·.1))[q]? = S.C[q]? := by rw [h]
          rw [List.getElem?_map, List.getElem?_eq_getElem hqh, List.getElem?_eq_getElem hqc] at h2
          simpa using h2
        have hCr := HC.out.below HBe.out
        have hDr := HD.out.below HBe.out
        have hpm : S.C[q] ∈ S.C := List.getElem_mem hqc
        have hid1 := HC.out.good.ids S.C[q] hpm
        have hid2 := HC.out.good.last_
        have hlits : ∀ x ∈ S.C[q].2, -2147483648 ≤ x ∧ x ≤ 2147483647 := fun x hx => by
          have := HC.out.good.lits x (Ckr.mem_all hpm x hx)
          omega
        have hxl : S.C[q].2.length ≤ 16777216 := by have := Ckr.len_all hpm; have := HC.out.good.few; omega
        have hlook : Ckr.look S.C S.C[q].1 = some S.C[q].2 := Ckr.look_of_mem HC.out.good.sorted hpm
        have C37 := hid (hCr.get S.C[q].1 ⟨by omega, by omega⟩)
        rw [hlook] at C37
        unfold GetOut at C37
        simp only [Option.getD_some, Option.isSome_some] at C37
        obtain ⟨gv, cv', a', c', hv, m0, m1, he⟩ := hDr.mem.at hqh
        have hea := hDr.mem.each hs[q] (List.getElem_mem hqh)
        rw [hge] at m0 m1 he hea
        rw [he] at hea
        cases hv
        simp only [List.getElem_map] at l0
        have b0 := row_cell hDr.blk 0
        simp only [List.getElem?_toArray, List.getElem?_cons_zero, List.getElem?_cons_succ] at b0
        have HY := hid (own_row hea hlits : Lits wr a' S.C[q].2)
        have HLi := hid hlits
        generalize S.C[q].1 = id at l0 C37 m0 hlook
        generalize S.C[q].2 = xs at C37 HY m1 hxl HLi hlook hlits
        clear hlook hea he hpm hid1 hid2 hCr hlits hge
        have HM := hid (And.intro (cell_lt l0) (And.intro (cell_lt m0) (cell_lt b0)))
        have HB0 := hid b0
        have HL0 := hid l0
        have HM0 := hid m0
        have HM1 := hid m1
        clear b0 hDr m0 m1
        go_wp2_with fail
        go_at_call 37
        refine C37.out.mono ?_
        clear C37
        rintro e W5 ⟨a5, c5, rfl, ho5, hB5⟩
        have b5 := (hB5.cell (p := ⟨mb, 0, none⟩) HM.out.2.2).trans HB0.out
        have l5 := (hB5.cell (p := ⟨gl, q, none⟩) HM.out.1).trans HL0.out
        have m5 := (hB5.cell (p := ⟨gv, q * 2, none⟩) HM.out.2.1).trans HM0.out
        have m6 := (hB5.cell (p := ⟨gv, q * 2 + 1, none⟩) HM.out.2.1).trans HM1.out
        have HX5 := hid (own_row ho5 HLi.out : Lits W5 a5 xs)
        have HRw := hid (rw_own ho5)
        have HB5 := hid hB5
        have hrw : Rw wr.heap.size W5.heap.size 40 W5 a5 xs.length := by
          obtain ⟨o, c, e, h⟩ := HRw.out
          cases e
          exact h
        have HRW := hid hrw
        have C15 := hid (fun X (hX : Below W5.heap.size W5 X) => (row15 a5 a' xs.length c5 xs.length c' xs xs X rfl rfl (by omega) (HX5.out.below hX) ((HY.out.below HB5.out).below hX)).mono (R' := fun e w' => e = .returned (.bool true) ∧ w'.cell? ⟨mb, 0, none⟩ = some (.slice (some ⟨gv, 0, none⟩) hs.length cv) ∧ w'.cell? ⟨gl, q, none⟩ = some (.int .i64 id) ∧ w'.cell? ⟨gv, q * 2, none⟩ = some (.int .i64 id) ∧ w'.cell? ⟨gv, q * 2 + 1, none⟩ = some (.slice a' xs.length c') ∧ Below W5.heap.size W5 w') fun e w' hw' => by
          have hw2 : Below W5.heap.size W5 w' := hw'.2.below hX
          refine ⟨by rw [hw'.1]; simp, (hw2.cell (p := ⟨mb, 0, none⟩) (cell_lt b5)).trans b5, (hw2.cell (p := ⟨gl, q, none⟩) (cell_lt l5)).trans l5, (hw2.cell (p := ⟨gv, q * 2, none⟩) (cell_lt m5)).trans m5, (hw2.cell (p := ⟨gv, q * 2 + 1, none⟩) (cell_lt m6)).trans m6, hw2⟩)
        have KK := hid (show W5.drew.cell? ⟨mb, 0, none⟩ = some (.slice (some ⟨gv, 0, none⟩) hs.length cv) ∧ W5.drew.cell? ⟨gl, q, none⟩ = some (.int .i64 id) ∧ W5.drew.cell? ⟨gv, q * 2, none⟩ = some (.int .i64 id) ∧ W5.drew.cell? ⟨gv, q * 2 + 1, none⟩ = some (.slice a' xs.length c') ∧ Below W5.heap.size W5 W5.drew from ⟨b5, l5, m5, m6, (Below.refl _ _).drew⟩)
        generalize xs.length = nx at *
        clear ho5 hB5 l0 hrw HRw
        go_wp2_with fail
        go_region_held3 (fun X => X.cell? ⟨mb, 0, none⟩ = some (.slice (some ⟨gv, 0, none⟩) hs.length cv) ∧ X.cell? ⟨gl, q, none⟩ = some (.int .i64 id) ∧ X.cell? ⟨gv, q * 2, none⟩ = some (.int .i64 id) ∧ X.cell? ⟨gv, q * 2 + 1, none⟩ = some (.slice a' nx c') ∧ Below W5.heap.size W5 X)
          (first | exact KK.out | exact ⟨s0, s1, s2, s3, hb8⟩)
          (first | (go_at_call 15; refine (C15.out _ ?_).mono ?_; exact (Below.refl _ _).drew; rintro e w8 ⟨rfl, s0, s1, s2, s3, hb8⟩))
        have HR8 := hid (HRW.out.below hb8)
        have HB8 := hid (show Below wr.heap.size wr w8 from HB5.out.trans (hb8.mono HB5.out.size))
        clear s0 s1 s2 s3 hb8 b5 l5 m5 m6 KK C15 HRW
        have hnx : nx ≤ 16777216 := hxl
        go_wp2
        go_loopw [9] (fun jv X => ∃ j : Nat, jv = .int .i64 j ∧ j ≤ nx ∧ Hid (Tn wr.heap.size W5.heap.size w8 X)) (fun jv _ => nx - (intOf jv).toNat)
        case atStart => exact ⟨0, rfl, Nat.zero_le _, hid (Tn.refl _ _ _)⟩
        case round =>
          obtain ⟨j, rfl, hj, HT⟩ := hrel
          by_cases hjn : j < nx
          · have hjn' : (j : Int) < nx := by omega
            have hrx := HR8.out.turn HT.out
            obtain ⟨gx, ox, rfl⟩ := hrx.shape (by omega)
            obtain ⟨⟨y, hy⟩, hz, hT⟩ := hrx.cell hjn (by decide)
            have HT2 := hid hT
            clear hrx hT
            go_wp2
            go_roundw
            case rel => exact ⟨j + 1, by go_num, by omega, hid (HT.out.trans (HT2.out _))⟩
            case measure => simp [intOf]; omega
          · have hjn' : ¬ (j : Int) < nx := by omega
            have hBX := HT.out.below HB8.out
            obtain ⟨gl2, hgl2, _, l9, f9, hl9⟩ := (HLid.out.below hBX).at (by rw [List.length_map]; exact hqc)
            cases hgl2
            have HL9 := hid hl9
            have HBX := hid (HBe.out.trans (hBX.mono HBe.out.size))
            clear hBX hl9
            go_wp2
            go_roundw
            case rel => exact ⟨q + 1, by go_num, by omega, hid (HL9.out _), hid (HBX.out.setCell (p := ⟨gl, q, none⟩) hgl _)⟩
            case measure => simp [intOf]; omega
      · have hge : ¬ (q : Int) < L := by omega
        go_wp2
        go_ret
        exact ⟨rfl, HBe.out⟩
end Go.Proofs.Ytjjanmgeogjngaa

/- Steps in memory of their own, each in blocks of its own. -/
namespace Go.Proofs.Ytjjanmgeogjngaa
open Go.RowKit
set_option linter.unusedVariables false

/-- The rows of unlike steps lie in unlike blocks. -/
def Dis (p q : Q) : Prop := ∀ g, (p.2.1.ownBlock = some g ∨ p.2.2.ownBlock = some g) → q.2.1.ownBlock ≠ some g ∧ q.2.2.ownBlock ≠ some g
/-- Steps that are told in new memory. -/
def LentOutT (w : World) (ss : List Lra.Stp) (e : Ending) (w' : World) : Prop := ∃ (qs : List Q) (v : Value), e = .returned v ∧ qs.map (·.1) = ss ∧ Mem w.heap.size w' v qs ∧ qs.Pairwise Dis ∧ Below w.heap.size w w'

set_option maxRecDepth 100000 in
set_option maxHeartbeats 8000000 in
theorem lent10t (a : Option Addr) (n c : Nat) (ss : List Lra.Stp) (w : World) (hn : ss.length = n) (hb : n ≤ 1000000) (hi : Lra.items ss ≤ 1000000) (hs : Steps w a ss) :
    Calls Try.prog 12 #[.slice a n c] w fun e w' => LentOutT w ss e w' := by
  have HS := hid hs
  have HN := hid hn
  have HI := hid hi
  have sh := hs.shape
  rw [hn] at sh
  clear hs hn hi
  rcases sh with Z | ⟨b, off, rfl⟩
  all_goals
    go_enter Try.func12, Try.ntmps12
    go_wp2
    go_loopw [3, 4, 5, 6, 7] (fun ov iv _ _ _ wr => ∃ (k : Nat) (qs : List Q) (o : Option Addr) (d : Nat), ov = .slice o k d ∧ iv = .int .i64 k ∧ k ≤ n ∧ Hid (qs.map (·.1) = ss.take k) ∧ Hid (Mem w.heap.size wr (.slice o k d) qs) ∧ Hid (qs.Pairwise Dis) ∧ Hid (Below w.heap.size w wr)) (fun _ iv _ _ _ _ => n - (intOf iv).toNat)
    case atStart => exact ⟨0, [], none, 0, rfl, rfl, Nat.zero_le _, hid (by simp), hid (Mem.nil _ _), hid List.Pairwise.nil, hid (Below.refl _ _)⟩
    case round =>
      obtain ⟨k, qs, o, d, rfl, rfl, hk, HQ, HM, HPW, HB⟩ := hrel
      by_cases hlt : k < n
      · have hlt' : (k : Int) < n := by omega
        first
        | (exfalso; have := Z.out; omega)
        | (have hks : k < ss.length := by rw [HN.out]; exact hlt
           obtain ⟨a1, c1, a2, c2, hst⟩ := (HS.out.below HB.out).at (j := k) hks
           have hql : qs.length = k := by
             have := congrArg List.length HQ.out
             rw [List.length_map, List.length_take] at this
             omega
           have HTK := hid (List.take_succ_eq_append_getElem hks)
           have hil := Lra.items_le ss (k + 1)
           rw [Lra.items_take ss k hks] at hil
           have hl1 : ss[k].lits.length ≤ 16777216 := by have := HI.out; omega
           have hl2 : ss[k].hints.length ≤ 16777216 := by have := HI.out; omega
           have hQ : ∀ q : Q, q.1 = ss[k] → (qs ++ [q]).map (·.1) = ss.take (k + 1) := by
             rintro q hq
             rw [HTK.out, List.map_append, HQ.out]; simp [hq]
           have HQQ := hid hQ
           clear hil hQ HTK
           generalize ss[k] = s at hst hl1 hl2 HQQ
           obtain ⟨x0, x1, x2, x3, hv⟩ := hst
           -- the worlds of a round
           obtain ⟨V1, hV1⟩ : ∃ V1, wr.alloc (.cells #[.int .u8 s.kind, .int .i64 s.id, .slice a1 s.lits.length c1, .slice a2 s.hints.length c2] 44) = V1 := ⟨_, rfl⟩
           have hB1 : Below wr.heap.size wr V1 := by rw [← hV1]; exact below_box _ _
           have hN1 : V1.heap[wr.heap.size]? = some (.cells #[.int .u8 s.kind, .int .i64 s.id, .slice a1 s.lits.length c1, .slice a2 s.hints.length c2] 44 (0, 0)) := by rw [← hV1]; exact heap_alloc_new _ _
           obtain ⟨o1, d1, A1, r1, ow1, b1⟩ := lits_arg c1 (hv.below hB1).l hl1
           obtain ⟨o2, d2, A2, r2, ow2, b2⟩ := hnts_arg c2 ((hv.below hB1).below b1).h hl2
           have hs1 : wr.heap.size < V1.heap.size := (Array.getElem?_eq_some_iff.1 hN1).1
           have hN2 := (b1.block _ hs1).trans hN1
           have hN3 := (b2.block _ (Array.getElem?_eq_some_iff.1 hN2).1).trans hN2
           have hN4 := heap_set_row (k := 2) hN3 (.slice o1 s.lits.length d1)
           have hN5 := heap_set_row (k := 3) hN4 (.slice o2 s.hints.length d2)
           obtain ⟨V2, hV2⟩ : ∃ V2, (A2.setCell ⟨wr.heap.size, 2, none⟩ (.slice o1 s.lits.length d1)).setCell ⟨wr.heap.size, 3, none⟩ (.slice o2 s.hints.length d2) = V2 := ⟨_, rfl⟩
           rw [hV2] at hN5
           have hkeep : ∀ g, g < wr.heap.size → V2.heap[g]? = wr.heap[g]? := fun g hg => by
             rw [← hV2]
             exact (heap_other _ _ (by omega)).trans ((heap_other _ _ (by omega)).trans ((b2.block g (by have := b1.size; omega)).trans ((b1.block g (by omega)).trans (hB1.block g hg))))
           have hA12 : V1.heap.size ≤ A2.heap.size := Nat.le_trans b1.size b2.size
           have hs2 : V2.heap.size = A2.heap.size := by rw [← hV2]; simp [World.setCell]
           have hqv : QV w.heap.size V2 (s, .slice o1 s.lits.length d1, .slice o2 s.hints.length d2) := by
             have hbw := HB.out.size
             have h1 := b1.size
             rw [← hV2]
             exact ⟨own_base (own_set (own_set (own_below ow1 b2) hs1 _) hs1 _) (by omega), own_base (own_set (own_set ow2 (by omega) _) (by omega) _) (by omega)⟩
           have hmem : Mem w.heap.size V2 (.slice o k d) qs := HM.out.keep (fun g hg => hkeep g (HM.out.row.lt g hg).2) (fun q hq g hg => hkeep g ((HM.out.each q hq).lt hg).2)
           obtain ⟨o3, d3, B, r3, hm3, kp3, sz3, os3, tp3, ot3, _⟩ := hmem.push _ hqv (by omega) (by have := HB.out.size; omega)
           rw [hql] at r3 hm3
           have hBB : Below w.heap.size w B := by
             refine HB.out.trans ⟨?_, ?_, ?_, by omega, fun g hg => (kp3 g (by have := HB.out.size; omega) (fun e => by have := (HM.out.row.lt g e).1; omega)).trans (hkeep g (by have := HB.out.size; omega))⟩
             · rw [os3, ← hV2]; exact b2.os.trans (b1.os.trans hB1.os)
             · rw [tp3, ← hV2]; exact b2.tape.trans (b1.tape.trans hB1.tape)
             · rw [ot3, ← hV2]; exact b2.output.trans (b1.output.trans hB1.output)
           have p2 := row_cell hN1 2
           have p3 := row_cell hN2 3
           have p4 := row_cell hN3 2
           have p5 := row_frozen hN3 2
           have p6 := row_cell hN4 3
           have p7 := row_frozen hN4 3
           have y0 := row_cell hN5 0
           have y1 := row_cell hN5 1
           have y2 := row_cell hN5 2
           have y3 := row_cell hN5 3
           simp only [List.getElem?_toArray, List.getElem?_cons_zero, List.getElem?_cons_succ, List.setIfInBounds_toArray, List.set_cons_zero, List.set_cons_succ] at p2 p3 p4 p6 y0 y1 y2 y3
           have hdis : (qs ++ [((s, .slice o1 s.lits.length d1, .slice o2 s.hints.length d2) : Q)]).Pairwise Dis := by
             refine List.pairwise_append.2 ⟨HPW.out, List.pairwise_singleton _ _, fun p hp q hq => ?_⟩
             obtain rfl := List.mem_singleton.1 hq
             intro g hg
             have h1 := ((HM.out.each p hp).lt hg).2
             have h2 := b1.size
             refine ⟨fun e => ?_, fun e => ?_⟩
             · have := (ow1.lt g e).1; omega
             · have := (ow2.lt g e).1; omega
           have HDS := hid hdis
           have HR1 := hid r1
           have HR2 := hid r2
           have HR3 := hid r3
           have HM3 := hid hm3
           have HBB := hid hBB
           have HV1 := hid hV1
           have HV2 := hid hV2
           clear hdis r1 r2 r3 hm3 hBB hmem hqv ow1 ow2 b1 b2 hv hkeep kp3 hN1 hN2 hN3 hN4 hN5 hB1 hl1 hl2 os3 tp3 ot3 sz3 hs1 hs2 hA12 hql
           generalize s.lits.length = m1 at *
           generalize s.hints.length = m2 at *
           go_wp2_with (first
             | (at_builtin; refine wpList_append_run rfl (.tmp 18) (.tmp 20) 39 39 rfl rfl rfl HR1.out ?_; clear HR1)
             | (at_builtin; refine wpList_append_run rfl (.tmp 22) (.tmp 24) 42 42 rfl rfl rfl HR2.out ?_; clear HR2)
             | (at_builtin; refine wpList_append_run rfl (.tmp 30) (.tmp 32) 25 25 rfl rfl rfl HR3.out ?_; clear HR3))
           go_roundw
           case rel => exact ⟨k + 1, _, _, _, by go_num, by go_num, by omega, hid (HQQ.out _ rfl), HM3, HDS, HBB⟩
           case measure => simp [intOf]; omega)
      · have hlt' : ¬ (k : Int) < n := by omega
        obtain rfl : k = n := by omega
        go_wp2
        go_ret
        exact ⟨qs, _, rfl, by rw [HQ.out, List.take_of_length_le (by rw [HN.out]; exact Nat.le_refl _)], HM.out, HPW.out, HB.out⟩
end Go.Proofs.Ytjjanmgeogjngaa

/- One step is written over. -/
namespace Go.Proofs.Ytjjanmgeogjngaa
open Go.RowKit
set_option linter.unusedVariables false

/-- Nothing is turned but one cell of a block, and two rows. -/
structure T1 (g k : Nat) (l h : Option Nat) (W W' : World) : Prop where
  os : W'.os = W.os
  tape : W'.tape = W.tape
  output : W'.output = W.output
  size : W'.heap.size = W.heap.size
  out : ∀ q, q ≠ g → some q ≠ l → some q ≠ h → W'.heap[q]? = W.heap[q]?
  row : ∀ (q : Nat) (cs : Array Value) (t : TypeId), W.heap[q]? = some (.cells cs t (0, 0)) → ∃ cs' : Array Value, W'.heap[q]? = some (.cells cs' t (0, 0)) ∧ cs'.size = cs.size ∧ (t = 44 → ∀ j, ¬ (q = g ∧ j = k) → cs'[j]? = cs[j]?)
theorem T1.refl (g k : Nat) (l h : Option Nat) (W : World) : T1 g k l h W W := ⟨rfl, rfl, rfl, rfl, fun _ _ _ _ => rfl, fun q cs t e => ⟨cs, e, rfl, fun _ _ _ => rfl⟩⟩
theorem T1.trans {g k : Nat} {l h : Option Nat} {A B C : World} (x : T1 g k l h A B) (y : T1 g k l h B C) : T1 g k l h A C :=
  ⟨y.os.trans x.os, y.tape.trans x.tape, y.output.trans x.output, y.size.trans x.size, fun q h1 h2 h3 => (y.out q h1 h2 h3).trans (x.out q h1 h2 h3), fun q cs t e => by
    obtain ⟨c1, e1, s1, k1⟩ := x.row q cs t e
    obtain ⟨c2, e2, s2, k2⟩ := y.row q c1 t e1
    exact ⟨c2, e2, s2.trans s1, fun ht j hj => (k2 ht j hj).trans (k1 ht j hj)⟩⟩
theorem T1.one {g k : Nat} {l h : Option Nat} {A : World} {b j : Nat} {cs : Array Value} {t : TypeId} (hA : A.heap[b]? = some (.cells cs t (0, 0))) (hb : (b = g ∧ j = k) ∨ (t ≠ 44 ∧ (some b = l ∨ some b = h))) (u : Value) : T1 g k l h A (A.setCell ⟨b, j, none⟩ u) := by
  refine ⟨rfl, rfl, rfl, by simp [World.setCell], fun q h1 h2 h3 => heap_other _ _ (fun e => ?_), fun q cs' t' e => ?_⟩
  · subst e
    rcases hb with hb | ⟨_, hb | hb⟩
    · exact h1 hb.1
    · exact h2 hb
    · exact h3 hb
  · by_cases hq : q = b
    · subst hq
      rw [hA] at e
      cases e
      refine ⟨_, heap_set_row hA u, by simp, fun ht i hi => ?_⟩
      rcases hb with ⟨rfl, rfl⟩ | ⟨hn, _⟩
      · have : i ≠ j := fun e => hi ⟨rfl, e⟩
        rw [Array.getElem?_setIfInBounds_ne (by omega)]
      · exact absurd ht hn
    · exact ⟨cs', (heap_other _ _ hq).trans e, rfl, fun _ _ _ => rfl⟩
theorem T1.drew {g k : Nat} {l h : Option Nat} {A B C : World} (x : T1 g k l h A B) (hs : C.os = B.os) (ht : C.tape = B.tape) (ho : C.output = B.output) (hh : C.heap = B.heap) : T1 g k l h A C :=
  ⟨hs.trans x.os, ht.trans x.tape, ho.trans x.output, by rw [hh]; exact x.size, by rw [hh]; exact x.out, by rw [hh]; exact x.row⟩
/-- A row of its own, while it is written over. -/
theorem own_t1 {n m : Nat} {e : TypeId} {o : Option Addr} {c : Nat} {xs : List Value} {W W' : World} {g k : Nat} {l h : Option Nat} (hw : W.ownsRow n e 1 (.slice o m c) m xs) (ht : T1 g k l h W W') {j : Nat} (hj : j < m) (he : e ≠ 44) (hin : (Value.slice o m c).ownBlock = l ∨ (Value.slice o m c).ownBlock = h) :
    ∃ b, o = some ⟨b, 0, none⟩ ∧ (∃ y, W'.cell? ⟨b, j, none⟩ = some y) ∧ W'.frozen? ⟨b, j, none⟩ = false ∧ ∀ u, T1 g k l h W' (W'.setCell ⟨b, j, none⟩ u) := by
  obtain ⟨b, c', cur, e1, _, hb, hc, _, hs, _⟩ := own_some hw (by omega)
  cases e1
  obtain ⟨cs', h1, h2, _⟩ := ht.row b cur e hb
  have hlt : j < cs'.size := by omega
  refine ⟨b, rfl, ⟨cs'[j], by rw [row_cell h1, Array.getElem?_eq_getElem hlt]⟩, row_frozen h1 j, fun u => T1.one h1 (.inr ⟨he, ?_⟩) u⟩
  rcases hin with e | e
  · exact .inl e
  · exact .inr e
set_option maxRecDepth 100000 in
set_option maxHeartbeats 8000000 in
theorem spoil19 (n : Nat) (W : World) (g off c : Nat) (cs : Array Value) (u : Value) (o1 : Option Addr) (n1 c1 : Nat) (o2 : Option Addr) (n2 c2 : Nat) (xs ys : List Value) (hg : W.heap[g]? = some (.cells cs 44 (0, 0))) (e1 : cs[off + 1]? = some u) (e2 : cs[off + 2]? = some (.slice o1 n1 c1)) (e3 : cs[off + 3]? = some (.slice o2 n2 c2))
    (h1 : W.ownsRow n 40 1 (.slice o1 n1 c1) n1 xs) (h2 : W.ownsRow n 2 1 (.slice o2 n2 c2) n2 ys) (hn1 : n1 ≤ 1000000) (hn2 : n2 ≤ 1000000) :
    Calls Try.prog 19 #[.slice (some ⟨g, off, none⟩) 1 c] W fun e W' => e = .returned (.tuple #[]) ∧ T1 g (off + 1) (Value.slice o1 n1 c1).ownBlock (Value.slice o2 n2 c2).ownBlock W W' := by
  have H1 := hid h1
  have H2 := hid h2
  obtain ⟨bl, hbl⟩ : ∃ bl, (Value.slice o1 n1 c1).ownBlock = bl := ⟨_, rfl⟩
  obtain ⟨bh, hbh⟩ : ∃ bh, (Value.slice o2 n2 c2).ownBlock = bh := ⟨_, rfl⟩
  rw [hbl, hbh]
  have HC := hid (fun (X : World) (hX : T1 g (off + 1) bl bh W X) => show X.cell? ⟨g, off + 2, none⟩ = some (.slice o1 n1 c1) ∧ X.cell? ⟨g, off + 3, none⟩ = some (.slice o2 n2 c2) ∧ (∃ y, X.cell? ⟨g, off + 1, none⟩ = some y) ∧ X.frozen? ⟨g, off + 1, none⟩ = false ∧ ∀ u, T1 g (off + 1) bl bh X (X.setCell ⟨g, off + 1, none⟩ u) from by
    obtain ⟨cs', q1, q2, q3⟩ := hX.row g cs 44 hg
    refine ⟨by rw [row_cell q1, q3 rfl _ (by omega), e2], by rw [row_cell q1, q3 rfl _ (by omega), e3], ?_, row_frozen q1 _, fun u => T1.one q1 (.inl ⟨rfl, rfl⟩) u⟩
    have : off + 1 < cs'.size := by rw [q2]; exact (Array.getElem?_eq_some_iff.1 e1).1
    exact ⟨cs'[off + 1], by rw [row_cell q1, Array.getElem?_eq_getElem this]⟩)
  have HL1 := hid (fun (X : World) (hX : T1 g (off + 1) bl bh W X) (j : Nat) (hj : j < n1) => own_t1 h1 hX hj (by decide) (.inl hbl))
  have HL2 := hid (fun (X : World) (hX : T1 g (off + 1) bl bh W X) (j : Nat) (hj : j < n2) => own_t1 h2 hX hj (by decide) (.inr hbh))
  clear h1 h2 hg e1 e2 e3 hbl hbh
  go_enter Try.func19, Try.ntmps19
  go_wp2
  go_loopw [2, 3, 4] (fun iv _ _ wr => ∃ i : Nat, iv = .int .i64 i ∧ i ≤ 1 ∧ Hid (T1 g (off + 1) bl bh W wr)) (fun iv _ _ _ => 1 - (intOf iv).toNat)
  case atStart => exact ⟨0, rfl, by omega, hid (T1.refl _ _ _ _ _)⟩
  case round =>
    obtain ⟨i, rfl, hi, HT⟩ := hrel
    by_cases hlt : i < 1
    · obtain rfl : i = 0 := by omega
      go_wp2
      go_loopw [3] (fun jv wr => ∃ j : Nat, jv = .int .i64 j ∧ j ≤ n1 ∧ Hid (T1 g (off + 1) bl bh W wr)) (fun jv _ => n1 - (intOf jv).toNat)
      case atStart => exact ⟨0, rfl, by omega, HT⟩
      case round =>
        clear HT
        obtain ⟨j, rfl, hj, HT⟩ := hrel
        obtain ⟨x2, x3, _, _, _⟩ := HC.out _ HT.out
        by_cases hjn : j < n1
        · have hjn' : (j : Int) < n1 := by omega
          obtain ⟨b, rfl, ⟨y, hy⟩, hz, hT⟩ := HL1.out _ HT.out j hjn
          have HT2 := hid hT
          clear hT
          go_wp2
          go_roundw
          case rel => exact ⟨j + 1, by go_num, by omega, hid (HT.out.trans (HT2.out _))⟩
          case measure => simp [intOf]; omega
        · have hjn' : ¬ (j : Int) < n1 := by omega
          go_wp2
          go_loopw [4] (fun jv wr => ∃ j : Nat, jv = .int .i64 j ∧ j ≤ n2 ∧ Hid (T1 g (off + 1) bl bh W wr)) (fun jv _ => n2 - (intOf jv).toNat)
          case atStart => exact ⟨0, rfl, by omega, HT⟩
          case round =>
            clear HT x2 x3
            obtain ⟨q, rfl, hq2, HT⟩ := hrel
            obtain ⟨x2, x3, ⟨y, hy⟩, hz, hn⟩ := HC.out _ HT.out
            have HN := hid hn
            clear hn
            by_cases hqn : q < n2
            · have hqn' : (q : Int) < n2 := by omega
              clear hy hz
              obtain ⟨b, rfl, ⟨y, hy⟩, hz, hT⟩ := HL2.out _ HT.out q hqn
              have HT2 := hid hT
              clear hT
              go_wp2
              go_roundw
              case rel => exact ⟨q + 1, by go_num, by omega, hid (HT.out.trans (HT2.out _))⟩
              case measure => simp [intOf]; omega
            · have hqn' : ¬ (q : Int) < n2 := by omega
              go_wp2
              go_roundw
              case rel => exact ⟨1, by go_num, by omega, hid (HT.out.trans (HN.out _))⟩
              case measure => simp [intOf]
    · have hlt' : ¬ (i : Int) < 1 := by omega
      go_wp2
      refine bodyPost_end (results_none rfl _ _ _) rfl ?_
      exact ⟨rfl, HT.out⟩
end Go.Proofs.Ytjjanmgeogjngaa

/- A formula in memory of its own. -/
namespace Go.Proofs.Ytjjanmgeogjngaa
open Go.RowKit
set_option linter.unusedVariables false

/-- Rows of literals, each in a block of its own, and the row of them. -/
structure Rws (n : Nat) (W : World) (v : Value) (rows : List (List Int × Value)) : Prop where
  row : W.ownsRow n 39 1 v rows.length (rows.map (·.2))
  each : ∀ q ∈ rows, W.ownsRow n 40 1 q.2 q.1.length (q.1.map (Value.int .i32))
  dis : rows.Pairwise (fun p q => ∀ g, p.2.ownBlock = some g → q.2.ownBlock ≠ some g)
def LentF (w : World) (vars : Int) (cs : List (List Int)) (e : Ending) (w' : World) : Prop := ∃ rows v, e = .returned (.agg #[.int .i64 vars, v]) ∧ rows.map (·.1) = cs ∧ Rws w.heap.size w' v rows ∧ Below w.heap.size w w'
theorem info39 : (Try.prog.info? 39).map (fun i => (i.zero, i.size, i.bytes)) = some (some (.slice none 0 0), 1, 24) := by kernel_rfl
theorem push39 {W : World} {base : Nat} {v : Value} {k : Nat} {vs : List Value} (ho : W.ownsRow base 39 1 v k vs) (x : Value) (hx : x.oneCell' = true) (hb : base ≤ W.heap.size) (hk : k ≤ 1000000) :
    ∃ g c B, (Builtin.append_ #[22, 22] 22 #[v, .slice (some ⟨W.heap.size, 0, none⟩) 1 1]).run Try.prog (W.alloc (.cells #[x] 39)) = .ok (.slice (some ⟨g, 0, none⟩) (k + 1) c) B ∧ B.ownsRow base 39 1 (.slice (some ⟨g, 0, none⟩) (k + 1) c) (k + 1) (vs ++ [x]) ∧ (W.alloc (.cells #[x] 39)).grownBy B v.ownBlock := by
  obtain ⟨i0, hi0, hz⟩ := Option.map_eq_some_iff.1 info39
  simp only [Prod.mk.injEq] at hz
  obtain ⟨g, c, B, hr, h2, h3, h5, _⟩ := run_append_lies (P := Try.prog) (W.alloc (.cells #[x] 39)) 22 22 base 39 i0 (.slice none 0 0) 1 24 Try.underlying22 hi0 hz.1 hz.2.1 hz.2.2 rfl (by decide) v k _ (ho.alloc _) ⟨W.heap.size, 0, none⟩ 1 1 [x] rfl (World.news_of_block (heap_alloc_new W (.cells #[x] 39))) (by intro u hu; simp at hu; subst hu; exact hx) (by decide) (by unfold maxLen; omega) (by omega) (by simp; omega) _ rfl
  exact ⟨g, c, B, hr, h2, h3⟩
theorem own_ltz {W : World} {base n size : Nat} {e : TypeId} {v : Value} {xs : List Value} {g : Nat} (h : W.ownsRow base e size v n xs) (hg : v.ownBlock = some g) : base ≤ g ∧ g < W.heap.size ∧ ∃ cur, W.heap[g]? = some (.cells cur e (0, 0)) := by
  rcases h.2 with ⟨rfl, _⟩ | ⟨g', cap, cur, rfl, hb, hgb, _⟩
  · cases hg
  · cases hg; exact ⟨hb, (Array.getElem?_eq_some_iff.1 hgb).1, cur, hgb⟩
theorem own_other {W W' : World} {base n size : Nat} {e : TypeId} {v : Value} {xs : List Value} {row : Option Nat} (h : W.ownsRow base e size v n xs) (hg : W.grownBy W' row) (hne : ∀ g, row = some g → ∃ cur t, W.heap[g]? = some (.cells cur t (0, 0)) ∧ t ≠ e) : W'.ownsRow base e size v n xs :=
  h.kept hg (by
    cases hv : v.ownBlock with
    | none => exact .inl rfl
    | some g =>
      refine .inr (fun e1 => ?_)
      obtain ⟨cur, t, h1, h2⟩ := hne g e1.symm
      obtain ⟨_, _, cur2, h3⟩ := own_ltz h hv
      rw [h1] at h3
      injection h3 with h3; injection h3 with _ h3 _
      exact h2 h3)
/-- A row more. -/
theorem Rws.push {n : Nat} {W A : World} {v : Value} {rows : List (List Int × Value)} (h : Rws n W v rows) (hb : Below W.heap.size W A) (hn : n ≤ W.heap.size) (xs : List Int) (x : Value) (hx : A.ownsRow W.heap.size 40 1 x xs.length (xs.map (Value.int .i32))) (hk : rows.length ≤ 1000000) :
    ∃ g c B, (Builtin.append_ #[22, 22] 22 #[v, .slice (some ⟨A.heap.size, 0, none⟩) 1 1]).run Try.prog (A.alloc (.cells #[x] 39)) = .ok (.slice (some ⟨g, 0, none⟩) (rows.length + 1) c) B ∧ Rws n B (.slice (some ⟨g, 0, none⟩) (rows.length + 1) c) (rows ++ [(xs, x)]) ∧ Below n W B := by
  obtain ⟨o, d, hxe⟩ := own_slc hx
  obtain ⟨g, c, B, hr, ho, hg⟩ := push39 (own_below h.row hb) x (by rw [hxe]; rfl) (Nat.le_trans hn hb.size) hk
  have hal := below_box A (.cells #[x] 39)
  have hne : ∀ q, v.ownBlock = some q → ∃ cur t, (A.alloc (.cells #[x] 39)).heap[q]? = some (.cells cur t (0, 0)) ∧ t ≠ 40 := fun q hq => by
    obtain ⟨_, hl, cur, h3⟩ := own_ltz (own_below h.row hb) hq
    exact ⟨cur, 39, (hal.block q hl).trans h3, by decide⟩
  refine ⟨g, c, B, hr, ⟨by simpa using ho, fun q hq => ?_, ?_⟩, ?_⟩
  · rcases List.mem_append.1 hq with hq | hq
    · exact own_other (own_below (own_below (h.each q hq) hb) hal) hg hne
    · obtain rfl := List.mem_singleton.1 hq
      exact own_base (own_other (own_below hx hal) hg hne) hn
  · refine List.pairwise_append.2 ⟨h.dis, List.pairwise_singleton _ _, fun p hp q hq => ?_⟩
    obtain rfl := List.mem_singleton.1 hq
    intro b hb1 hb2
    have h1 := (own_ltz (h.each p hp) hb1).2.1
    have h2 := (own_ltz hx hb2).1
    omega
  · refine ⟨hg.os.trans hb.os, hg.tape.trans hb.tape, hg.output.trans hb.output, Nat.le_trans hb.size (Nat.le_trans hal.size hg.size), fun q hq => ?_⟩
    have hqA : q < A.heap.size := by have := hb.size; omega
    refine (hg.block q (Nat.lt_of_lt_of_le hqA hal.size) (fun e => ?_)).trans ((hal.block q hqA).trans (hb.block q (by omega)))
    have := (own_ltz h.row e.symm).1
    omega
set_option maxRecDepth 100000 in
set_option maxHeartbeats 8000000 in
theorem lent11 (vars : Int) (a : Option Addr) (n c : Nat) (cs : List (List Int)) (w : World) (hn : cs.length = n) (hb : n ≤ 200) (hl : cs.flatten.length ≤ 1500) (hc : Cls w a cs) :
    Calls Try.prog 11 #[.agg #[.int .i64 vars, .slice a n c]] w fun e w' => LentF w vars cs e w' := by
  have hB := below_box w (.cells #[.int .i64 vars, .slice a n c] 24)
  have hx := heap_alloc_new w (.cells #[.int .i64 vars, .slice a n c] 24)
  generalize hW1 : w.alloc (.cells #[.int .i64 vars, .slice a n c] 24) = W1 at hB hx
  have hs1 : W1.heap.size = w.heap.size + 1 := by rw [← hW1]; simp
  have HX := hid hx
  have HC := hid (hc.below hB)
  have HN := hid hn
  have HL := hid (show ∀ k, k < n → (cs.getD k []).length ≤ 1500 from fun k hk => by
    have hk' : k < cs.length := by omega
    have e : cs.getD k [] = cs[k] := by simp [List.getD, hk']
    rw [e]
    have : cs[k].length ≤ cs.flatten.length := (List.sublist_flatten_of_mem (List.getElem_mem hk')).length_le
    omega)
  have HBW := hid hB
  have HS := hid hs1
  have sh : Hid (n = 0) ∨ ∃ b off, a = some ⟨b, off, none⟩ := by
    rcases hc.2 with h | ⟨b, off, e, _⟩
    · left; rw [h] at hn; exact hn.symm
    · exact .inr ⟨b, off, e⟩
  obtain ⟨W2, hW2⟩ : ∃ W2, W1.alloc (.cells #[.int .i64 0, .slice none 0 0] 24) = W2 := ⟨_, rfl⟩
  have hB2 : Below W1.heap.size W1 W2 := by rw [← hW2]; exact below_box _ _
  have hs2 : W2.heap.size = W1.heap.size + 1 := by rw [← hW2]; simp
  have hx2 : W2.heap[W1.heap.size]? = some (.cells #[.int .i64 0, .slice none 0 0] 24 (0, 0)) := by rw [← hW2]; exact heap_alloc_new _ _
  have HX0 := hid (show W2.heap[w.heap.size]? = some (.cells #[.int .i64 vars, .slice a n c] 24 (0, 0)) from (hB2.block _ (by omega)).trans hx)
  have HX2 := hid hx2
  have HC2 := hid (HC.out.below hB2)
  have HS2 := hid (show w.heap.size < W2.heap.size ∧ W1.heap.size < W2.heap.size ∧ w.heap.size ≠ W1.heap.size ∧ w.heap.size ≤ W2.heap.size by omega)
  have HBW2 := hid (HBW.out.trans (hB2.mono HBW.out.size))
  have HFIN := hid (show ∀ (wr : World) (o : Option Addr) (d : Nat) (rows : List (List Int × Value)), rows.map (·.1) = cs → Rws W2.heap.size wr (.slice o n d) rows → Below W2.heap.size W2 wr → ((((wr.setCell ⟨w.heap.size, 1, none⟩ (.slice o n d)).setCell ⟨W1.heap.size, 0, none⟩ (.int .i64 vars)).setCell ⟨W1.heap.size, 1, none⟩ (.slice o n d)).heap[W1.heap.size]? = some (.cells #[.int .i64 vars, .slice o n d] 24 (0, 0)) ∧ LentF w vars cs (.returned (.agg #[.int .i64 vars, .slice o n d])) (((wr.setCell ⟨w.heap.size, 1, none⟩ (.slice o n d)).setCell ⟨W1.heap.size, 0, none⟩ (.int .i64 vars)).setCell ⟨W1.heap.size, 1, none⟩ (.slice o n d))) from fun wr o d rows hrw hR hbw => by
    obtain ⟨q1, q2, q3, q4⟩ := HS2.out
    have hb1 := (hbw.block _ q2).trans hx2
    have e1 := heap_set_row (k := 1) (heap_set_row (k := 0) ((heap_other (k := 1) wr (.slice o n d) (fun e => q3 e.symm)).trans hb1) (.int .i64 vars)) (.slice o n d)
    refine ⟨e1, rows, _, rfl, hrw, ⟨?_, fun q hq => ?_, hR.dis⟩, ?_⟩
    · exact own_base (own_set (own_set (own_set hR.row q1 _) q2 _) q2 _) q4
    · exact own_base (own_set (own_set (own_set (hR.each q hq) q1 _) q2 _) q2 _) q4
    · have h0 := HBW2.out.trans (hbw.mono q4)
      exact ((h0.setCell (p := ⟨w.heap.size, 1, none⟩) (Nat.le_refl _) _).setCell (p := ⟨W1.heap.size, 0, none⟩) (by show w.heap.size ≤ W1.heap.size; omega) _).setCell (p := ⟨W1.heap.size, 1, none⟩) (by show w.heap.size ≤ W1.heap.size; omega) _)
  clear hx hB hc hn hl hs1 hB2 hs2 hx2
  rcases sh with Z | ⟨b, off, rfl⟩
  all_goals
    go_enter Try.func11, Try.ntmps11
    go_wp2
    clear hW1 hW2
    go_loopw [3, 4, 5] (fun ov iv _ wr => ∃ (k : Nat) (rows : List (List Int × Value)) (o : Option Addr) (d : Nat), ov = .slice o k d ∧ iv = .int .i64 k ∧ k ≤ n ∧ Hid (rows.map (·.1) = cs.take k) ∧ Hid (Rws W2.heap.size wr (.slice o k d) rows) ∧ Hid (Below W2.heap.size W2 wr)) (fun _ iv _ _ => n - (intOf iv).toNat)
    case atStart => exact ⟨0, [], none, 0, rfl, rfl, Nat.zero_le _, hid (by simp), hid ⟨World.ownsRow_nil _ _ _ _, (fun q hq => by cases hq), List.Pairwise.nil⟩, hid (Below.refl _ _)⟩
    case round =>
      obtain ⟨k, rows, o, d, rfl, rfl, hk, HQ, HR, HB⟩ := hrel
      have x0 := row_cell ((HB.out.block _ HS2.out.1).trans HX0.out) 0
      have x1 := row_cell ((HB.out.block _ HS2.out.1).trans HX0.out) 1
      have f1 := row_frozen ((HB.out.block _ HS2.out.1).trans HX0.out) 1
      simp only [List.getElem?_toArray, List.getElem?_cons_zero, List.getElem?_cons_succ] at x0 x1
      by_cases hlt : k < n
      · first
        | (exfalso; have := Z.out; omega)
        | (have hlt' : (k : Int) < n := by omega
           have hkc : k < cs.length := by rw [HN.out]; exact hlt
           obtain ⟨b2, off2, a', c', e2, _, hcc, hlit, _⟩ := (HC2.out.below HB.out).at hkc
           cases e2
           have hql : rows.length = k := by
             have := congrArg List.length HQ.out
             rw [List.length_map, List.length_take] at this
             omega
           have hle := HL.out k hlt
           have HTK := hid (show cs.take (k + 1) = cs.take k ++ [cs.getD k []] by rw [List.take_succ_eq_append_getElem hkc]; simp [List.getD, hkc])
           obtain ⟨o1, d1, A1, r1, ow1, b1⟩ := lits_arg c' hlit (by omega)
           obtain ⟨g, c3, B, r2, hRB, hbB⟩ := HR.out.push b1 HB.out.size (cs.getD k []) _ ow1 (by omega)
           rw [hql] at r2 hRB
           have HRB := hid hRB
           have HBB := hid (HB.out.trans hbB)
           have HQ2 := hid (show (rows ++ [((cs.getD k [], Value.slice o1 (cs.getD k []).length d1) : List Int × Value)]).map (·.1) = cs.take (k + 1) by rw [HTK.out, List.map_append, HQ.out]; simp)
           have R1 := hid r1
           have R2 := hid r2
           clear r1 r2 hRB hbB ow1 b1 hlit HQ HR HTK hql
           generalize (cs.getD k []).length = ll at *
           go_wp2_with (first
             | (at_builtin; refine wpList_append_run rfl (.tmp 13) (.tmp 18) 39 39 rfl rfl rfl R1.out ?_; clear R1)
             | (at_builtin; refine wpList_append_run rfl (.tmp 20) (.tmp 22) 22 22 rfl rfl rfl R2.out ?_; clear R2))
           go_roundw
           case rel => exact ⟨k + 1, _, _, _, rfl, by go_num, by omega, HQ2, HRB, HBB⟩
           case measure => simp [intOf]; omega)
      · have hge : ¬ (k : Int) < n := by omega
        obtain rfl : k = n := by omega
        obtain ⟨hfb, hfo⟩ := HFIN.out wr o d rows (by rw [HQ.out, List.take_of_length_le (by rw [HN.out]; exact Nat.le_refl _)]) HR.out HB.out
        have HFB := hid hfb
        have HFO := hid hfo
        obtain ⟨V1, hV1⟩ : ∃ V1, wr.setCell ⟨w.heap.size, 1, none⟩ (.slice o k d) = V1 := ⟨_, rfl⟩
        have hb0 : V1.heap[w.heap.size]? = some (.cells #[.int .i64 vars, .slice o k d] 24 (0, 0)) := by rw [← hV1]; exact heap_set_row ((HB.out.block _ HS2.out.1).trans HX0.out) _
        have hb1 : V1.heap[W1.heap.size]? = some (.cells #[.int .i64 0, .slice none 0 0] 24 (0, 0)) := by rw [← hV1]; exact (heap_other wr _ (fun e => HS2.out.2.2.1 e.symm)).trans ((HB.out.block _ HS2.out.2.1).trans HX2.out)
        rw [hV1] at HFB HFO
        have y0 := row_cell hb0 0
        have y1 := row_cell hb0 1
        have z0 := row_cell hb1 0
        have z1 := row_cell hb1 1
        have g0 := row_frozen hb1 0
        have g1 := row_frozen hb1 1
        simp only [List.getElem?_toArray, List.getElem?_cons_zero, List.getElem?_cons_succ] at y0 y1 z0 z1
        obtain ⟨V2, hV2⟩ : ∃ V2, V1.setCell ⟨W1.heap.size, 0, none⟩ (.int .i64 vars) = V2 := ⟨_, rfl⟩
        have hb2 : V2.heap[W1.heap.size]? = some (.cells #[.int .i64 vars, .slice none 0 0] 24 (0, 0)) := by rw [← hV2]; exact heap_set_row hb1 _
        have u1 := row_cell hb2 1
        have v1 := row_frozen hb2 1
        simp only [List.getElem?_toArray, List.getElem?_cons_zero, List.getElem?_cons_succ] at u1
        rw [hV2] at HFB HFO
        clear hb0 hb1 hb2 hfb hfo HFIN HR HB HQ
        go_wp2
        refine bodyPost_ret (results_cell_row rfl _ _ W1.heap.size 24 _ (0, 0) _ rfl HFB.out Try.underlying24 rfl (by kernel_rfl)) rfl ?_
        exact HFO.out
end Go.Proofs.Ytjjanmgeogjngaa

/- The document's checker: a clause stands; nothing else is turned. -/
namespace Go.Proofs.Ytjjanmgeogjngaa
open Go.RowKit Go.Maps
set_option linter.unusedVariables false

/-- The rows of literals are the old ones, or new. -/
def Old (W : World) (hs hs' : List Hd) : Prop := ∀ q ∈ hs', q ∈ hs ∨ ∀ g, q.2.ownBlock = some g → W.heap.size ≤ g
theorem Old.refl (W : World) (hs : List Hd) : Old W hs hs := fun q h => .inl h
theorem Old.on {W W2 : World} {hs hs' : List Hd} (h : Old W2 hs hs') (hb : W.heap.size ≤ W2.heap.size) : Old W hs hs' := fun q hq => (h q hq).imp _root_.id (fun k g e => Nat.le_trans hb (k g e))
/-- A checker that a call left behind: nothing turned but its block and its row. -/
def DkToT (n mb : Nat) (v : Value) (hs : List Hd) (W : World) (S : Ckr.St) (e : Ending) (W' : World) (r : Value) : Prop :=
  e = .returned r ∧ ∃ hs' v', Dk n mb W' S hs' v' ∧ Tw mb v.ownBlock W W' ∧ Old W hs hs'

set_option maxRecDepth 100000 in
set_option maxHeartbeats 4000000 in
theorem put42t {n mb : Nat} {W : World} {S : Ckr.St} {hs : List Hd} {v : Value} (hD : Dk n mb W S hs v) (id : Int) (a : Option Addr) (nl c : Nat) (xs : List Int) (hx : Lits W a xs) (hn : xs.length = nl) (hl : nl ≤ 16777216) (hcl : S.C.length ≤ 4194304) (hal : (Ckr.all S.C).length ≤ 1099511627776) :
    Calls Try.prog 42 #[.pointer (some ⟨mb, 0, none⟩), .int .i64 id, .slice a nl c] W fun e W' => DkToT n mb v hs W ⟨S.C ++ [(id, xs)], id, S.dn || xs.isEmpty⟩ e W' (.tuple #[]) := by
  have hmb : mb < W.heap.size := (Array.getElem?_eq_some_iff.1 hD.blk).1
  have hnW : n ≤ W.heap.size := by have := hD.base; omega
  obtain ⟨o, d, B1, R1, ho1, hB1⟩ := lits_arg c hx (by omega)
  rw [hn] at R1 ho1
  have hD1 := hD.below hB1
  have hlen : hs.length = S.C.length := by rw [← hD.is]; simp
  obtain ⟨o2, c2, B2, R2, hM2, hk2, hz2, q1, q2, q3, hNw⟩ := hD1.mem.push ((id, xs), .slice o nl d) (by rw [hn]; exact own_base ho1 hnW) (by omega) (Nat.le_trans hnW hB1.size)
  simp only at R2
  have hvb : v.ownBlock ≠ some mb := fun e => own_ne hD1.blk hD1.mem.row (by decide) e
  have hmb1 : mb < B1.heap.size := Nat.lt_of_lt_of_le hmb hB1.size
  have b2 : B2.heap[mb]? = some (.cells #[v, .int .i64 S.last, .bool S.dn, .int .i64 (Ckr.all S.C).length] 79 (0, 0)) := (hk2 mb hmb1 hvb).trans hD1.blk
  have x0 : B1.cell? ⟨mb, 0, none⟩ = some v := row_cell hD1.blk 0
  have hT : Tw mb v.ownBlock W B2 := ⟨q1.trans hB1.os, q2.trans hB1.tape, q3.trans hB1.output, Nat.le_trans hB1.size hz2, fun g hg hne hv => (hk2 g (Nat.lt_of_lt_of_le hg hB1.size) (fun e => hv e.symm)).trans (hB1.block g hg)⟩
  obtain ⟨v2, hv2⟩ : ∃ v2, Value.slice o2 (hs.length + 1) c2 = v2 := ⟨_, rfl⟩
  rw [hv2] at R2 hM2 hNw
  have hLA : wrap64 (((Ckr.all S.C).length : Int) + nl) = ((Ckr.all S.C).length : Int) + nl := by unfold wrap64; omega
  have he : xs.isEmpty = ((nl : Int) == 0) := by rw [← hn]; cases xs <;> simp <;> omega
  have b3 := heap_set_row (k := 0) b2 v2
  generalize hW3 : B2.setCell ⟨mb, 0, none⟩ v2 = W3 at b3
  have b4 := heap_set_row (k := 1) b3 (.int .i64 id)
  generalize hW4 : W3.setCell ⟨mb, 1, none⟩ (.int .i64 id) = W4 at b4
  have b5 := heap_set_row (k := 3) b4 (.int .i64 (((Ckr.all S.C).length : Int) + nl))
  generalize hW5 : W4.setCell ⟨mb, 3, none⟩ (.int .i64 (((Ckr.all S.C).length : Int) + nl)) = W5 at b5
  have b6 := heap_set_row (k := 2) b5 (.bool (S.dn || xs.isEmpty))
  generalize hW6 : W5.setCell ⟨mb, 2, none⟩ (.bool (S.dn || xs.isEmpty)) = W6 at b6
  simp only [List.setIfInBounds_toArray, List.set_cons_zero, List.set_cons_succ] at b3 b4 b5 b6
  have OUT : Hid (DkToT n mb v hs W ⟨S.C ++ [(id, xs)], id, S.dn || xs.isEmpty⟩ (.returned (.tuple #[])) W6 (.tuple #[])) := by
    have hne : ∀ g, g ≠ mb → W6.heap[g]? = B2.heap[g]? := fun g hg => by
      rw [← hW6, heap_set_ne _ hg, ← hW5, heap_set_ne _ hg, ← hW4, heap_set_ne _ hg, ← hW3, heap_set_ne _ hg]
    have hsz : W6.heap.size = B2.heap.size := by rw [← hW6, ← hW5, ← hW4, ← hW3]; simp
    refine ⟨rfl, hs ++ [((id, xs), .slice o nl d)], v2, ⟨hD.base, by simp [hD.is], hM2.keep (fun g cs ty ht hg hc => hne g ?_), ?_⟩, ⟨?_, ?_, ?_, by have := hT.size; omega, fun g hg h1 h2 => (hne g h1).trans (hT.block g hg h1 h2)⟩, ?_⟩
    · rintro rfl
      rw [b2] at hc
      injection hc with e1
      injection e1 with _ e2
      rcases ht with h | h <;> (rw [h] at e2; cases e2)
    · rw [b6, Ckr.all_snoc, List.length_append, hn, Int.natCast_add]
    · rw [← hW6, ← hW5, ← hW4, ← hW3]; exact hT.os
    · rw [← hW6, ← hW5, ← hW4, ← hW3]; exact hT.tape
    · rw [← hW6, ← hW5, ← hW4, ← hW3]; exact hT.output
    · intro q hq
      rcases List.mem_append.1 hq with hq | hq
      · exact .inl hq
      · obtain rfl := List.mem_singleton.1 hq
        exact .inr (fun g e => (own_blk ho1 e).1)
  have RN1 := hid R1
  have RN2 := hid R2
  have y0 := row_frozen b2 0
  have y1 := row_frozen b3 1
  have y3 := row_frozen b4 3
  have y2 := row_frozen b5 2
  have z3 : W4.cell? ⟨mb, 3, none⟩ = some (.int .i64 (Ckr.all S.C).length) := row_cell b4 3
  have z2 : W5.cell? ⟨mb, 2, none⟩ = some (.bool S.dn) := row_cell b5 2
  have u0 : B2.cell? ⟨mb, 0, none⟩ = some v := row_cell b2 0
  have u1 : W3.cell? ⟨mb, 1, none⟩ = some (.int .i64 S.last) := row_cell b3 1
  rw [he] at hW6 OUT ⊢
  obtain ⟨aL, cL, rfl⟩ := own_slc hD.mem.row
  subst hv2
  clear hD hD1 hx hM2 hk2 hT b2 b3 b4 b5 b6 ho1 hB1 R1 R2 hNw hvb q1 q2 q3 hz2 hal he hmb1 hlen
  generalize ((Ckr.all S.C).length : Int) = LA at *
  generalize hs.length = m at *
  cases hdn : S.dn
  all_goals
    rw [hdn] at z2 hW6 OUT
    go_enter Try.func42, Try.ntmps42
    go_wp2_with (first
      | (at_builtin; refine wpList_append_run rfl (.tmp 7) (.tmp 8) 39 39 rfl rfl rfl RN1.out ?_; clear RN1)
      | (at_builtin; refine wpList_append_run rfl (.tmp 14) (.tmp 18) 77 77 rfl rfl rfl RN2.out ?_; clear RN2))
    go_end0
    subst hW6
    exact OUT.out
end Go.Proofs.Ytjjanmgeogjngaa

/- Clauses are deleted, by the document: the call; nothing else is turned. -/
namespace Go.Proofs.Ytjjanmgeogjngaa
open Go.RowKit Go.Maps
set_option linter.unusedVariables false
set_option linter.unusedSimpArgs false

theorem Tw.of_below {cb : Nat} {t : Option Nat} {W W' : World} (h : Below W.heap.size W W') : Tw cb t W W' := ⟨h.os, h.tape, h.output, h.size, fun g hg _ _ => h.block g hg⟩
theorem Tw.tr {cb : Nat} {W W1 W2 : World} {t : Option Nat} (h : Tw cb t W W1) (h1 : Tw cb none W1 W2) : Tw cb t W W2 :=
  ⟨h1.os.trans h.os, h1.tape.trans h.tape, h1.output.trans h.output, Nat.le_trans h.size h1.size, fun g hg hc ht => (h1.block g (Nat.lt_of_lt_of_le hg h.size) hc (by simp)).trans (h.block g hg hc ht)⟩
theorem Tw.rt {cb : Nat} {W W1 W2 : World} {t : Option Nat} (h : Below W.heap.size W W1) (h1 : Tw cb t W1 W2) : Tw cb t W W2 :=
  ⟨h1.os.trans h.os, h1.tape.trans h.tape, h1.output.trans h.output, Nat.le_trans h.size h1.size, fun g hg hc ht => (h1.block g (Nat.lt_of_lt_of_le hg h.size) hc ht).trans (h.block g hg)⟩
theorem Tw.cell {cb : Nat} {t : Option Nat} {W W1 : World} (h : Tw cb t W W1) (k : Nat) (u : Value) : Tw cb t W (W1.setCell ⟨cb, k, none⟩ u) := ⟨h.os, h.tape, h.output, by simpa [World.setCell] using h.size, fun g hg hc ht => (heap_other W1 u hc).trans (h.block g hg hc ht)⟩
theorem Tw.any {cb : Nat} {W W' : World} {t : Option Nat} (h : Tw cb none W W') : Tw cb t W W' := ⟨h.os, h.tape, h.output, h.size, fun g hg hc _ => h.block g hg hc (by simp)⟩
theorem Tw.low {cb n : Nat} {W W' : World} (h : Tw cb none W W') (hn : n ≤ cb) (hw : n ≤ W.heap.size) : Below n W W' := ⟨h.os, h.tape, h.output, h.size, fun g hg => h.block g (by omega) (by omega) (by simp)⟩
/-- What a step of the document's checker leaves behind. -/
def DkOutT (n mb : Nat) (v : Value) (hs : List Hd) (W : World) (r : Int) (S : Ckr.St) (e : Ending) (W' : World) : Prop := e = .returned (.int .i64 r) ∧ (∃ hs' v', Dk n mb W' S hs' v' ∧ Old W hs hs') ∧ Tw mb v.ownBlock W W'

set_option maxRecDepth 100000 in
set_option maxHeartbeats 8000000 in
theorem drop47t {n mb : Nat} {W0 W : World} {S : Ckr.St} {hs : List Hd} {v : Value} (hD : Dk n mb W S hs v) (hG : Ckr.Good S.C S.last) (hcl : S.C.length ≤ 4194304) (hW : Below W0.heap.size W0 W) (hnn : W0.heap.size ≤ n) (ah : Option Addr) (nh ch : Nat) (ids : List Int) (hh : Hnts W0 ah ids) (hn : ids.length = nh) (hnb : nh ≤ 1048576) (d : Int × Ckr.St) (hd : d = if Ckr.remOK S.C ids then (0, ⟨Ckr.dropL S.C ids, S.last, S.dn⟩) else (5, S)) :
    Calls Try.prog 47 #[.pointer (some ⟨mb, 0, none⟩), .slice ah nh ch] W fun e W' => DkOutT n mb v hs W d.1 d.2 e W' := by
  have HD := hid hD
  have HG := hid hG
  have HCl := hid hcl
  have HW := hid hW
  have HH := hid hh
  have HN := hid hn
  have HDD := hid hd
  have hnW : n ≤ W.heap.size := by have := hD.base; have := (Array.getElem?_eq_some_iff.1 hD.blk).1; omega
  have sh : Hid (nh = 0) ∨ ∃ b off, ah = some ⟨b, off, none⟩ ∧ b < W0.heap.size := by
    rcases hh.2 with e | ⟨b, off, e, hl, _⟩
    · left; rw [e] at hn; exact hn.symm
    · exact .inr ⟨b, off, e, hl⟩
  clear hD hG hcl hW hh hn hd
  rcases sh with Z | ⟨b, off, rfl, hbl⟩
  all_goals
    go_enter Try.func47, Try.ntmps47
    go_wp2
    go_loopw [5, 6] (fun iv _ wr => ∃ k : Nat, iv = .int .i64 k ∧ k ≤ nh ∧ Hid (∀ j, j < k → Ckr.look S.C (ids.getD j 0) ≠ none) ∧ Hid (∀ j i, j < k → i < j → ids.getD i 0 ≠ ids.getD j 0) ∧ Hid (Drawn W wr)) (fun iv _ _ => nh - (intOf iv).toNat)
    case atStart => exact ⟨0, rfl, Nat.zero_le _, hid (fun j h => by omega), hid (fun j i h => by omega), hid (Drawn.refl _)⟩
    case round =>
      obtain ⟨k, rfl, hk, HJ1, HJ2, HDw⟩ := hrel
      by_cases hlt : k < nh
      · first
        | (exfalso; have := Z.out; omega)
        | (have hlt' : (k : Int) < nh := by omega
           have hki : k < ids.length := by rw [HN.out]; exact hlt
           have hall : ∀ j, j < ids.length → wr.cell? ⟨b, off + j, none⟩ = some (.int .i64 (ids.getD j 0)) := fun j hj => by
             rw [HDw.out.cell]
             obtain ⟨b', off', e, hb', hc', _, _⟩ := Row.at (HH.out.below HW.out) hj
             cases e
             exact hc'
           have HAll := hid hall
           have hcw := hall k hki
           have C63 := hid (find63 (HD.out.below HDw.out.below') (ids.getD k 0) HCl.out)
           have HRF := hid (rem_first (C := S.C) hki)
           have HRT := hid (fun j hj => rem_twice (C := S.C) (j := j) hki hj)
           have HJ1n := hid (show Ckr.look S.C (ids.getD k 0) ≠ none → ∀ j, j < k + 1 → Ckr.look S.C (ids.getD j 0) ≠ none from fun q j hj => by
             rcases Nat.lt_or_ge j k with h | h
             · exact HJ1.out j h
             · obtain rfl : j = k := by omega
               exact q)
           have HJ2n := hid (show (∀ i, i < k → ids.getD i 0 ≠ ids.getD k 0) → ∀ j i, j < k + 1 → i < j → ids.getD i 0 ≠ ids.getD j 0 from fun q j i hj hi => by
             rcases Nat.lt_or_ge j k with h | h
             · exact HJ2.out j i h hi
             · obtain rfl : j = k := by omega
               exact q i hi)
           generalize hidk : ids.getD k 0 = id at hcw C63 HRF HRT HJ1n HJ2n
           have HIK := hid hidk
           clear hall hidk
           go_wp2_with fail
           go_at_call 63
           refine C63.out.mono ?_
           clear C63
           rintro e w2 ⟨z, rfl, hfind, hw2⟩
           rw [hw2]
           clear hw2
           rcases hfind with ⟨rfl, hnone⟩ | ⟨j, hj, rfl, hid1, hsome⟩
           · have HZ : Hid (DkOutT n mb v hs W d.1 d.2 (.returned (.int .i64 5)) wr) := by
               have e := HDD.out
               rw [HRF.out hnone] at e
               rw [e]
               exact ⟨rfl, ⟨hs, v, HD.out.below HDw.out.below', Old.refl _ _⟩, Tw.of_below HDw.out.below'⟩
             clear hnone
             go_wp2
             go_ret
             exact HZ.out
           · have HJ1' := hid (HJ1n.out (by rw [hsome]; simp))
             have hjb : ¬ (j : Int) < 0 := by omega
             clear hsome hid1 hj
             go_wp2
             obtain ⟨wi, hwi⟩ : ∃ wi, wi = wr := ⟨wr, rfl⟩
             subst hwi
             clear hcw
             go_loopw [6] (fun kv wr => ∃ u : Nat, kv = .int .i64 u ∧ u ≤ k ∧ Hid (∀ i, i < u → ids.getD i 0 ≠ id) ∧ Hid (Drawn wi wr)) (fun kv _ => k - (intOf kv).toNat)
             case atStart => exact ⟨0, rfl, Nat.zero_le _, hid (fun i h => by omega), hid (Drawn.refl _)⟩
             case round =>
               obtain ⟨u, rfl, hu, HU, HDu⟩ := hrel
               by_cases huk : u < k
               · have huk' : (u : Int) < k := by omega
                 have hun : (u : Int) < nh := by omega
                 have c1 := HAll.out u (by rw [HN.out]; omega)
                 have c2 := HAll.out k (by rw [HN.out]; exact hlt)
                 rw [HIK.out] at c2
                 rw [← HDu.out.cell] at c1 c2
                 have HUn := hid (show ids.getD u 0 ≠ id → ∀ i, i < u + 1 → ids.getD i 0 ≠ id from fun q i hi => by
                   rcases Nat.lt_or_ge i u with h | h
                   · exact HU.out i h
                   · obtain rfl : i = u := by omega
                     exact q)
                 have HT := hid (HRT.out u huk)
                 generalize ids.getD u 0 = y at c1 HUn HT
                 by_cases hq : y = id
                 · have hqb : (y == id) = true := by simpa using hq
                   have HZ : Hid (∀ q, DkOutT n mb v hs W d.1 d.2 (.returned (.int .i64 5)) (wr.drewN q)) := fun q => by
                     have e := HDD.out
                     rw [HT.out hq] at e
                     rw [e]
                     have hdd : Drawn W (wr.drewN q) := (HDw.out.trans HDu.out).drewN q
                     exact ⟨rfl, ⟨hs, v, HD.out.below hdd.below', Old.refl _ _⟩, Tw.of_below hdd.below'⟩
                   clear hq
                   go_wp2
                   go_quiet (fail)
                   go_wp2
                   go_ret
                   exact HZ.out _
                 · have hqb : (y == id) = false := by simpa using hq
                   have HU2 := hid (HUn.out hq)
                   clear hq
                   go_wp2
                   go_quiet (fail)
                   go_wp2
                   go_roundw
                   case rel => exact ⟨u + 1, by go_num, by omega, HU2, hid (HDu.out.drewN _)⟩
                   case measure => simp [intOf]; omega
               · have huk' : ¬ (u : Int) < k := by omega
                 have HJ2' := hid (HJ2n.out (fun i hi => HU.out i (by omega)))
                 go_wp2
                 go_roundw
                 case rel => exact ⟨k + 1, by go_num, by omega, HJ1', HJ2', hid (HDw.out.trans HDu.out)⟩
                 case measure => simp [intOf]; omega)
      · have hge : ¬ (k : Int) < nh := by omega
        have HOK := hid (rem_ok (C := S.C) (ids := ids) (fun j hj => HJ1.out j (by rw [HN.out] at hj; omega)) (fun j i hj hi => HJ2.out j i (by rw [HN.out] at hj; omega) hi))
        have HBw := hid (show Tw mb none W wr from Tw.of_below HDw.out.below')
        have HDk := hid (HD.out.below HDw.out.below')
        clear HJ1 HJ2 hk
        obtain ⟨wx, hwx⟩ : ∃ wx, wx = wr := ⟨wr, rfl⟩
        subst hwx
        go_wp2
        go_loopw [7, 8, 9] (fun iv _ _ wr => ∃ t : Nat, iv = .int .i64 t ∧ t ≤ nh ∧ Hid (∃ hs' v', Dk n mb wr ⟨Ckr.dropL S.C (ids.take t), S.last, S.dn⟩ hs' v' ∧ ∀ q ∈ hs', q ∈ hs) ∧ Hid (Tw mb none W wr)) (fun iv _ _ _ => nh - (intOf iv).toNat)
        case atStart => exact ⟨0, rfl, Nat.zero_le _, hid ⟨hs, v, HDk.out, fun q h => h⟩, HBw⟩
        case round =>
          clear HDk HBw
          obtain ⟨t, rfl, ht, HDt, HB⟩ := hrel
          by_cases htl : t < nh
          · first
            | (exfalso; have := Z.out; omega)
            | (have htl' : (t : Int) < nh := by omega
               have hti : t < ids.length := by rw [HN.out]; exact htl
               obtain ⟨hs1, v1, hDt, hsub⟩ := HDt.out
               have hc := Row.at HH.out hti
               obtain ⟨b', off', e, hb', hc', _, _⟩ := hc
               cases e
               have hcw := ((HW.out.trans ((HB.out.low hDt.base hnW).mono hnn)).cell (p := ⟨b, off + t, none⟩) hb').trans hc'
               have hlk : Ckr.look (Ckr.dropL S.C (ids.take t)) (ids.getD t 0) ≠ none := by
                 have hok := HOK.out
                 unfold Ckr.remOK at hok
                 rw [Bool.and_eq_true] at hok
                 have h1 := List.all_eq_true.1 hok.1 _ (Lra.getD_mem ids t hti)
                 have h2 := of_decide_eq_true hok.2
                 rw [Ckr.look_dropL, if_neg]
                 · intro e; rw [e] at h1; cases h1
                 · intro hm
                   obtain ⟨i, hi, e⟩ := List.mem_iff_getElem.1 hm
                   have hit : i < t := by simp at hi; omega
                   have := (List.pairwise_iff_getElem.1 h2) i t (by omega) hti hit
                   apply this
                   simp [List.getD, hti] at e
                   exact e
               have HSn := hid (show Ckr.dropL S.C (ids.take (t + 1)) = Ckr.drop1 (Ckr.dropL S.C (ids.take t)) (ids.getD t 0) by rw [Lra.take_snoc ids t hti, Ckr.dropL_snoc])
               have hGt := Ckr.Good.dropL (ids.take t) HG.out
               have hclt : (Ckr.dropL S.C (ids.take t)).length ≤ 4194304 := Nat.le_trans (Ckr.dropL_len (ids.take t) S.C) HCl.out
               have C63 := hid (find63 hDt (ids.getD t 0) hclt)
               simp only at C63
               generalize ids.getD t 0 = id at hcw hlk HSn C63
               generalize Ckr.dropL S.C (ids.take t) = C1 at hDt hlk HSn hGt hclt C63
               clear hc' hb'
               go_wp2_with fail
               go_at_call 63
               refine C63.out.mono ?_
               clear C63
               rintro e w2 ⟨z, rfl, hfind, hw2⟩
               rw [hw2]
               clear hw2 hcw
               rcases hfind with ⟨_, hnone⟩ | ⟨j, hj, rfl, hid1, hsm⟩
               · exact absurd hnone hlk
               have his : hs1.map (·.1) = C1 := hDt.is
               have hlen : hs1.length = C1.length := by rw [← his]; simp
               have hjh : j < hs1.length := by omega
               have hjc : hs1[j].1 = C1[j] := by
                 have e1 : (hs1.map (·.1))[j]? = C1[j]? := by rw [his]
                 rw [List.getElem?_map, List.getElem?_eq_getElem hjh, List.getElem?_eq_getElem hj] at e1
                 simpa using e1
               obtain ⟨g, cv, a5, c5, hve, y00, y1, hq2⟩ := hDt.mem.at hjh
               rw [hjc] at y1
               have hdrop : Ckr.drop1 C1 id = C1.take j ++ C1.drop (j + 1) := by rw [← hid1]; exact Ckr.drop1_at hGt.sorted hj
               have hall := Ckr.all_take_drop hj
               have hfew : (Ckr.all C1).length ≤ 16777216 := hGt.few
               have hmb : mb < wr.heap.size := (Array.getElem?_eq_some_iff.1 hDt.blk).1
               have hnmb := hDt.base
               subst hve
               have hblk := hDt.blk
               simp only at hblk
               have x0 := row_cell hblk 0
               have x3 := row_cell hblk 3
               have f3 := row_frozen hblk 3
               simp only [List.getElem?_toArray, List.getElem?_cons_zero, List.getElem?_cons_succ] at x0 x3
               obtain ⟨W2, hW2⟩ : ∃ W2, (wr.setCell ⟨mb, 3, none⟩ (.int .i64 ((Ckr.all (C1.take j ++ C1.drop (j + 1))).length : Int))).drew = W2 := ⟨_, rfl⟩
               have hs2 : W2.heap.size = wr.heap.size := by rw [← hW2]; simp [World.setCell]
               have hother : ∀ g2, g2 ≠ mb → W2.heap[g2]? = wr.heap[g2]? := fun g2 h2 => by rw [← hW2]; exact heap_other wr _ h2
               have hblk2 : W2.heap[mb]? = some (.cells #[.slice (some ⟨g, 0, none⟩) hs1.length cv, .int .i64 S.last, .bool S.dn, .int .i64 ((Ckr.all (C1.take j ++ C1.drop (j + 1))).length : Int)] 79 (0, 0)) := by rw [← hW2]; exact heap_set_row hblk _
               have hM2 : Hm n W2 (.slice (some ⟨g, 0, none⟩) hs1.length cv) hs1 := hDt.mem.keep (fun g2 cs2 ty hty _ hg2 => hother g2 (fun e => by
                 rw [e, hblk] at hg2
                 injection hg2 with hg2
                 injection hg2 with _ hg2 _
                 rcases hty with rfl | rfl <;> cases hg2))
               have hB2 : Tw mb none W W2 := by
                 rw [← hW2]
                 have h3 := HB.out.cell 3 (.int .i64 ((Ckr.all (C1.take j ++ C1.drop (j + 1))).length : Int))
                 exact ⟨h3.os, h3.tape, h3.output, h3.size, h3.block⟩
               obtain ⟨o1, c1, V1, hr1, hbV1, hsec⟩ := hM2.erase rfl (by omega) (t := j) hjh (by rw [hs2]; omega)
               have hcv : hs1.length ≤ cv := by
                 rcases hM2.row.2 with ⟨e, _⟩ | ⟨g2, c2, cur, e, _, _, h3, _⟩
                 · cases e
                 · injection e with _ _ e; omega
               have x0b := row_cell hblk2 0
               simp only [List.getElem?_toArray, List.getElem?_cons_zero] at x0b
               have x0c := (hbV1.cell (p := ⟨mb, 0, none⟩) (by rw [hs2]; exact hmb)).trans x0b
               have hnc : ((Ckr.all C1).length : Int) - (C1[j].2.length : Int) = ((Ckr.all (C1.take j ++ C1.drop (j + 1))).length : Int) := by omega
               have hAb : ((Ckr.all C1).length : Int) ≤ 16777216 := by omega
               have hCb : (C1[j].2.length : Int) ≤ (Ckr.all C1).length := by omega
               have HFin := hid (fun (o2 : Option Addr) (L1 c2 : Nat) (V2 : World) (hL1 : hs1.length - 1 = L1) (hM3 : Hm n V2 (.slice o2 L1 c2) (hs1.take j ++ hs1.drop (j + 1))) (hb3 : Below W2.heap.size W2 V2) => show (∃ hs' v', Dk n mb (V2.setCell ⟨mb, 0, none⟩ (.slice o2 L1 c2)) ⟨Ckr.dropL S.C (ids.take (t + 1)), S.last, S.dn⟩ hs' v' ∧ ∀ q ∈ hs', q ∈ hs) ∧ Tw mb none W (V2.setCell ⟨mb, 0, none⟩ (.slice o2 L1 c2)) by
                 have hbV : V2.heap[mb]? = _ := (hb3.block mb (by rw [hs2]; exact hmb)).trans hblk2
                 refine ⟨⟨hs1.take j ++ hs1.drop (j + 1), .slice o2 L1 c2, ⟨hnmb, ?_, hM3.keep (fun g2 cs2 ty hty _ hg2 => heap_other V2 _ (fun e => by
                   rw [e, hbV] at hg2
                   injection hg2 with hg2
                   injection hg2 with _ hg2 _
                   rcases hty with rfl | rfl <;> cases hg2)), ?_⟩, fun q hq => hsub q (by rcases List.mem_append.1 hq with h | h; exact List.mem_of_mem_take h; exact List.mem_of_mem_drop h)⟩, ?_⟩
                 · simp only
                   rw [HSn.out, hdrop, List.map_append, List.map_take, List.map_drop, his]
                 · simp only
                   rw [HSn.out, hdrop]
                   exact heap_set_row hbV _
                 · exact (hB2.tr (Tw.of_below hb3)).cell 0 _)
               have HR1 := hid hr1
               have HSec := hid hsec
               have hjm : (j : Int) < hs1.length := by omega
               have hjcv : (j : Int) ≤ cv := by omega
               have hL22 : hs1.length ≤ 4194304 := by omega
               have hfV : ∀ V2, Below W2.heap.size W2 V2 → V2.cell? ⟨mb, 0, none⟩ = some (.slice (some ⟨g, 0, none⟩) hs1.length cv) ∧ V2.frozen? ⟨mb, 0, none⟩ = false := fun V2 hb => by
                 have hbV : V2.heap[mb]? = _ := (hb.block mb (by rw [hs2]; exact hmb)).trans hblk2
                 exact ⟨row_cell hbV 0, row_frozen hbV 0⟩
               have HFV := hid hfV
               have hNCe : ∃ NC, C1[j].2.length = NC := ⟨_, rfl⟩
               obtain ⟨NC, hNC⟩ := hNCe
               rw [hNC] at y1 hnc hCb
               clear hr1 hsec hM2 hB2 hblk2 hblk hlk hGt his hdrop hall hfV y00 hq2 hjc hid1 hfew hother hNC hlen hclt hDt
               clear hsm
               clear hjh hj
               generalize hLL : hs1.length = LL at x0 x0b x0c HFV HFin HSec hjm hcv hL22
               generalize hA3 : ((Ckr.all (C1.take j ++ C1.drop (j + 1))).length : Int) = A3 at hnc hW2
               generalize hAA : ((Ckr.all C1).length : Int) = AA at x3 hnc hAb hCb
               clear hLL hA3 hAA
               go_wp2
               go_region
               obtain ⟨L1, hL1⟩ : ∃ L1, LL - 1 = L1 := ⟨_, rfl⟩
               have HL1 := hid hL1
               clear x0 x3 f3 y1 hW2 hnc hAb hCb
               by_cases hcut : cv = j + 1
               all_goals
                 first
                 | (subst hcut; obtain ⟨o2, c2, V2, hr2, hM3, hbV2⟩ := HSec.out ⟨g, 0, none⟩ 0 (fun h => by omega); rw [show LL - (j + 1) = 0 by omega] at hr2)
                 | (obtain ⟨o2, c2, V2, hr2, hM3, hbV2⟩ := HSec.out ⟨g, (j + 1) * 2, none⟩ (cv - (j + 1)) (fun _ => rfl))
                 rw [hL1] at hr2 hM3
                 obtain ⟨hx6, hf6⟩ := HFV.out V2 hbV2
                 obtain ⟨hdk, hbw⟩ := HFin.out o2 L1 c2 V2 hL1 hM3 hbV2
                 have HDK := hid hdk
                 have HBW := hid hbw
                 have HR2 := hid hr2
                 clear hr2 hM3 hbV2 hdk hbw hL1 HFin HFV HSec
                 go_wp2_with (first
                   | (at_builtin; refine wpList_append_run rfl (.tmp 66) (.tmp 72) 77 77 rfl rfl rfl HR1.out ?_; clear HR1)
                   | (at_builtin; refine wpList_append_run rfl (.tmp 74) (.tmp 81) 77 77 rfl rfl rfl HR2.out ?_; clear HR2))
                 go_roundw
                 case rel => exact ⟨t + 1, by go_num, by omega, HDK, HBW⟩
                 case measure => simp [intOf]; omega)
          · have htl' : ¬ (t : Int) < nh := by omega
            have HZ : Hid (DkOutT n mb v hs W d.1 d.2 (.returned (.int .i64 0)) wr) := by
              have e := HDD.out
              rw [HOK.out, if_pos rfl] at e
              rw [e]
              have q := HDt.out
              rw [List.take_of_length_le (by rw [HN.out]; omega)] at q
              obtain ⟨hs', v', q1, q2⟩ := q
              exact ⟨rfl, ⟨hs', v', q1, fun q hq => .inl (q2 q hq)⟩, HB.out.any⟩
            go_wp2
            go_ret
            exact HZ.out
end Go.Proofs.Ytjjanmgeogjngaa

/- A step of the document's checker; nothing else is turned. -/
namespace Go.Proofs.Ytjjanmgeogjngaa
open Go.RowKit Go.Maps
set_option linter.unusedVariables false
set_option linter.unusedSimpArgs false

theorem DkOutT.on {n mb : Nat} {v : Value} {hs : List Hd} {W W2 W' : World} {r : Int} {S : Ckr.St} {e : Ending} (h : DkOutT n mb v hs W2 r S e W') (hb : Below W.heap.size W W2) : DkOutT n mb v hs W r S e W' := by
  obtain ⟨h1, ⟨hs', v', h2, h3⟩, h4⟩ := h
  exact ⟨h1, ⟨hs', v', h2, h3.on hb.size⟩, Tw.rt hb h4⟩

set_option maxRecDepth 100000 in
set_option maxHeartbeats 8000000 in
theorem step17t {n mb : Nat} {W0 W : World} {S : Ckr.St} {hs : List Hd} {v : Value} (hD : Dk n mb W S hs v) (hG : Ckr.Good S.C S.last) (hcl : S.C.length ≤ 4194304) (hal : (Ckr.all S.C).length ≤ 8388608) (hW : Below W0.heap.size W0 W) (hnn : W0.heap.size ≤ n) (s : Lra.Stp) (a1 : Option Addr) (c1 : Nat) (a2 : Option Addr) (c2 : Nat) (hst : StpV W0 a1 a2 s) (hc2 : s.hints.length ≤ c2) (hc2m : c2 ≤ maxLen) (hl1 : s.lits.length ≤ 1048576) (hl2 : s.hints.length ≤ 1048576) :
    Calls Try.prog 17 #[.pointer (some ⟨mb, 0, none⟩), sval s a1 c1 a2 c2] W fun e W' => DkOutT n mb v hs W (Ckr.stepP S s).1 (Ckr.stepP S s).2 e W' := by
  have hB := below_box W (.cells #[.int .u8 s.kind, .int .i64 s.id, .slice a1 s.lits.length c1, .slice a2 s.hints.length c2] 44)
  have hx := heap_alloc_new W (.cells #[.int .u8 s.kind, .int .i64 s.id, .slice a1 s.lits.length c1, .slice a2 s.hints.length c2] 44)
  have hnW : n ≤ W.heap.size := by have := hD.base; have := (Array.getElem?_eq_some_iff.1 hD.blk).1; omega
  unfold sval
  generalize hW1 : W.alloc (.cells #[.int .u8 s.kind, .int .i64 s.id, .slice a1 s.lits.length c1, .slice a2 s.hints.length c2] 44) = W1 at hB hx
  have hxl := (Array.getElem?_eq_some_iff.1 hx).1
  have HX := hid (fun X (hX : Below W1.heap.size W1 X) => show X.cell? ⟨W.heap.size, 0, none⟩ = some (.int .u8 s.kind) ∧ X.cell? ⟨W.heap.size, 1, none⟩ = some (.int .i64 s.id) ∧ X.cell? ⟨W.heap.size, 2, none⟩ = some (.slice a1 s.lits.length c1) ∧ X.cell? ⟨W.heap.size, 3, none⟩ = some (.slice a2 s.hints.length c2) ∧ X.cell? ⟨mb, 1, none⟩ = some (.int .i64 S.last) ∧ X.cell? ⟨mb, 3, none⟩ = some (.int .i64 (Ckr.all S.C).length) ∧ Dk n mb X S hs v ∧ Below W.heap.size W X from by
    have hX2 : Below W.heap.size W X := hB.trans (hX.mono (by omega))
    have hxx := (hX.block W.heap.size hxl).trans hx
    have hdd := hD.below hX2
    exact ⟨row_cell hxx 0, row_cell hxx 1, row_cell hxx 2, row_cell hxx 3, row_cell hdd.blk 1, row_cell hdd.blk 3, hdd, hX2⟩)
  have C46 := hid (may21 s a1 c1 a2 c2 W1 (hst.below (hW.trans (hB.mono hW.size))))
  unfold sval at C46
  have HG := hid hG
  have HW := hid hW
  have HST := hid hst
  have HC2 := hid (And.intro hc2 hc2m)
  have HKd := hid (fun h => may_kind (s := s) h)
  obtain ⟨d, hd⟩ : ∃ d, Ckr.stepP S s = d := ⟨_, rfl⟩
  have HDD := hid hd
  rw [hd]
  obtain ⟨z0, z1, z2, z3, _, _, _, _⟩ := HX.out W1 (Below.refl _ _)
  clear hB hx hD hG hW hst hc2 hc2m hd
  obtain ⟨bm, hbm⟩ : ∃ bm, Lra.may s = bm := ⟨_, rfl⟩
  rw [hbm] at C46
  have HBM := hid hbm
  clear hbm
  go_enter Try.func17, Try.ntmps17
  go_wp2_with fail
  go_at_call 46
  refine C46.out.mono ?_
  clear C46 z0 z1 z2 z3 hW1
  rintro e W2 ⟨rfl, hb2⟩
  obtain ⟨z0, z1, z2, z3, m1, m3, hdk, hB2⟩ := HX.out W2 hb2
  have HDK := hid hdk
  have HB2 := hid hB2
  have HB12 := hid hb2
  clear hdk hB2 hb2
  cases bm
  · have HZ : Hid (DkOutT n mb v hs W d.1 d.2 (.returned (.int .i64 40)) W2) := by
      rw [← HDD.out, Ckr.stepP_no HBM.out]
      exact ⟨rfl, ⟨hs, v, HDK.out, Old.refl _ _⟩, Tw.of_below HB2.out⟩
    go_wp2
    go_ret
    exact HZ.out
  · by_cases hk2 : s.kind = 2
    · have C47 := hid (drop47t HDK.out HG.out hcl (HW.out.trans (HB2.out.mono HW.out.size)) hnn a2 s.hints.length c2 s.hints HST.out.h rfl hl2 d (by rw [← HDD.out, Ckr.stepP_rem HBM.out hk2]))
      have hkb : (s.kind == 2) = true := by simpa using hk2
      generalize s.kind = kd at z0 hkb
      clear hk2
      go_wp2_with (go_at_call 47; refine C47.out.mono ?_; clear C47; rintro e W3 hR; have OUT := hid (hR.on HB2.out); obtain ⟨rfl, _⟩ := hR)
      go_ret
      exact OUT.out
    · have hk1 : s.kind = 1 := by rcases HKd.out HBM.out with h | h; exact h; exact absurd h hk2
      have hkb : (s.kind == 2) = false := by simpa using hk2
      obtain ⟨hla, hha⟩ := may_add HBM.out hk1
      have HLA := hid hla
      have HHA := hid hha
      have HId := hid (Ckr.stepP_id (S := S) HBM.out hk1)
      have HFo := hid (Ckr.stepP_fol (S := S) HBM.out hk1)
      have HAd := hid (Ckr.stepP_add (S := S) HBM.out hk1)
      have HL1 := hid hl1
      clear hla hha
      by_cases hid1 : s.id ≤ S.last
      · have HZ : Hid (∀ q, DkOutT n mb v hs W d.1 d.2 (.returned (.int .i64 62)) (W2.drewN q)) := fun q => by
          rw [← HDD.out, HId.out hid1]
          have hdr : Drawn W2 (W2.drewN q) := ⟨q, rfl⟩
          exact ⟨rfl, ⟨hs, v, HDK.out.below hdr.below', Old.refl _ _⟩, Tw.of_below (HB2.out.trans (hdr.below'.mono HB2.out.size))⟩
        generalize s.kind = kd at z0 hkb
        generalize s.id = sid at z1 hid1
        clear hk2 hk1
        go_wp2
        go_quiet (fail)
        go_wp2
        go_ret
        exact HZ.out _
      · have hL : Lit1 s.lits := fun x hx => (HLA.out x hx).2
        have C48 := hid (fun X (hX : Below W2.heap.size W2 X) => follows48 (HDK.out.below hX) HG.out hcl (Ckr.len_le hal) a1 s.lits.length c1 s.lits (HST.out.l.below (HW.out.trans ((HB2.out.trans (hX.mono HB2.out.size)).mono HW.out.size))) rfl hL hl1 a2 s.hints.length c2 s.hints (HST.out.h.below (HW.out.trans ((HB2.out.trans (hX.mono HB2.out.size)).mono HW.out.size))) rfl hl2 HC2.out.1 HC2.out.2 HHA.out)
        rw [Ckr.followsD_eq HG.out (fun x hx => (HLA.out x hx).1)] at C48
        obtain ⟨R, hR⟩ : ∃ R, Ckr.followsF (Ckr.look S.C) (Ckr.all S.C) s.lits s.hints = R := ⟨_, rfl⟩
        have HFo2 := hid (HFo.out hid1)
        have HAd2 := hid (HAd.out hid1)
        rw [hR] at C48 HFo2 HAd2
        have C42 := hid (fun X (hX : Below W2.heap.size W2 X) => put42t (HDK.out.below hX) s.id a1 s.lits.length c1 s.lits (HST.out.l.below (HW.out.trans ((HB2.out.trans (hX.mono HB2.out.size)).mono HW.out.size))) rfl (by omega) hcl (by omega))
        have HCells := hid (fun X (hX : Below W2.heap.size W2 X) => HX.out X (HB12.out.trans (hX.mono HB12.out.size)))
        have hsum : ¬ (16777216 : Int) < ((Ckr.all S.C).length : Int) + (s.lits.length : Int) := by omega
        have hlim : ¬ (16777216 : Int) - ((Ckr.all S.C).length : Int) < (s.lits.length : Int) := by omega
        have HLim := hid hlim
        have hAA : (0 : Int) ≤ ((Ckr.all S.C).length : Int) ∧ ((Ckr.all S.C).length : Int) ≤ 8388608 := by omega
        have hNN : (s.lits.length : Int) ≤ 1048576 := by omega
        obtain ⟨NL, hNL⟩ : ∃ NL, s.lits.length = NL := ⟨_, rfl⟩
        obtain ⟨NH, hNH⟩ : ∃ NH, s.hints.length = NH := ⟨_, rfl⟩
        rw [hNL] at z2 C48 C42 hsum hNN HCells
        rw [hNH] at z3 C48 HCells
        obtain ⟨AA, hAAe⟩ : ∃ AA, ((Ckr.all S.C).length : Int) = AA := ⟨_, rfl⟩
        rw [hAAe] at m3 hsum hAA HCells
        generalize s.kind = kd at z0 hkb HCells
        generalize hsid : s.id = sid at z1 hid1 C42 HCells HAd2
        clear hk2 hk1 hR hNL hNH hAAe HX hlim HFo HAd HId hL
        go_wp2
        go_quiet (fail)
        go_wp2_with fail
        go_at_call 48
        refine (C48.out _ (below_drewN _ _ _)).mono ?_
        clear C48
        rintro e W3 ⟨rfl, hb3⟩
        have hb23 : Below W2.heap.size W2 W3 := (below_drewN _ _ _).trans (hb3.mono (Nat.le_refl _))
        have HB3 := hid (HB2.out.trans (hb23.mono HB2.out.size))
        obtain ⟨_, t1, t2, _, _, t6, hdk3, _⟩ := HCells.out W3 hb23
        have HDK3 := hid hdk3
        have C42' := hid (fun X (hX : Below W3.heap.size W3 X) => C42.out X (hb23.trans (hX.mono hb23.size)))
        clear hb3 hb23 hdk3 z0 z1 z2 z3 m1 m3 HCells C42
        by_cases hR0 : R = 0
        · have hR0' : (R != 0) = false := by simpa using hR0
          have HAd3 := hid (HAd2.out hR0 HLim.out)
          clear hR0
          go_wp2
          go_quiet (fail)
          go_wp2_with fail
          go_at_call 42
          refine (C42'.out _ (below_drewN _ _ _)).mono ?_
          clear C42'
          rintro e W4 ⟨rfl, hs', v', hdk4, htw, hold⟩
          have HZ : Hid (DkOutT n mb v hs W d.1 d.2 (.returned (.int .i64 0)) W4) := by
            rw [← HDD.out, HAd3.out]
            have hb5 : ∀ q, Below W.heap.size W (W3.drewN q) := fun q => HB3.out.trans ((below_drewN W3.heap.size W3 q).mono HB3.out.size)
            exact ⟨rfl, ⟨hs', v', hdk4, hold.on (hb5 _).size⟩, Tw.rt (hb5 _) htw⟩
          clear hdk4 htw hold
          go_wp2
          go_ret
          exact HZ.out
        · have hR0' : (R != 0) = true := by simpa using hR0
          have HZ : Hid (DkOutT n mb v hs W d.1 d.2 (.returned (.int .i64 R)) W3) := by
            rw [← HDD.out, HFo2.out hR0]
            exact ⟨rfl, ⟨hs, v, HDK3.out, Old.refl _ _⟩, Tw.of_below HB3.out⟩
          clear hR0 C42'
          go_wp2
          go_ret
          exact HZ.out
end Go.Proofs.Ytjjanmgeogjngaa

/- The program's checker and the document's, side by side. -/
namespace Go.Proofs.Ytjjanmgeogjngaa
open Go.RowKit Go.Maps
set_option linter.unusedVariables false

/-- The kinds of memory that the program's checker has. -/
def Ours : Obj → Prop
  | .cells _ t _ => t = 75 ∨ t = 119 ∨ t = 40 ∨ t = 3
  | .map _ _ => True
  | _ => False
theorem Ck.kept {n0 cb bm : Nat} {t r : Option Nat} {k : Nat} {W W' : World} {C : List (Int × List Int)} {last : Int} {dn : Bool} (h : Ck n0 cb bm t r k W C last dn) (hs : W.heap.size ≤ W'.heap.size) (hk : ∀ g o, n0 ≤ g → W.heap[g]? = some o → Ours o → W'.heap[g]? = some o) : Ck n0 cb bm t r k W' C last dn := by
  obtain ⟨hG, f, tm, at3, ct3, ⟨vals, vv, vr, hre, hcb, hsz, hc, hov, hot, hV⟩, hS, ho, ht, hT⟩ := h
  have key : ∀ {e size : Nat} {v : Value} {n : Nat} {xs : List Value}, (e = 75 ∨ e = 119 ∨ e = 40 ∨ e = 3) → W.ownsRow n0 e size v n xs → W'.ownsRow n0 e size v n xs := fun he hw => own_keep hw (fun g cs e1 hg => by
    have hb := (own_blk hw e1).1
    rw [hg]
    exact hk g _ hb hg he)
  refine ⟨hG, f, tm, at3, ct3, ⟨vals, vv, vr, hre, hcb, Nat.le_trans hsz hs, hk cb _ hcb hc (.inl rfl), key (by decide) hov, key (by decide) hot, hV⟩, ?_, key (by decide) ho, ht, hT⟩
  obtain ⟨es, cl, hm⟩ := hS.map.obj
  refine ⟨hS.map.same ?_, hS.base, hS.none_, fun id v hv => ?_⟩
  · rw [hm]; exact hk bm _ hS.base hm trivial
  · obtain ⟨xs, hF, ho2, hne⟩ := hS.some_ id v hv
    exact ⟨xs, hF, key (by decide) ho2, hne⟩
theorem Ck.hi {n0 cb bm : Nat} {t r : Option Nat} {k : Nat} {W W' : World} {C : List (Int × List Int)} {last : Int} {dn : Bool} (h : Ck n0 cb bm t r k W C last dn) (hs : W.heap.size ≤ W'.heap.size) (hk : ∀ g, n0 ≤ g → g < W.heap.size → W'.heap[g]? = W.heap[g]?) : Ck n0 cb bm t r k W' C last dn :=
  h.kept hs (fun g o hn hg _ => by rw [hk g hn (Array.getElem?_eq_some_iff.1 hg).1]; exact hg)
/-- What the program's checker's blocks are. -/
theorem Ck.kinds {n0 cb bm : Nat} {t r : Option Nat} {k : Nat} {W : World} {C : List (Int × List Int)} {last : Int} {dn : Bool} (h : Ck n0 cb bm t r k W C last dn) : (∃ cs, W.heap[cb]? = some (.cells cs 75 (0, 0))) ∧ (∃ es cl, W.heap[bm]? = some (.map es cl)) ∧ (∀ g, t = some g → ∃ cs, W.heap[g]? = some (.cells cs 3 (0, 0))) ∧ (∀ g, r = some g → ∃ cs, W.heap[g]? = some (.cells cs 40 (0, 0))) := by
  obtain ⟨hG, f, tm, at3, ct3, ⟨vals, vv, vr, hre, hcb, hsz, hc, hov, hot, hV⟩, hS, ho, ht, hT⟩ := h
  refine ⟨⟨_, hc⟩, hS.map.obj, fun g e => ?_, fun g e => ?_⟩
  · rw [ht] at e; exact (own_blk ho e).2
  · rw [hre] at e; exact (own_blk hot e).2
/-- The document's checker stands while the program's makes a step. -/
theorem Dk.fp {n0 cb bm : Nat} {t r : Option Nat} {k : Nat} {W W' : World} {C : List (Int × List Int)} {last : Int} {dn : Bool} (hC : Ck n0 cb bm t r k W C last dn) {n mb : Nat} {S : Ckr.St} {hs : List Hd} {v : Value} (h : Dk n mb W S hs v) (hF : Fp n0 cb bm t r W W') (hne : ∀ q ∈ hs, ∀ g, q.2.ownBlock = some g → some g ≠ r) : Dk n mb W' S hs v := by
  obtain ⟨⟨c1, k1⟩, ⟨es, cl, k2⟩, k3, k4⟩ := hC.kinds
  have key : ∀ (g : Nat) (cs : Array Value) (e : TypeId), W.heap[g]? = some (.cells cs e (0, 0)) → e = 79 ∨ e = 84 ∨ e = 40 → (e = 40 → some g ≠ r) → W'.heap[g]? = W.heap[g]? := fun g cs e hg he hr => by
    refine hF.block g (Array.getElem?_eq_some_iff.1 hg).1 ?_ ?_ ?_ ?_ ?_
    · rintro rfl; rw [k1] at hg; injection hg with hg; injection hg with _ hg _; rcases he with rfl | rfl | rfl <;> cases hg
    · rintro rfl; rw [k2] at hg; cases hg
    · intro e1; obtain ⟨c3, k3'⟩ := k3 g e1.symm; rw [k3'] at hg; injection hg with hg; injection hg with _ hg _; rcases he with rfl | rfl | rfl <;> cases hg
    · intro e1
      rcases he with he | he | he
      · obtain ⟨c4, k4'⟩ := k4 g e1.symm; rw [k4'] at hg; injection hg with hg; injection hg with _ hg _; subst he; cases hg
      · obtain ⟨c4, k4'⟩ := k4 g e1.symm; rw [k4'] at hg; injection hg with hg; injection hg with _ hg _; subst he; cases hg
      · exact hr he e1
    · intro _ cs' fr e1; rw [e1] at hg; injection hg with hg; injection hg with _ hg _; rcases he with rfl | rfl | rfl <;> cases hg
  refine ⟨h.base, h.is, ⟨own_keep h.mem.row (fun g cs e hg => key g cs 84 hg (by decide) (fun e9 => absurd e9 (by decide))), fun q hq => own_keep (h.mem.each q hq) (fun g cs e hg => key g cs 40 hg (by decide) (fun _ => hne q hq g e))⟩, ?_⟩
  rw [key mb _ 79 h.blk (by decide) (fun e9 => absurd e9 (by decide))]
  exact h.blk
theorem Dk.hi {n mb : Nat} {W W' : World} {S : Ckr.St} {hs : List Hd} {v : Value} (h : Dk n mb W S hs v) (hk : ∀ g, n ≤ g → g < W.heap.size → W'.heap[g]? = W.heap[g]?) : Dk n mb W' S hs v :=
  ⟨h.base, h.is, ⟨own_keep h.mem.row (fun g cs e hg => hk g (own_blk h.mem.row e).1 (Array.getElem?_eq_some_iff.1 hg).1), fun q hq => own_keep (h.mem.each q hq) (fun g cs e hg => hk g (own_blk (h.mem.each q hq) e).1 (Array.getElem?_eq_some_iff.1 hg).1)⟩, by rw [hk mb h.base (Array.getElem?_eq_some_iff.1 h.blk).1]; exact h.blk⟩
/-- Both hold the same, and lie apart. -/
def Bth (n0 n cb bm mb k : Nat) (W : World) (S : Ckr.St) : Prop := ∃ t r hs v, Ck n0 cb bm t r k W S.C S.last S.dn ∧ Dk n mb W S hs v ∧ ∀ q ∈ hs, ∀ g, q.2.ownBlock = some g → some g ≠ r
theorem Bth.below {n0 n cb bm mb k : Nat} {W W' : World} {S : Ckr.St} (h : Bth n0 n cb bm mb k W S) (hb : Below W.heap.size W W') : Bth n0 n cb bm mb k W' S := by
  obtain ⟨t, r, hs, v, h1, h2, h3⟩ := h
  exact ⟨t, r, hs, v, h1.below hb, h2.below hb, h3⟩
theorem Bth.hi {n0 n cb bm mb k : Nat} {W W' : World} {S : Ckr.St} (h : Bth n0 n cb bm mb k W S) (hn : n0 ≤ n) (hs : W.heap.size ≤ W'.heap.size) (hk : ∀ g, n0 ≤ g → g < W.heap.size → W'.heap[g]? = W.heap[g]?) : Bth n0 n cb bm mb k W' S := by
  obtain ⟨t, r, hs2, v, h1, h2, h3⟩ := h
  exact ⟨t, r, hs2, v, h1.hi hs hk, h2.hi (fun g hg => hk g (Nat.le_trans hn hg)), h3⟩
/-- At the start. -/
theorem Bth.start {n0 cb bm mb k : Nat} {t r : Option Nat} {W W' : World} {S : Ckr.St} {hs : List Hd} {v : Value} (h1 : Ck n0 cb bm t r k W S.C S.last S.dn) (hb : Below W.heap.size W W') (h2 : Dk W.heap.size mb W' S hs v) : Bth n0 W.heap.size cb bm mb k W' S := by
  refine ⟨t, r, hs, v, h1.below hb, h2, fun q hq g hg e => ?_⟩
  obtain ⟨c4, k4⟩ := h1.kinds.2.2.2 g e.symm
  have := (own_blk (h2.mem.each q hq) hg).1
  have := (Array.getElem?_eq_some_iff.1 k4).1
  omega
/-- Between the two steps: the program's is done. -/
structure Mdl (n0 n cb bm mb k : Nat) (W : World) (S S' : Ckr.St) (hs : List Hd) (v : Value) (r : Option Nat) : Prop where
  c : ∃ t, Ck n0 cb bm t r k W S'.C S'.last S'.dn
  d : Dk n mb W S hs v
  ne : ∀ q ∈ hs, ∀ g, q.2.ownBlock = some g → some g ≠ r
theorem Mdl.of {n0 n cb bm mb k : Nat} {t r : Option Nat} {W W' : World} {S : Ckr.St} {hs : List Hd} {v : Value} {d : Int × Ckr.St} {e : Ending} (h1 : Ck n0 cb bm t r k W S.C S.last S.dn) (h2 : Dk n mb W S hs v) (h3 : ∀ q ∈ hs, ∀ g, q.2.ownBlock = some g → some g ≠ r) (ho : StepOut n0 cb bm t r k W d e W') :
    e = .returned (.int .i64 d.1) ∧ (∃ r' k', k' ≤ k + 1 ∧ Mdl n0 n cb bm mb k' W' S d.2 hs v r') ∧ Below n0 W W' := by
  obtain ⟨he, t', r', k', hk, hC, hF, ht, hr⟩ := ho
  obtain ⟨f1, f2, f3, f4, f5⟩ := h1.facts
  refine ⟨he, ⟨r', k', hk, ⟨t', hC⟩, Dk.fp h1 h2 hF h3, fun q hq g hg => hr.ne ?_ (h3 q hq g hg)⟩, hF.below f1 f2 (fun g e => (f3 g e).1) (fun g e => (f4 g e).1) f5⟩
  obtain ⟨_, cur, hc⟩ := own_blk (h2.mem.each q hq) hg
  exact (Array.getElem?_eq_some_iff.1 hc).1
theorem Mdl.below {n0 n cb bm mb k : Nat} {W W' : World} {S S' : Ckr.St} {hs : List Hd} {v : Value} {r : Option Nat} (h : Mdl n0 n cb bm mb k W S S' hs v r) (hb : Below W.heap.size W W') : Mdl n0 n cb bm mb k W' S S' hs v r := by
  obtain ⟨⟨t, h1⟩, h2, h3⟩ := h
  exact ⟨⟨t, h1.below hb⟩, h2.below hb, h3⟩
theorem Mdl.done {n0 n cb bm mb k : Nat} {r : Option Nat} {W W' : World} {S : Ckr.St} {hs : List Hd} {v : Value} {d : Int × Ckr.St} {e : Ending} (hm : Mdl n0 n cb bm mb k W S d.2 hs v r) (ho : DkOutT n mb v hs W d.1 d.2 e W') : Bth n0 n cb bm mb k W' d.2 ∧ Below n W W' := by
  obtain ⟨⟨t, hC⟩, hD, hne⟩ := hm
  obtain ⟨_, ⟨hs', v', hD', hold⟩, htw⟩ := ho
  refine ⟨⟨t, r, hs', v', hC.kept htw.size (fun g o hn hg ho => ?_), hD', fun q hq g hg => ?_⟩, hD.tw htw⟩
  · rw [htw.block g (Array.getElem?_eq_some_iff.1 hg).1 ?_ ?_]
    · exact hg
    · rintro rfl
      rw [hD.blk] at hg
      cases hg
      rcases ho with h | h | h | h <;> cases h
    · intro e1
      obtain ⟨_, cur, hc⟩ := own_blk hD.mem.row e1.symm
      rw [hc] at hg
      cases hg
      rcases ho with h | h | h | h <;> cases h
  · rcases hold q hq with h | h
    · exact hne q h g hg
    · intro e1
      obtain ⟨c4, k4⟩ := hC.kinds.2.2.2 g e1.symm
      have := h g hg
      have := (Array.getElem?_eq_some_iff.1 k4).1
      omega
end Go.Proofs.Ytjjanmgeogjngaa

/- What was handed in, while it is written over. -/
namespace Go.Proofs.Ytjjanmgeogjngaa
open Go.RowKit Go.Maps
set_option linter.unusedVariables false

theorem Rws.cls {n : Nat} {W : World} {o : Option Addr} {k c : Nat} {rows : List (List Int × Value)} (h : Rws n W (.slice o k c) rows) (hx : ∀ q ∈ rows, (∀ x ∈ q.1, -2147483648 ≤ x ∧ x ≤ 2147483647) ∧ q.1.length ≤ 35184372088832) : Cls W o (rows.map (·.1)) := by
  refine ⟨fun c hc => ?_, ?_⟩
  · obtain ⟨q, hq, rfl⟩ := List.mem_map.1 hc
    exact (hx q hq).2
  · rcases Nat.eq_zero_or_pos rows.length with h0 | hp
    · left; rw [List.eq_nil_of_length_eq_zero h0]; rfl
    · obtain ⟨g, c', cur, e1, _, hg, _, _, hcs, htk⟩ := own_some h.row hp
      injection e1 with e1 e2 e3
      subst e1
      refine .inr ⟨g, 0, rfl, (Array.getElem?_eq_some_iff.1 hg).1, fun j hj => ?_⟩
      have hj' : j < rows.length := by simpa using hj
      have ho := h.each rows[j] (List.getElem_mem hj')
      obtain ⟨a', c2, ev⟩ := own_slc ho
      have e4 : (rows.map (·.1)).getD j [] = rows[j].1 := by simp [List.getD, hj']
      rw [e4]
      refine ⟨a', c2, ?_, ?_⟩
      · rw [Nat.zero_add, row_cell hg j]
        have e5 : (cur.toList.take rows.length)[j]? = cur.toList[j]? := List.getElem?_take_of_lt hj'
        rw [htk, List.getElem?_map, List.getElem?_eq_getElem hj'] at e5
        rw [← Array.getElem?_toList, ← e5, ← ev]
        rfl
      · rw [ev] at ho
        exact own_row ho (hx _ (List.getElem_mem hj')).1
/-- Nothing is turned but memory from lo to hi. -/
structure Out (lo hi : Nat) (A B : World) : Prop where
  os : B.os = A.os
  tape : B.tape = A.tape
  output : B.output = A.output
  size : A.heap.size ≤ B.heap.size
  block : ∀ g, g < A.heap.size → g < lo ∨ hi ≤ g → B.heap[g]? = A.heap[g]?
theorem Out.refl (lo hi : Nat) (A : World) : Out lo hi A A := ⟨rfl, rfl, rfl, Nat.le_refl _, fun _ _ _ => rfl⟩
theorem Out.drawn {lo hi : Nat} {A B C : World} (h : Out lo hi A B) (hd : Drawn B C) : Out lo hi A C := by
  obtain ⟨q, rfl⟩ := hd
  exact ⟨h.os, h.tape, h.output, h.size, h.block⟩
theorem Out.set {lo hi : Nat} {A B : World} (h : Out lo hi A B) {g k : Nat} (h1 : lo ≤ g) (h2 : g < hi) (u : Value) : Out lo hi A (B.setCell ⟨g, k, none⟩ u) :=
  ⟨h.os, h.tape, h.output, by simpa [World.setCell] using h.size, fun q hq hr => (heap_other B u (by omega)).trans (h.block q hq hr)⟩
theorem Out.below {lo hi : Nat} {A B : World} (h : Out lo hi A B) (hl : lo ≤ A.heap.size) : Below lo A B := ⟨h.os, h.tape, h.output, h.size, fun g hg => h.block g (by omega) (.inl hg)⟩
/-- The clauses that were handed in, from the ith on, stand. -/
structure FI (n m : Nat) (v : Value) (rows : List (List Int × Value)) (i : Nat) (W : World) : Prop where
  row : W.ownsRow n 39 1 v rows.length (rows.map (·.2))
  each : ∀ j, i ≤ j → ∀ hj : j < rows.length, W.ownsRow n 40 1 rows[j].2 rows[j].1.length (rows[j].1.map (Value.int .i32))
theorem FI.of {n m : Nat} {v : Value} {rows : List (List Int × Value)} {W : World} (h : Rws n W v rows) : FI n m v rows 0 W := ⟨h.row, fun j _ hj => h.each _ (List.getElem_mem hj)⟩
theorem FI.drawn {n m : Nat} {v : Value} {rows : List (List Int × Value)} {i : Nat} {W W' : World} (h : FI n m v rows i W) (hd : Drawn W W') : FI n m v rows i W' := by
  obtain ⟨q, rfl⟩ := hd
  exact ⟨h.row, h.each⟩
theorem FI.next {n m : Nat} {v : Value} {rows : List (List Int × Value)} {i : Nat} {W : World} (h : FI n m v rows i W) : FI n m v rows (i + 1) W := ⟨h.row, fun j hj => h.each j (by omega)⟩
/-- A store into the ith clause's row. -/
theorem FI.set {n m : Nat} {v : Value} {rows : List (List Int × Value)} {i : Nat} {W : World} (hd : rows.Pairwise (fun p q => ∀ g, p.2.ownBlock = some g → q.2.ownBlock ≠ some g)) (h : FI n m v rows (i + 1) W) (hi : i < rows.length) {g k : Nat} (hg : rows[i].2.ownBlock = some g) (hc : ∃ cs, W.heap[g]? = some (.cells cs 40 (0, 0))) (u : Value) : FI n m v rows (i + 1) (W.setCell ⟨g, k, none⟩ u) := by
  obtain ⟨cs, hc⟩ := hc
  refine ⟨own_keep h.row (fun q cs2 e hq => heap_other W u (fun e2 => ?_)), fun j hj hjl => own_keep (h.each j hj hjl) (fun q cs2 e hq => heap_other W u (fun e2 => ?_))⟩
  · subst e2
    rw [hc] at hq
    injection hq with hq; injection hq with _ hq _; cases hq
  · subst e2
    exact (List.pairwise_iff_getElem.1 hd) i j hi hjl (by omega) q hg e
/-- The steps that were handed in, from the ith on, stand. -/
structure MI (m1 g : Nat) (qs : List Q) (i : Nat) (W : World) : Prop where
  row : ∃ cs, W.heap[g]? = some (.cells cs 44 (0, 0)) ∧ ∀ j, i ≤ j → ∀ hj : j < qs.length, ∀ t u, (qvals qs[j])[t]? = some u → cs[j * 4 + t]? = some u
  each : ∀ j, i ≤ j → ∀ hj : j < qs.length, QV m1 W qs[j]
theorem MI.of {m1 g c N : Nat} {qs : List Q} {W : World} (h : Mem m1 W (.slice (some ⟨g, 0, none⟩) N c) qs) (hN : 0 < qs.length) : MI m1 g qs 0 W := by
  refine ⟨?_, fun j _ hj => h.each _ (List.getElem_mem hj)⟩
  rcases h.row.2 with ⟨_, h0⟩ | ⟨g', cap, cur, e1, hb, hg, hnc, hcm, hcs, htk⟩
  · omega
  · injection e1 with e1 _ _
    injection e1 with e1
    injection e1 with e1 _ _
    subst e1
    refine ⟨cur, hg, fun j _ hj t u hu => ?_⟩
    have ht : t < 4 := by
      rcases Nat.lt_or_ge t 4 with h | h
      · exact h
      · rw [List.getElem?_eq_none (by simpa [qvals] using h)] at hu; cases hu
    have e2 : (cur.toList.take (qs.length * 4))[j * 4 + t]? = cur.toList[j * 4 + t]? := List.getElem?_take_of_lt (by omega)
    rw [htk, flat_at qs j t hj ht, hu] at e2
    rw [← Array.getElem?_toList, ← e2]
theorem MI.keep {m1 g : Nat} {qs : List Q} {i n0 : Nat} {W W' : World} (h : MI m1 g qs i W) (hb : Below n0 W W') (hg : g < n0) (hq : ∀ q ∈ qs, ∀ b, q.2.1.ownBlock = some b ∨ q.2.2.ownBlock = some b → b < n0) : MI m1 g qs i W' := by
  obtain ⟨cs, h1, h2⟩ := h.row
  refine ⟨⟨cs, (hb.block g hg).trans h1, h2⟩, fun j hj hjl => ?_⟩
  have hm := List.getElem_mem hjl
  exact ⟨own_keep (h.each j hj hjl).l (fun b _ e _ => hb.block b (hq _ hm b (.inl e))), own_keep (h.each j hj hjl).h (fun b _ e _ => hb.block b (hq _ hm b (.inr e)))⟩
theorem MI.spoil {m1 g : Nat} {qs : List Q} {i : Nat} {W W' : World} (h : MI m1 g qs i W) (hi : i < qs.length) (hd : qs.Pairwise Dis) (ht : T1 g (i * 4 + 1) qs[i].2.1.ownBlock qs[i].2.2.ownBlock W W') : MI m1 g qs (i + 1) W' := by
  obtain ⟨cs, h1, h2⟩ := h.row
  obtain ⟨cs', k1, k2, k3⟩ := ht.row g cs 44 h1
  refine ⟨⟨cs', k1, fun j hj hjl t u hu => ?_⟩, fun j hj hjl => ?_⟩
  · have ht4 : t < 4 := by
      rcases Nat.lt_or_ge t 4 with h | h
      · exact h
      · rw [List.getElem?_eq_none (by simpa [qvals] using h)] at hu; cases hu
    rw [k3 rfl _ (by omega)]
    exact h2 j (by omega) hjl t u hu
  · have hdis := (List.pairwise_iff_getElem.1 hd) i j hi hjl (by omega)
    have key : ∀ b, (qs[j].2.1.ownBlock = some b ∨ qs[j].2.2.ownBlock = some b) → (∃ cs t, t ≠ 44 ∧ W.heap[b]? = some (.cells cs t (0, 0))) → W'.heap[b]? = W.heap[b]? := fun b hb ⟨cs3, t3, n3, hc3⟩ => by
      refine ht.out b (fun e => ?_) (fun e => ?_) (fun e => ?_)
      · subst e
        rw [h1] at hc3
        injection hc3 with hc3; injection hc3 with _ hc3 _
        exact n3 hc3.symm
      · have := hdis b (.inl e.symm); rcases hb with hb | hb; exact this.1 hb; exact this.2 hb
      · have := hdis b (.inr e.symm); rcases hb with hb | hb; exact this.1 hb; exact this.2 hb
    exact ⟨own_keep (h.each j (by omega) hjl).l (fun b cs4 e hc => key b (.inl e) ⟨cs4, 40, by decide, hc⟩), own_keep (h.each j (by omega) hjl).h (fun b cs4 e hc => key b (.inr e) ⟨cs4, 2, by decide, hc⟩)⟩
/-- The ith step as it lies, and its value. -/
theorem MI.at {m1 g : Nat} {qs : List Q} {i : Nat} {W : World} (h : MI m1 g qs i W) (hi : i < qs.length) (hf : Fits qs[i].1) : ∃ a1 c1 a2 c2, qs[i].2.1 = .slice a1 qs[i].1.lits.length c1 ∧ qs[i].2.2 = .slice a2 qs[i].1.hints.length c2 ∧ StpV W a1 a2 qs[i].1 ∧ (qs[i].1.hints.length ≤ c2 ∧ c2 ≤ maxLen) ∧
    W.cell? ⟨g, i * 4, none⟩ = some (.int .u8 qs[i].1.kind) ∧ W.cell? ⟨g, i * 4 + 1, none⟩ = some (.int .i64 qs[i].1.id) ∧ W.cell? ⟨g, i * 4 + 2, none⟩ = some (.slice a1 qs[i].1.lits.length c1) ∧ W.cell? ⟨g, i * 4 + 3, none⟩ = some (.slice a2 qs[i].1.hints.length c2) ∧
    (∀ b off, a1 = some ⟨b, off, none⟩ → qs[i].2.1.ownBlock = some b) ∧ (∀ b off, a2 = some ⟨b, off, none⟩ → qs[i].2.2.ownBlock = some b) := by
  have hq := h.each i (Nat.le_refl _) hi
  obtain ⟨cs, h1, h2⟩ := h.row
  obtain ⟨a1, c1, e1⟩ := own_slc hq.l
  obtain ⟨a2, c2, e2⟩ := own_slc hq.h
  have l1 := hq.l
  have l2 := hq.h
  rw [e1] at l1
  rw [e2] at l2
  have y : ∀ t u, (qvals qs[i])[t]? = some u → W.cell? ⟨g, i * 4 + t, none⟩ = some u := fun t u hu => by rw [row_cell h1]; exact h2 i (Nat.le_refl _) hi t u hu
  refine ⟨a1, c1, a2, c2, e1, e2, ⟨own_row l1 hf.l, own_row l2 hf.h, hf.k, hf.i, hf.n⟩, ?_, y 0 _ rfl, y 1 _ rfl, ?_, ?_, ?_, ?_⟩
  · rcases l2.2 with ⟨e, h0⟩ | ⟨g', cap, cur, e, _, _, q1, q2, _⟩
    · injection e with _ _ e; rw [e]; exact ⟨by omega, by unfold maxLen; omega⟩
    · injection e with _ _ e; rw [e]; exact ⟨q1, q2⟩
  · rw [← e1]; exact y 2 _ rfl
  · rw [← e2]; exact y 3 _ rfl
  · rintro b off rfl
    rcases l1.2 with ⟨e, _⟩ | ⟨g', cap, cur, e, _⟩
    · cases e
    · rw [e1, e]; injection e with e _ _; injection e with e; injection e with e _ _; subst e; rfl
  · rintro b off rfl
    rcases l2.2 with ⟨e, _⟩ | ⟨g', cap, cur, e, _⟩
    · cases e
    · rw [e2, e]; injection e with e _ _; injection e with e; injection e with e _ _; subst e; rfl
end Go.Proofs.Ytjjanmgeogjngaa

/- A step of both checkers. -/
namespace Go.Proofs.Ytjjanmgeogjngaa
open Go.RowKit Go.Maps
set_option linter.unusedVariables false

/-- The program's step is done, the document's is not. -/
def Mid6 (n0 n cb bm mb k : Nat) (W : World) (S S' : Ckr.St) (w' : World) : Prop := (∃ r' k' hs v, k' ≤ k + 1 ∧ Mdl n0 n cb bm mb k' w' S S' hs v r') ∧ Ckr.Good S.C S.last ∧ Below n0 W w'
theorem Mid6.below {n0 n cb bm mb k : Nat} {W w' w2 : World} {S S' : Ckr.St} (h : Mid6 n0 n cb bm mb k W S S' w') (hn : n0 ≤ W.heap.size) (hb : Below w'.heap.size w' w2) : Mid6 n0 n cb bm mb k W S S' w2 := by
  obtain ⟨⟨r', k', hs, v, h1, h2⟩, h3, h4⟩ := h
  exact ⟨⟨r', k', hs, v, h1, h2.below hb⟩, h3, h4.trans (hb.mono (Nat.le_trans hn h4.size))⟩
theorem both16 {n0 n cb bm mb k : Nat} {W : World} {S : Ckr.St} (h : Bth n0 n cb bm mb k W S) (hk : k < maxLen) (s : Lra.Stp) (a1 : Option Addr) (c1 : Nat) (a2 : Option Addr) (c2 : Nat) (hs : StpV W a1 a2 s) (hl : ∀ g off, a1 = some ⟨g, off, none⟩ → g < n0) (hh : ∀ g off, a2 = some ⟨g, off, none⟩ → g < n0) (hc : s.hints.length ≤ c2 ∧ c2 ≤ maxLen) (hn1 : s.lits.length ≤ 1500) (hn2 : s.hints.length ≤ 1500) :
    Calls Try.prog 16 #[.pointer (some ⟨cb, 0, none⟩), sval s a1 c1 a2 c2] W fun e w' => e = .returned (.int .i64 (Ckr.stepP S s).1) ∧ Mid6 n0 n cb bm mb k W S (Ckr.stepP S s).2 w' := by
  obtain ⟨t, r, hs2, v, h1, h2, h3⟩ := h
  refine (step16 n0 cb bm t r k W S s a1 c1 a2 c2 h1 hk ⟨hs, h1.arg hs.l (fun g off e _ => hl g off e), h1.arg hs.h (fun g off e _ => hh g off e), hc, by omega, by omega⟩).mono (fun e w' ho => ?_)
  obtain ⟨q1, ⟨r', k', q2, q3⟩, q4⟩ := Mdl.of h1 h2 h3 ho
  exact ⟨q1, ⟨r', k', hs2, v, q2, q3⟩, h1.good, q4⟩
theorem both17 {n0 n cb bm mb k : Nat} {W0 W w' : World} {S S' : Ckr.St} (s : Lra.Stp) (hS : S' = (Ckr.stepP S s).2) (h : Mid6 n0 n cb bm mb k W S S' w') (hn : n0 ≤ n) (hcl : S.C.length ≤ 4194304) (hal : (Ckr.all S.C).length ≤ 8388608) (hW : Below W0.heap.size W0 W) (hw0 : W0.heap.size ≤ n0) (b1 : Option Addr) (d1 : Nat) (b2 : Option Addr) (d2 : Nat) (hst : StpV W0 b1 b2 s) (hc2 : s.hints.length ≤ d2 ∧ d2 ≤ maxLen) (hl1 : s.lits.length ≤ 1500) (hl2 : s.hints.length ≤ 1500) (hnW : n0 ≤ W.heap.size) :
    Calls Try.prog 17 #[.pointer (some ⟨mb, 0, none⟩), sval s b1 d1 b2 d2] w' fun e w2 => e = .returned (.int .i64 (Ckr.stepP S s).1) ∧ (∃ k', k' ≤ k + 1 ∧ Bth n0 n cb bm mb k' w2 S') ∧ Below n0 W w2 := by
  obtain ⟨⟨r', k', hs, v, h1, h2⟩, h3, h4⟩ := h
  subst hS
  refine (step17t h2.d h3 hcl hal (hW.trans (h4.mono hw0)) (Nat.le_trans hw0 hn) s b1 d1 b2 d2 hst hc2.1 hc2.2 (by omega) (by omega)).mono (fun e w2 ho => ?_)
  obtain ⟨q1, q2⟩ := Mdl.done (d := Ckr.stepP S s) h2 ho
  exact ⟨ho.1, ⟨k', h1, q1⟩, h4.trans (q2.mono hn)⟩
theorem Bth.same {n0 n cb bm mb k : Nat} {W : World} {S : Ckr.St} (h : Bth n0 n cb bm mb k W S) (hk : k ≤ 1048576) (hcl : S.C.length ≤ 1048576) : Calls Try.prog 20 #[.pointer (some ⟨cb, 0, none⟩), .pointer (some ⟨mb, 0, none⟩)] W fun e w' => e = .returned (.bool true) ∧ Below W.heap.size W w' ∧ Bth n0 n cb bm mb k w' S := by
  obtain ⟨t, r, hs2, v, h1, h2, h3⟩ := id h
  exact (same20 h1 h2 hk hcl).mono (fun e w' ho => ⟨ho.1, ho.2, h.below ho.2⟩)
/-- Behind a step that is written over. -/
theorem Bth.spoilt {n0 n cb bm mb k g j : Nat} {W W' : World} {S : Ckr.St} {l h2 : Option Nat} (h : Bth n0 n cb bm mb k W S) (hn : n0 ≤ n) (ht : T1 g j l h2 W W') (hg : g < n0) (hl : ∀ b, l = some b → b < n0) (hh : ∀ b, h2 = some b → b < n0) : Bth n0 n cb bm mb k W' S :=
  h.hi hn (Nat.le_of_eq ht.size.symm) (fun q hq _ => ht.out q (by omega) (fun e => by have := hl q e.symm; omega) (fun e => by have := hh q e.symm; omega))
theorem T1.low {g j lo : Nat} {l h2 : Option Nat} {A W W' : World} (ht : T1 g j l h2 W W') (hb : Below lo A W) (hg : lo ≤ g) (hl : ∀ b, l = some b → lo ≤ b) (hh : ∀ b, h2 = some b → lo ≤ b) : Below lo A W' :=
  ⟨ht.os.trans hb.os, ht.tape.trans hb.tape, ht.output.trans hb.output, by rw [ht.size]; exact hb.size, fun q hq => (ht.out q (by omega) (fun e => by have := hl q e.symm; omega) (fun e => by have := hh q e.symm; omega)).trans (hb.block q hq)⟩
end Go.Proofs.Ytjjanmgeogjngaa

