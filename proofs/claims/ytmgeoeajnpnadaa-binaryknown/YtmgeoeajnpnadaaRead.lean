/- A step read, by the program. -/
import Derived.Test.YtmgeoeajnpnadaaRdB
namespace Go.Proofs.Ytmgeoeajnpnadaa
open Go.RowKit
set_option linter.unusedVariables false
set_option linter.unusedSimpArgs false

/-- A row that is cut to nothing. -/
theorem own_cut {W : World} {base n e : Nat} {o : Option Addr} {c : Nat} {xs : List Value} (h : W.ownsRow base e 1 (.slice o n c) n xs) : W.ownsRow base e 1 (.slice o 0 c) 0 [] := by
  refine ⟨by simp, ?_⟩
  rcases h.2 with ⟨e1, _⟩ | ⟨g, cp, cur, e1, h1, h2, h3⟩
  · cases e1; exact .inl ⟨rfl, rfl⟩
  · cases e1
    exact .inr ⟨g, c, cur, rfl, h1, h2, Nat.zero_le _, h3.2.1, h3.2.2.1, by simp⟩
/-- What reading a step does. -/
def ReadB (w0 : World) (base rb : Nat) (W : World) (b : Nat) (bs : List Int) (lv hv : Value) (e : Ending) (w' : World) : Prop :=
  (Bin.stepR bs = none ∧ e = .returned (.bool false) ∧ ∃ lv' hv', Mv rb W w' lv hv lv' hv')
  ∨ (∃ x r lv' hv', Bin.stepR bs = some (x, r) ∧ e = .returned (.bool true) ∧ RB w0 base rb w' b r x.kind x.id x.lits x.hints ((x.lits.length + x.hints.length : Nat) : Int) lv' hv' ∧ Mv rb W w' lv hv lv' hv')
/-- The reader made new. -/
def anew (rb : Nat) (W : World) (v0 v1 v2 : Value) : World :=
  ((((((W.setCell ⟨rb, 0, none⟩ v0).setCell ⟨rb, 1, none⟩ (.int .u8 0)).setCell ⟨rb, 2, none⟩ (.int .i64 0)).setCell ⟨rb, 3, none⟩ v1).setCell ⟨rb, 4, none⟩ v2).setCell ⟨rb, 5, none⟩ (.int .i64 0)).drew
section
variable {base rb : Nat} {W : World} {ra : Option Addr} {rn rc : Nat} {kd id : Int} {ls hs : List Int} {it : Int} {o1 o2 : Option Addr} {c1 c2 : Nat} {lv hv : Value}
theorem RdO.cutL (h : RdO base rb W ra rn rc kd id ls hs it (.slice o1 ls.length c1) hv) : RdO base rb (W.setCell ⟨rb, 3, none⟩ (.slice o1 0 c1)) ra rn rc kd id [] hs it (.slice o1 0 c1) hv :=
  ⟨h.rd.lits _, h.lt, own_set (own_cut h.lo) h.lt _, own_set h.ho h.lt _⟩
theorem RdO.cutH (h : RdO base rb W ra rn rc kd id ls hs it lv (.slice o2 hs.length c2)) : RdO base rb (W.setCell ⟨rb, 4, none⟩ (.slice o2 0 c2)) ra rn rc kd id ls [] it lv (.slice o2 0 c2) :=
  ⟨h.rd.hints _, h.lt, own_set h.lo h.lt _, own_set (own_cut h.ho) h.lt _⟩
theorem RdO.anew (h : RdO base rb W ra rn rc kd id ls hs it (.slice o1 ls.length c1) (.slice o2 hs.length c2)) (a' : Option Addr) (n' c' : Nat) :
    RdO base rb (Ytmgeoeajnpnadaa.anew rb W (.slice a' n' c') (.slice o1 0 c1) (.slice o2 0 c2)) a' n' c' 0 0 [] [] 0 (.slice o1 0 c1) (.slice o2 0 c2) :=
  ((((((h.rests a' n' c').kinds 0).ids 0).cutL).cutH).items 0).drewN 1
end
theorem Mv.own {rb : Nat} {A B : World} {l0 h0 l1 h1 l2 h2 : Value} (h : Mv rb A B l0 h0 l1 h1) (e1 : l2.ownBlock = l1.ownBlock) (e2 : h2.ownBlock = h1.ownBlock) : Mv rb A B l0 h0 l2 h2 :=
  ⟨h.os, h.tape, h.output, h.size, h.block, fun i hi e => h.lown i hi (e1 ▸ e), fun i hi e => h.hown i hi (e2 ▸ e)⟩
theorem Mv.anew (rb : Nat) (W : World) (v0 : Value) (o1 o2 : Option Addr) (n1 n2 c1 c2 : Nat) :
    Mv rb W (Ytmgeoeajnpnadaa.anew rb W v0 (.slice o1 0 c1) (.slice o2 0 c2)) (.slice o1 n1 c1) (.slice o2 n2 c2) (.slice o1 0 c1) (.slice o2 0 c2) := by
  have m1 : Mv rb W (W.setCell ⟨rb, 0, none⟩ v0) (.slice o1 n1 c1) (.slice o2 n2 c2) (.slice o1 n1 c1) (.slice o2 n2 c2) := Mv.set rb 0 W _ _ _
  have m3 := m1.trans (Mv.set rb 1 _ (.int .u8 0) _ _)
  have m4 := m3.trans (Mv.set rb 2 _ (.int .i64 0) _ _)
  have m5 := m4.trans (Mv.set rb 3 _ (.slice o1 0 c1) _ _)
  have m6 := m5.trans (Mv.set rb 4 _ (.slice o2 0 c2) _ _)
  have m7 := ((m6.trans (Mv.set rb 5 _ (.int .i64 0) _ _)).trans (Mv.drewN rb 1 _ _ _))
  exact m7.own (by cases o1 <;> rfl) (by cases o2 <;> rfl)

/-- One number, as it comes out. -/
theorem oneB_none {chk : Int → Bool} {w0 : World} {base rb : Nat} {W : World} {b : Nat} {bs : List Int} {kd id : Int} {ls hs : List Int} {it : Int} {lv hv : Value} {e : Ending} {w' : World} (h : OneB chk w0 base rb W b bs kd id ls hs it lv hv e w') (hn : Bin.numR bs = none) : e = .returned (.bool false) ∧ Mv rb W w' lv hv lv hv := by
  rcases h with ⟨_, he, hm⟩ | ⟨n, r, h9, _⟩
  · exact ⟨he, hm⟩
  · rw [hn] at h9; cases h9
theorem oneB_some {chk : Int → Bool} {w0 : World} {base rb : Nat} {W : World} {b : Nat} {bs : List Int} {kd id : Int} {ls hs : List Int} {it : Int} {lv hv : Value} {e : Ending} {w' : World} {n : Int} {r : List Int} (h : OneB chk w0 base rb W b bs kd id ls hs it lv hv e w') (hn : Bin.numR bs = some (n, r)) : e = .returned (.bool (chk n)) ∧ RB w0 base rb w' b r kd n ls hs it lv hv ∧ Mv rb W w' lv hv lv hv := by
  rcases h with ⟨h9, _⟩ | ⟨n', r', h9, he, hR, hm⟩
  · rw [hn] at h9; cases h9
  · rw [hn] at h9; cases h9; exact ⟨he, hR, hm⟩
theorem hintsB_none {chk : Int → Bool} {w0 : World} {base rb : Nat} {W : World} {b : Nat} {bs : List Int} {kd id : Int} {ls : List Int} {it : Nat} {lv hv : Value} {e : Ending} {w' : World} (h : HintsB chk w0 base rb W b bs kd id ls it lv hv e w') (hn : Bin.rowF chk bs = none) : e = .returned (.bool false) ∧ ∃ lv' hv', Mv rb W w' lv hv lv' hv' := by
  rcases h with ⟨_, he, hm⟩ | ⟨n, r, hv', h9, _⟩
  · exact ⟨he, hm⟩
  · rw [hn] at h9; cases h9
theorem hintsB_some {chk : Int → Bool} {w0 : World} {base rb : Nat} {W : World} {b : Nat} {bs : List Int} {kd id : Int} {ls : List Int} {it : Nat} {lv hv : Value} {e : Ending} {w' : World} {xs r : List Int} (h : HintsB chk w0 base rb W b bs kd id ls it lv hv e w') (hn : Bin.rowF chk bs = some (xs, r)) : e = .returned (.bool true) ∧ ∃ hv', RB w0 base rb w' b r kd id ls xs ((it + xs.length : Nat) : Int) lv hv' ∧ Mv rb W w' lv hv lv hv' := by
  rcases h with ⟨h9, _⟩ | ⟨n', r', hv', h9, he, hR, hm⟩
  · rw [hn] at h9; cases h9
  · rw [hn] at h9; cases h9; exact ⟨he, hv', hR, hm⟩
theorem litsB_none {chk : Int → Bool} {w0 : World} {base rb : Nat} {W : World} {b : Nat} {bs : List Int} {kd id : Int} {hs : List Int} {it : Nat} {lv hv : Value} {e : Ending} {w' : World} (h : LitsB chk w0 base rb W b bs kd id hs it lv hv e w') (hn : Bin.rowF chk bs = none) : e = .returned (.bool false) ∧ ∃ lv' hv', Mv rb W w' lv hv lv' hv' := by
  rcases h with ⟨_, he, hm⟩ | ⟨n, r, hv', h9, _⟩
  · exact ⟨he, hm⟩
  · rw [hn] at h9; cases h9
theorem litsB_some {chk : Int → Bool} {w0 : World} {base rb : Nat} {W : World} {b : Nat} {bs : List Int} {kd id : Int} {hs : List Int} {it : Nat} {lv hv : Value} {e : Ending} {w' : World} {xs r : List Int} (h : LitsB chk w0 base rb W b bs kd id hs it lv hv e w') (hn : Bin.rowF chk bs = some (xs, r)) : e = .returned (.bool true) ∧ ∃ lv', RB w0 base rb w' b r kd id xs hs ((it + xs.length : Nat) : Int) lv' hv ∧ Mv rb W w' lv hv lv' hv := by
  rcases h with ⟨h9, _⟩ | ⟨n', r', hv', h9, he, hR, hm⟩
  · rw [hn] at h9; cases h9
  · rw [hn] at h9; cases h9; exact ⟨he, hv', hR, hm⟩
theorem rowF_less {chk : Int → Bool} {bs xs r : List Int} (hb : Bin.Byt bs) (h : Bin.rowF chk bs = some (xs, r)) : xs.length + r.length < bs.length := by
  obtain ⟨e, _⟩ := Bin.rowF_back hb h
  have := Bin.row_ge xs
  have h2 := congrArg List.length e
  rw [List.length_append, List.length_cons] at h2
  omega

set_option maxRecDepth 100000 in
set_option maxHeartbeats 8000000 in
theorem read25 (w0 : World) (base rb : Nat) (W : World) (b : Nat) (y : Int) (ys : List Int) (kd id : Int) (ls hs : List Int) (it : Int) (lv hv : Value) (h : RB w0 base rb W b (y :: ys) kd id ls hs it lv hv) (hz : ys.length ≤ 1000000) :
    Calls Try.prog 25 #[.pointer (some ⟨rb, 0, none⟩)] W fun e w' => ReadB w0 base rb W b (y :: ys) lv hv e w' := by
  obtain ⟨off, rc, hR, g1, g2, g3⟩ := h.ex
  have hbt := h.byt.tail
  obtain ⟨o1, n1, rfl⟩ := own_slc hR.lo
  obtain ⟨o2, n2, rfl⟩ := own_slc hR.ho
  obtain ⟨b', off', eq0, _, hc, hc1, hc2⟩ := (g3.below h.bel).at (j := 0) (by simp)
  cases eq0
  obtain ⟨off2, hoff2, hrd⟩ := cut_off (rc := rc) (i := 0) g3 g1
  obtain ⟨yn, hyn⟩ : ∃ yn, ys.length = yn := ⟨_, rfl⟩
  have hR2 := hR.anew (some ⟨b, off2, none⟩) yn (rc - 1)
  have hM2 := Mv.anew rb W (.slice (some ⟨b, off2, none⟩) yn (rc - 1)) o1 o2 ls.length hs.length n1 n2
  simp only [List.getD_cons_zero, Nat.add_zero, List.length_cons, hyn, Nat.zero_add] at hc hc1 hc2 g1 hoff2
  obtain ⟨W2, hW2⟩ : ∃ W2, anew rb W (.slice (some ⟨b, off2, none⟩) yn (rc - 1)) (.slice o1 0 n1) (.slice o2 0 n2) = W2 := ⟨_, rfl⟩
  rw [hW2] at hR2 hM2
  have hB2 : RB w0 base rb W2 b ys 0 0 [] [] 0 (.slice o1 0 n1) (.slice o2 0 n2) := ⟨⟨off2, rc - 1, by rw [hyn]; exact hR2, by omega, by omega, by simpa using hrd⟩, h.bel' hM2, h.ge, h.lt, Nat.le_trans h.sz hM2.size⟩
  have k1 : W2.cell? ⟨rb, 1, none⟩ = some (.int .u8 0) := hR2.rd.cells 1 _ rfl
  have k2 := row_frozen hR2.rd.blk 1
  have HB3 := hid (fun (n : Int) => hB2.move (Mv.set rb 1 W2 (.int .u8 n) _ _) (fun ra rn rc q => q.kinds n))
  have c0 : W.cell? ⟨rb, 0, none⟩ = some (.slice (some ⟨b, off, none⟩) (yn + 1) rc) := by have := hR.rd.cells 0 _ rfl; rw [this]; simp [hyn]
  have c1 : W.cell? ⟨rb, 1, none⟩ = some (.int .u8 kd) := hR.rd.cells 1 _ rfl
  have c2 : W.cell? ⟨rb, 2, none⟩ = some (.int .i64 id) := hR.rd.cells 2 _ rfl
  have c3 : W.cell? ⟨rb, 3, none⟩ = some (.slice o1 ls.length n1) := hR.rd.cells 3 _ rfl
  have c4 : W.cell? ⟨rb, 4, none⟩ = some (.slice o2 hs.length n2) := hR.rd.cells 4 _ rfl
  have c5 : W.cell? ⟨rb, 5, none⟩ = some (.int .i64 it) := hR.rd.cells 5 _ rfl
  have f0 := row_frozen hR.rd.blk 0
  have f1 := row_frozen hR.rd.blk 1
  have f2 := row_frozen hR.rd.blk 2
  have f3 := row_frozen hR.rd.blk 3
  have f4 := row_frozen hR.rd.blk 4
  have f5 := row_frozen hR.rd.blk 5
  have HM2 := hid hM2
  have HYN := hid hyn
  have HZ := hid hz
  have HBT := hid hbt
  unfold anew at hW2
  have HWE := hid hW2
  clear h hrd hR hyn hR2 hM2 hB2 hW2 hz hbt g2
  have MS := fun (n : Int) => hid (HM2.out.trans (Mv.set rb 1 W2 (.int .u8 n) _ _))
  have HM2' := hid HM2.out
  clear HM2
  generalize ls.length = m1 at *
  generalize hs.length = m2 at *
  go_enter Try.func25, Try.ntmps25
  go_wp2
  go_region
  rw [HWE.out]
  clear c0 c1 c2 c3 c4 c5 f0 f1 f2 f3 f4 f5 HWE g3 g1 hoff2
  by_cases h97 : y = 97
  · subst h97
    have HST := hid (show Bin.stepR (97 :: ys) = Bin.addR ys from rfl)
    have HB := hid (HB3.out 1)
    have MS1 := MS 1
    have K42 := one42_43 w0 base rb _ b ys 1 0 [] [] 0 _ _ HB.out
    clear MS HB3
    cases hn : Bin.numR ys with
    | none =>
      have C42 := hid (K42.mono fun e w' q => oneB_none q hn)
      have HS := hid (show Bin.stepR (97 :: ys) = none by rw [HST.out, Bin.addR, hn])
      clear K42 hn HST
      go_wp2_with (go_at_call 42; refine C42.out.mono ?_; clear C42; rintro e W4 ⟨rfl, hM⟩; have HM4 := hid hM; clear hM)
      go_ret
      exact .inl ⟨HS.out, rfl, _, _, MS1.out.trans HM4.out⟩
    | some p =>
      obtain ⟨n, r⟩ := p
      have HLS := hid (numR_less HBT.out hn)
      cases ha : Lra.added n
      · have C42 := hid (K42.mono fun e w' q => oneB_some q hn)
        rw [ha] at C42
        have HS := hid (show Bin.stepR (97 :: ys) = none by rw [HST.out, Bin.addR, hn]; simp [ha])
        clear K42 hn HST ha
        go_wp2_with (go_at_call 42; refine C42.out.mono ?_; clear C42; rintro e W4 ⟨rfl, hR, hM⟩; have HM4 := hid hM; clear hM hR)
        go_ret
        exact .inl ⟨HS.out, rfl, _, _, MS1.out.trans HM4.out⟩
      · have C42 := hid (K42.mono fun e w' q => oneB_some q hn)
        rw [ha] at C42
        have HS := hid (show Bin.stepR (97 :: ys) = match Bin.rowF Lra.literal r with
          | none => none
          | some (ls, r1) => match Bin.rowF Lra.hint r1 with
            | none => none
            | some (hs, r2) => some (⟨1, n, ls, hs⟩, r2) by rw [HST.out, Bin.addR, hn]; simp only [ha, if_true]; rfl)
        have KL := fun (w : World) (hR : RB w0 base rb w b r 1 n [] [] 0 (.slice o1 0 n1) (.slice o2 0 n2)) => row44_45 w0 base rb w b r 1 n [] 0 (.slice o1 0 n1) (.slice o2 0 n2) hR (by have h1 := HLS.out; have h2 := HZ.out; omega)
        have HBR := hid (show Bin.Byt r by have h1 := (Bin.numR_back HBT.out hn).1; have h2 := HBT.out; rw [h1] at h2; exact h2.right)
        clear K42 hn HST ha
        cases hl : Bin.rowF Lra.literal r with
        | none =>
          have CL := hid (fun w hR => (KL w hR).mono fun e w' q => litsB_none q hl)
          have HS2 := hid (show Bin.stepR (97 :: ys) = none by rw [HS.out, hl])
          clear KL hl HS
          go_wp2_with (first
            | (go_at_call 42; refine C42.out.mono ?_; clear C42; rintro e W4 ⟨rfl, hR, hM⟩; have HM4 := hid hM; have HR4 := hid hR; clear hM hR)
            | (go_at_call 44; refine (CL.out _ HR4.out).mono ?_; clear CL; rintro e W5 ⟨rfl, lv5, hv5, hM⟩; have HM5 := hid hM; clear hM))
          go_ret
          exact .inl ⟨HS2.out, rfl, _, _, MS1.out.trans (HM4.out.trans HM5.out)⟩
        | some p =>
          obtain ⟨xs, r1⟩ := p
          have HLS2 := hid (rowF_less HBR.out hl)
          have CL := hid (fun w hR => (KL w hR).mono fun e w' q => litsB_some q hl)
          have HS2 := hid (show Bin.stepR (97 :: ys) = match Bin.rowF Lra.hint r1 with
            | none => none
            | some (hs, r2) => some (⟨1, n, xs, hs⟩, r2) by rw [HS.out, hl])
          have KH := fun (w : World) (lv5 : Value) (hR : RB w0 base rb w b r1 1 n xs [] ((0 + xs.length : Nat) : Int) lv5 (.slice o2 0 n2)) => row44_46 w0 base rb w b r1 1 n xs (0 + xs.length) lv5 (.slice o2 0 n2) hR (by have h1 := HLS.out; have h2 := HZ.out; have h3 := HLS2.out; omega)
          clear KL hl HS
          cases hh : Bin.rowF Lra.hint r1 with
          | none =>
            have CH := hid (fun w lv5 hR => (KH w lv5 hR).mono fun e w' q => hintsB_none q hh)
            have HS3 := hid (show Bin.stepR (97 :: ys) = none by rw [HS2.out, hh])
            clear KH hh HS2
            go_wp2_with (first
              | (go_at_call 42; refine C42.out.mono ?_; clear C42; rintro e W4 ⟨rfl, hR, hM⟩; have HM4 := hid hM; have HR4 := hid hR; clear hM hR)
              | (go_at_call 44; refine (CL.out _ HR4.out).mono ?_; clear CL; rintro e W5 ⟨rfl, lv5, hR, hM⟩; have HM5 := hid hM; have HR5 := hid hR; clear hM hR)
              | (go_at_call 44; refine (CH.out _ _ HR5.out).mono ?_; clear CH; rintro e W6 ⟨rfl, lv6, hv6, hM⟩; have HM6 := hid hM; clear hM))
            go_ret
            exact .inl ⟨HS3.out, rfl, _, _, MS1.out.trans (HM4.out.trans (HM5.out.trans HM6.out))⟩
          | some p =>
            obtain ⟨zs, r2⟩ := p
            have CH := hid (fun w lv5 hR => (KH w lv5 hR).mono fun e w' q => hintsB_some q hh)
            have HS3 := hid (show Bin.stepR (97 :: ys) = some (⟨1, n, xs, zs⟩, r2) by rw [HS2.out, hh])
            clear KH hh HS2
            go_wp2_with (first
              | (go_at_call 42; refine C42.out.mono ?_; clear C42; rintro e W4 ⟨rfl, hR, hM⟩; have HM4 := hid hM; have HR4 := hid hR; clear hM hR)
              | (go_at_call 44; refine (CL.out _ HR4.out).mono ?_; clear CL; rintro e W5 ⟨rfl, lv5, hR, hM⟩; have HM5 := hid hM; have HR5 := hid hR; clear hM hR)
              | (go_at_call 44; refine (CH.out _ _ HR5.out).mono ?_; clear CH; rintro e W6 ⟨rfl, hv6, hR, hM⟩; have HM6 := hid hM; have HR6 := hid hR; clear hM hR))
            go_ret
            refine .inr ⟨⟨1, n, xs, zs⟩, r2, lv5, hv6, HS3.out, rfl, ?_, MS1.out.trans (HM4.out.trans (HM5.out.trans HM6.out))⟩
            have := HR6.out
            rw [Nat.zero_add] at this
            exact this
  · by_cases h100 : y = 100
    · subst h100
      have HST := hid (show Bin.stepR (100 :: ys) = Bin.delR ys from rfl)
      have HB := hid (HB3.out 2)
      have MS1 := MS 2
      have K42 := one42_47 w0 base rb _ b ys 2 0 [] [] 0 _ _ HB.out
      clear MS HB3 h97
      cases hn : Bin.numR ys with
      | none =>
        have C42 := hid (K42.mono fun e w' q => oneB_none q hn)
        have HS := hid (show Bin.stepR (100 :: ys) = none by rw [HST.out, Bin.delR, hn])
        clear K42 hn HST
        go_wp2_with (go_at_call 42; refine C42.out.mono ?_; clear C42; rintro e W4 ⟨rfl, hM⟩; have HM4 := hid hM; clear hM)
        go_ret
        exact .inl ⟨HS.out, rfl, _, _, MS1.out.trans HM4.out⟩
      | some p =>
        obtain ⟨n, r⟩ := p
        have HLS := hid (numR_less HBT.out hn)
        cases ha : Lra.known n
        · have C42 := hid (K42.mono fun e w' q => oneB_some q hn)
          rw [ha] at C42
          have HS := hid (show Bin.stepR (100 :: ys) = none by rw [HST.out, Bin.delR, hn]; simp [ha])
          clear K42 hn HST ha
          go_wp2_with (go_at_call 42; refine C42.out.mono ?_; clear C42; rintro e W4 ⟨rfl, hR, hM⟩; have HM4 := hid hM; clear hM hR)
          go_ret
          exact .inl ⟨HS.out, rfl, _, _, MS1.out.trans HM4.out⟩
        · have C42 := hid (K42.mono fun e w' q => oneB_some q hn)
          rw [ha] at C42
          have HS := hid (show Bin.stepR (100 :: ys) = match Bin.rowF Lra.added r with
            | none => none
            | some (hs, r1) => some (⟨2, n, [], hs⟩, r1) by rw [HST.out, Bin.delR, hn]; simp only [ha, if_true]; rfl)
          have KL := fun (w : World) (hR : RB w0 base rb w b r 2 n [] [] 0 (.slice o1 0 n1) (.slice o2 0 n2)) => row44_48 w0 base rb w b r 2 n [] 0 (.slice o1 0 n1) (.slice o2 0 n2) hR (by have h1 := HLS.out; have h2 := HZ.out; omega)
          clear K42 hn HST ha
          cases hl : Bin.rowF Lra.added r with
          | none =>
            have CL := hid (fun w hR => (KL w hR).mono fun e w' q => hintsB_none q hl)
            have HS2 := hid (show Bin.stepR (100 :: ys) = none by rw [HS.out, hl])
            clear KL hl HS
            go_wp2_with (first
              | (go_at_call 42; refine C42.out.mono ?_; clear C42; rintro e W4 ⟨rfl, hR, hM⟩; have HM4 := hid hM; have HR4 := hid hR; clear hM hR)
              | (go_at_call 44; refine (CL.out _ HR4.out).mono ?_; clear CL; rintro e W5 ⟨rfl, lv5, hv5, hM⟩; have HM5 := hid hM; clear hM))
            go_ret
            exact .inl ⟨HS2.out, rfl, _, _, MS1.out.trans (HM4.out.trans HM5.out)⟩
          | some p =>
            obtain ⟨xs, r1⟩ := p
            have CL := hid (fun w hR => (KL w hR).mono fun e w' q => hintsB_some q hl)
            have HS2 := hid (show Bin.stepR (100 :: ys) = some (⟨2, n, [], xs⟩, r1) by rw [HS.out, hl])
            clear KL hl HS
            go_wp2_with (first
              | (go_at_call 42; refine C42.out.mono ?_; clear C42; rintro e W4 ⟨rfl, hR, hM⟩; have HM4 := hid hM; have HR4 := hid hR; clear hM hR)
              | (go_at_call 44; refine (CL.out _ HR4.out).mono ?_; clear CL; rintro e W5 ⟨rfl, hv5, hR, hM⟩; have HM5 := hid hM; have HR5 := hid hR; clear hM hR))
            go_ret
            refine .inr ⟨⟨2, n, [], xs⟩, r1, _, hv5, HS2.out, rfl, ?_, MS1.out.trans (HM4.out.trans HM5.out)⟩
            simpa using HR5.out
    · have h1 : (y == 97) = false := by simpa using h97
      have h2 : (y == 100) = false := by simpa using h100
      have HS := hid (show Bin.stepR (y :: ys) = none by rw [Bin.stepR, if_neg h97, if_neg h100])
      have HM9 := hid HM2'.out
      clear MS HB3 h97 h100
      go_wp2
      go_ret
      exact .inl ⟨HS.out, rfl, _, _, HM9.out⟩
end Go.Proofs.Ytmgeoeajnpnadaa
