/- Move. -/
import Derived.Test.YtckpahdlcdgbpaaPu
namespace Trl
def okR (to : List Int) (e : E) : Bool := e.rea == -1 || (decide (e.rea < to.length) && decide (0 ≤ to.getD e.rea.toNat 0))
def movB (R : List E) (to : List Int) : Bool := R.all (okR to)
theorem okR_iff {to : List Int} {e : E} : okR to e = true ↔ e.rea = -1 ∨ (e.rea < to.length ∧ 0 ≤ to.getD e.rea.toNat 0) := by
  unfold okR
  simp only [Bool.or_eq_true, Bool.and_eq_true, beq_iff_eq, decide_eq_true_eq]
theorem movB_iff {R : List E} {to : List Int} : movB R to = true ↔ movable R to := by
  unfold movB movable
  rw [List.all_eq_true]
  exact ⟨fun h e he => okR_iff.1 (h e he), fun h e he => okR_iff.2 (h e he)⟩
theorem movB_take {R : List E} {to : List Int} {i : Nat} (h : i < R.length) : movB (R.take (i + 1)) to = (movB (R.take i) to && okR to (get R i)) := by
  unfold movB
  rw [List.take_add_one, get_at h, List.all_append]
  simp
theorem movB_false {R : List E} {to : List Int} {i : Nat} (h : i < R.length) (hf : okR to (get R i) = false) : movB R to = false := by
  unfold movB
  rw [List.all_eq_false]
  exact ⟨get R i, get_mem h, by rw [hf]; simp⟩
/-- The first i are moved. -/
def mvd (R : List E) (to : List Int) (i : Nat) : List E := (R.take i).map (mv to) ++ R.drop i
theorem mvd_zero (R : List E) (to : List Int) : mvd R to 0 = R := by simp [mvd]
theorem mvd_all (R : List E) (to : List Int) : mvd R to R.length = R.map (mv to) := by simp [mvd]
theorem mvd_lit (R : List E) (to : List Int) (i : Nat) : (mvd R to i).map E.lit = R.map E.lit := by
  unfold mvd
  rw [List.map_append, List.map_map, show (E.lit ∘ mv to) = E.lit from funext (fun e => (mv_lit to e).1), ← List.map_append, List.take_append_drop]
theorem mvd_get {R : List E} {to : List Int} {i j : Nat} (hj : j < R.length) : get (mvd R to i) j = if j < i then mv to (get R j) else get R j := by
  unfold mvd get
  simp only [List.getD, List.getElem?_append, List.length_map, List.length_take]
  by_cases h : j < i
  · rw [if_pos (by omega), if_pos h]
    simp [List.getElem?_take_of_lt h, hj]
  · rw [if_neg (by omega), if_neg h, List.getElem?_drop, show i + (j - min i R.length) = j by omega]
theorem idx_lit {R R' : List E} (h : R'.map E.lit = R.map E.lit) (v : Int) : idx R' v = idx R v := by
  have e : ∀ Q : List E, idx Q v = (Q.map E.lit).findIdx? (fun l => vr l == v) := fun Q => by unfold idx; rw [List.findIdx?_map]; rfl
  rw [e, e, h]
theorem know_mvd {n : Nat} {s : S} (h : Ok n s) {to : List Int} {i : Nat} (hi : i < s.R.length) (v : Int) :
    know (mvd s.R to (i + 1)) v = if v = vr (get s.R i).lit then ⟨(get s.R i).lit, (get s.R i).lev, (mv to (get s.R i)).rea, i⟩ else know (mvd s.R to i) v := by
  unfold know
  rw [idx_lit (mvd_lit s.R to (i + 1)), idx_lit (mvd_lit s.R to i)]
  by_cases hv : v = vr (get s.R i).lit
  · rw [if_pos hv, hv, idx_at h.uniq hi]
    simp only [Option.elim_some]
    rw [mvd_get hi, if_pos (by omega), (mv_lit to _).1, (mv_lit to _).2]
  · rw [if_neg hv]
    cases hx : idx s.R v with
    | none => rfl
    | some j =>
      obtain ⟨h1, h2⟩ := idx_some hx
      have hji : j ≠ i := by rintro rfl; exact hv h2.symm
      simp only [Option.elim_some]
      rw [mvd_get h1, mvd_get h1]
      by_cases hl : j < i
      · rw [if_pos hl, if_pos (by omega)]
      · rw [if_neg hl, if_neg (by omega)]
end Trl
namespace Go.Proofs.Ytckpahdlcdgbpaa
open Go.RowKit Go.Maps
set_option linter.unusedVariables false
set_option maxRecDepth 100000

theorem i32_get' {n : Nat} {s : Trl.S} (h : Trl.Ok n s) {i : Nat} (hi : i < s.R.length) : I32 (Trl.get s.R i).lit := by
  have h1 := h.lits _ (Trl.get_mem hi)
  have h2 := h.n
  unfold Trl.vr at h1
  unfold I32
  split at h1 <;> omega
set_option maxHeartbeats 4000000 in
theorem movable45 {Q : Nat → Prop} {tb n : Nat} {s : Trl.S} {W : World} (H : Trx Q tb n s W) (a : Option Addr) (k cap : Nat) (to : List Int) (hk : to.length = k) (hK : k ≤ 35184372088832) (ht : Hnts W a to) :
    Calls Try.prog 45 #[.pointer (some ⟨tb, 0, none⟩), .slice a k cap] W fun e w' => e = .returned (.bool (Trl.movB s.R to)) ∧ Drawn W w' := by
  obtain ⟨gv, lv, bv, h1, h2⟩ := H
  obtain ⟨o, c, rfl⟩ := own_slc h1.lits
  have hlen := h2.len
  have hn := h2.n
  have c1 := row_cell h1.blk 1
  have HT := hid h1
  have HOK := hid h2
  have HTO := hid ht
  have HKK := hid hk
  have hsh : s.R.length = 0 ∨ ∃ g, o = some ⟨g, 0, none⟩ := by
    rcases Nat.eq_zero_or_pos s.R.length with h0 | h0
    · exact .inl h0
    · obtain ⟨g, _, _, e, _⟩ := own_some h1.lits h0
      cases e
      exact .inr ⟨g, rfl⟩
  clear h1 h2 ht hk
  go_enter Try.func45, Try.ntmps45
  go_wp2
  go_loopw [13] (fun iv wr => ∃ i : Nat, i ≤ s.R.length ∧ iv = .int .i64 i ∧ Hid (Trl.movB (s.R.take i) to = true) ∧ Hid (Drawn W wr)) (fun iv _ => s.R.length - (intOf iv).toNat)
  case atStart => exact ⟨0, Nat.zero_le _, rfl, hid rfl, hid (Drawn.refl _)⟩
  case round =>
    obtain ⟨i, hi, rfl, HM, HDr⟩ := hrel
    by_cases hlt : i < s.R.length
    · have hlt' : (i : Int) < s.R.length := by omega
      obtain ⟨g, rfl⟩ : ∃ g, o = some ⟨g, 0, none⟩ := by
        rcases hsh with h0 | h0
        · omega
        · exact h0
      have hTr := HT.out.below HDr.out.below
      have d0 := hTr.lits.cellAt i (by omega)
      rw [show (ilits s.R)[i]? = some (.int .i32 (Trl.get s.R i).lit) by unfold ilits; rw [List.getElem?_map, Trl.get_at hlt]; rfl] at d0
      have hlit := HOK.out.lits _ (Trl.get_mem hlt)
      obtain ⟨v, hv⟩ : ∃ v : Nat, Trl.vr (Trl.get s.R i).lit = (v : Int) + 1 := ⟨(Trl.vr (Trl.get s.R i).lit - 1).toNat, by omega⟩
      have hvn : v < n := by omega
      have C42 := hid (of42 hTr hn _ (i32_get' HOK.out hlt) v hv hvn)
      obtain ⟨_, _, x2, _, _⟩ := hTr.cells hvn
      have hkn := Trl.know_at HOK.out hlt
      rw [hv] at hkn
      simp only [hkn] at x2
      have hrea := HOK.out.rea _ (Trl.get_mem hlt)
      have HTK := hid (Trl.movB_take (to := to) hlt)
      have HTF := hid (Trl.movB_false (to := to) hlt)
      have HOKR := hid (Trl.okR_iff (to := to) (e := Trl.get s.R i))
      obtain ⟨rr, hrr⟩ : ∃ rr, (Trl.get s.R i).rea = rr := ⟨_, rfl⟩
      rw [hrr] at x2 hrea HOKR
      have x2d := fun q => show (wr.drewN q).cell? ⟨gv, v * 4 + 2, none⟩ = some (.int .i64 rr) from x2
      generalize Trl.okR to (Trl.get s.R i) = okb at *
      clear hlit hkn hrr
      by_cases hr : rr = -1
      · subst hr
        have hok : okb = true := HOKR.out.2 (.inl rfl)
        have HM2 := hid (show Trl.movB (s.R.take (i + 1)) to = true by rw [HTK.out, HM.out, hok]; rfl)
        clear HOKR HTK HTF hok hTr
        generalize (Trl.get s.R i).lit = L at *
        go_wp2_with (go_at_call 42; refine C42.out.mono ?_; rintro e w4 ⟨rfl, q4, rfl⟩)
        exact ⟨⟨i + 1, by omega, by go_num, HM2, hid (HDr.out.drewN _)⟩, by simp only [intOf]; omega⟩
      · have hrb : (rr != -1) = true := by simpa using hr
        have hr0 : 0 ≤ rr := by omega
        by_cases hge : (k : Int) ≤ rr
        · have hok : okb = false := by
            cases hb : okb
            · rfl
            · have := HOKR.out.1 hb; have := HKK.out; omega
          have HF := hid (HTF.out hok)
          clear HOKR HTK HTF hok hTr
          generalize (Trl.get s.R i).lit = L at *
          go_wp2_with (go_at_call 42; refine C42.out.mono ?_; rintro e w4 ⟨rfl, q4, rfl⟩)
          go_ret
          exact ⟨by rw [HF.out]; rfl, HDr.out.drewN _⟩
        · obtain ⟨r0, rfl⟩ : ∃ r0 : Nat, rr = r0 := ⟨rr.toNat, by omega⟩
          have hr0k : r0 < to.length := by have := HKK.out; omega
          obtain ⟨bt, ot, e3, _, hct, _, _⟩ := (HTO.out.below HDr.out.below).at (j := r0) hr0k
          subst e3
          have hctd := fun q => show (wr.drewN q).cell? ⟨bt, ot + r0, none⟩ = some (.int .i64 (to.getD r0 0)) from hct
          have hgt : (r0 : Int) < k := by omega
          by_cases hneg : to.getD r0 0 < 0
          · have hok : okb = false := by
              cases hb : okb
              · rfl
              · have := HOKR.out.1 hb; rw [Int.toNat_natCast] at this; omega
            have HF := hid (HTF.out hok)
            clear HOKR HTK HTF hok hTr hct
            generalize (Trl.get s.R i).lit = L at *
            generalize to.getD r0 0 = tv at *
            go_wp2_with (go_at_call 42; refine C42.out.mono ?_; rintro e w4 ⟨rfl, q4, rfl⟩)
            go_ret
            exact ⟨by rw [HF.out]; rfl, HDr.out.drewN _⟩
          · have hok : okb = true := HOKR.out.2 (.inr ⟨by have := HKK.out; omega, by rw [Int.toNat_natCast]; omega⟩)
            have HM2 := hid (show Trl.movB (s.R.take (i + 1)) to = true by rw [HTK.out, HM.out, hok]; rfl)
            clear HOKR HTK HTF hok hTr hct
            generalize (Trl.get s.R i).lit = L at *
            generalize to.getD r0 0 = tv at *
            go_wp2_with (go_at_call 42; refine C42.out.mono ?_; rintro e w4 ⟨rfl, q4, rfl⟩)
            exact ⟨⟨i + 1, by omega, by go_num, HM2, hid (HDr.out.drewN _)⟩, by simp only [intOf]; omega⟩
    · have hge : ¬ (i : Int) < s.R.length := by omega
      have HE := hid (show Trl.movB s.R to = true by have h := HM.out; rwa [List.take_of_length_le (by omega)] at h)
      go_wp2
      go_ret
      exact ⟨by rw [HE.out]; rfl, HDr.out⟩
end Go.Proofs.Ytckpahdlcdgbpaa
