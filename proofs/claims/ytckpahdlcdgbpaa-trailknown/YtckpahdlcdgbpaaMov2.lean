/- Move: the call. -/
import Derived.Test.YtckpahdlcdgbpaaMov
namespace Trl
def moveE (s : S) (to : List Int) : Int := if movB s.R to = true then 0 else 160
def moveS (s : S) (to : List Int) : S := if movB s.R to = true then move s to else s
end Trl
namespace Go.Proofs.Ytckpahdlcdgbpaa
open Go.RowKit Go.Maps
set_option linter.unusedVariables false
set_option maxRecDepth 100000

theorem Tr.set1 {Q : Nat → Prop} {tb gv : Nat} {lv bv : Value} {n : Nat} {f : Nat → Trl.K} {R : List Trl.E} {B : List Nat} {h : Nat} {W : World} (H : Tr Q tb gv lv bv n f R B h W) {v : Nat} (hv : v < n) (r : Int) :
    Tr Q tb gv lv bv n (fun u => if u = v then ⟨(f v).lit, (f v).lev, r, (f v).pla⟩ else f u) R B h (W.setCell ⟨gv, v * 4 + 2, none⟩ (.int .i64 r)) ∧ Fr pA Q W (W.setCell ⟨gv, v * 4 + 2, none⟩ (.int .i64 r)) := by
  obtain ⟨n1, n2, n3, n4, n5, n6⟩ := H.apart
  obtain ⟨cur, q1, q2⟩ := H.var
  have hoth : ∀ x, x ≠ gv → (W.setCell ⟨gv, v * 4 + 2, none⟩ (.int .i64 r)).heap[x]? = W.heap[x]? := fun x hx => heap_other W _ hx
  have hsz : (W.setCell ⟨gv, v * 4 + 2, none⟩ (.int .i64 r)).heap.size = W.heap.size := by simp [World.setCell]
  refine ⟨⟨fun g hg => by rw [hsz]; exact H.lt g hg, H.nt, H.nv, H.nl, H.nb, (hoth _ n1).trans H.blk, ⟨_, heap_set_row q1 _, q2.set1 hv r⟩, own_other H.lits n4 hoth, own_other H.begs n5 hoth⟩, Fr.set W _ H.nv (fun o ho => by rw [q1] at ho; cases ho; exact .inr (.inl rfl))⟩
/-- A row of numbers that stays while what is known of the variables turns. -/
def StaysV (W : World) (a : Option Addr) (to : List Int) : Prop := ∀ w', Fr (fun o => ∃ cs fr, o = Obj.cells cs 74 fr) (fun _ => False) W w' → Hnts w' a to
theorem StaysV.here {W : World} {a : Option Addr} {to : List Int} (h : StaysV W a to) : Hnts W a to := h W (Fr.refl _ _ _)
set_option maxHeartbeats 4000000 in
theorem move19 {Q : Nat → Prop} {tb n : Nat} {s : Trl.S} {W : World} (H : Trx Q tb n s W) (a : Option Addr) (k cap : Nat) (to : List Int) (hk : to.length = k) (hK : k ≤ 35184372088832) (ht : StaysV W a to) :
    Calls Try.prog 19 #[.pointer (some ⟨tb, 0, none⟩), .slice a k cap] W fun e w' => e = .returned (.int .i64 (Trl.moveE s to)) ∧ Did Q tb n W (Trl.moveS s to) w' := by
  have C45 := hid (movable45 H a k cap to hk hK ht.here)
  have HD := hid (fun (w : World) (hd : Drawn W w) => Did.below H hd.below)
  unfold Trl.moveE Trl.moveS
  by_cases hm : Trl.movB s.R to = true
  · rw [if_pos hm, if_pos hm]
    rw [hm] at C45
    obtain ⟨gv, lv, bv, h1, h2⟩ := H
    obtain ⟨o, c, rfl⟩ := own_slc h1.lits
    have hmv := Trl.movB_iff.1 hm
    have hlen := h2.len
    have hn := h2.n
    have HMV := hid hmv
    have HT := hid h1
    have HOK := hid h2
    have HTO := hid ht
    have HKK := hid hk
    have hsh : s.R.length = 0 ∨ ∃ g, o = some ⟨g, 0, none⟩ := by
      rcases Nat.eq_zero_or_pos s.R.length with h0 | h0
      · exact .inl h0
      · obtain ⟨g, _, _, e, _⟩ := own_some h1.lits h0
        cases e
        exact .inr ⟨g, rfl⟩
    clear h1 h2 ht hk hmv hm HD
    go_enter Try.func19, Try.ntmps19
    go_wp2_with (fail)
    go_at_call 45
    refine C45.out.mono ?_
    clear C45
    rintro e V ⟨rfl, hd⟩
    have hTV := HT.out.below hd.below
    have c1 := row_cell hTV.blk 1
    have HTV := hid (show Tr Q tb gv (.slice o s.R.length c) bv n (fun u => Trl.know (Trl.mvd s.R to 0) ((u : Nat) + 1)) s.R s.B s.h V from by rw [Trl.mvd_zero]; exact hTV)
    have HFV := hid (show Fr (fun o => ∃ cs fr, o = Obj.cells cs 74 fr) Q W V from Fr.of_below hd.below)
    clear hTV hd
    go_wp2_with (fail)
    go_loopw [21] (fun iv wr => ∃ i : Nat, i ≤ s.R.length ∧ iv = .int .i64 i ∧ Hid (Tr Q tb gv (.slice o s.R.length c) bv n (fun u => Trl.know (Trl.mvd s.R to i) ((u : Nat) + 1)) s.R s.B s.h wr) ∧ Hid (Fr (fun o => ∃ cs fr, o = Obj.cells cs 74 fr) Q W wr)) (fun iv _ => s.R.length - (intOf iv).toNat)
    case atStart => exact ⟨0, Nat.zero_le _, rfl, HTV, HFV⟩
    case round =>
      clear HTV HFV
      obtain ⟨i, hi, rfl, HTR, HFR⟩ := hrel
      by_cases hlt : i < s.R.length
      · have hlt' : (i : Int) < s.R.length := by omega
        obtain ⟨g, rfl⟩ : ∃ g, o = some ⟨g, 0, none⟩ := by
          rcases hsh with h0 | h0
          · omega
          · exact h0
        have hTr := HTR.out
        have d0 := hTr.lits.cellAt i (by omega)
        rw [show (ilits s.R)[i]? = some (.int .i32 (Trl.get s.R i).lit) by unfold ilits; rw [List.getElem?_map, Trl.get_at hlt]; rfl] at d0
        have hlit := HOK.out.lits _ (Trl.get_mem hlt)
        obtain ⟨v, hv⟩ : ∃ v : Nat, Trl.vr (Trl.get s.R i).lit = (v : Int) + 1 := ⟨(Trl.vr (Trl.get s.R i).lit - 1).toNat, by omega⟩
        have hvn : v < n := by omega
        have C42 := hid (of42 hTr hn _ (i32_get' HOK.out hlt) v hv hvn)
        obtain ⟨_, _, x2, _, fz⟩ := hTr.cells hvn
        have hkn : Trl.know (Trl.mvd s.R to i) ((v : Int) + 1) = ⟨(Trl.get s.R i).lit, (Trl.get s.R i).lev, (Trl.get s.R i).rea, i⟩ := by
          unfold Trl.know
          rw [Trl.idx_lit (Trl.mvd_lit s.R to i), ← hv, Trl.idx_at HOK.out.uniq hlt]
          simp only [Option.elim_some]
          rw [Trl.mvd_get hlt, if_neg (Nat.lt_irrefl _)]
        simp only [hkn] at x2
        have hrea := HOK.out.rea _ (Trl.get_mem hlt)
        have hmvi := HMV.out _ (Trl.get_mem hlt)
        have HST := hid (fun (q : Nat) (r : Int) => (hTr.below (Drawn.below (w' := wr.drewN q) ⟨q, rfl⟩)).set1 hvn r)
        have HNX := hid (fun (u : Nat) => Trl.know_mvd (to := to) HOK.out hlt ((u : Nat) + 1))
        have hmvd : Trl.mv to (Trl.get s.R i) = if (Trl.get s.R i).rea = -1 then Trl.get s.R i else { Trl.get s.R i with rea := to.getD (Trl.get s.R i).rea.toNat 0 } := rfl
        have f2 := fun q => show (wr.drewN q).frozen? ⟨gv, v * 4 + 2, none⟩ = false from fz _
        have x2d := fun q => show (wr.drewN q).cell? ⟨gv, v * 4 + 2, none⟩ = some (.int .i64 (Trl.get s.R i).rea) from x2
        by_cases hr : (Trl.get s.R i).rea = -1
        · rw [if_pos hr] at hmvd
          have HT2 := hid (fun q => show Tr Q tb gv (.slice (some ⟨g, 0, none⟩) s.R.length c) bv n (fun u => Trl.know (Trl.mvd s.R to (i + 1)) ((u : Nat) + 1)) s.R s.B s.h (wr.drewN q) from by
            have h0 := hTr.below (Drawn.below (w' := wr.drewN q) ⟨q, rfl⟩)
            obtain ⟨cu, r1, r2⟩ := h0.var
            refine ⟨h0.lt, h0.nt, h0.nv, h0.nl, h0.nb, h0.blk, ⟨cu, r1, r2.congr (fun u _ => ?_)⟩, h0.lits, h0.begs⟩
            rw [HNX.out u]
            split
            · rename_i e
              rw [e, hv, hkn, hmvd]
            · rfl)
          have HF2 := hid (fun q => show Fr (fun o => ∃ cs fr, o = Obj.cells cs 74 fr) Q W (wr.drewN q) from HFR.out.trans (Fr.of_below (Drawn.below ⟨q, rfl⟩)))
          rw [hr] at x2 x2d
          clear hTr hlit hkn hmvd HST HNX hrea hmvi fz HTR HFR hr
          generalize (Trl.get s.R i).lit = L at *
          go_wp2_with (go_at_call 42; refine C42.out.mono ?_; rintro e w4 ⟨rfl, q4, rfl⟩)
          exact ⟨⟨i + 1, by omega, by go_num, hid (HT2.out _), hid (HF2.out _)⟩, by simp only [intOf]; omega⟩
        · rw [if_neg hr] at hmvd
          have hrk : 0 ≤ (Trl.get s.R i).rea ∧ (Trl.get s.R i).rea < to.length := by omega
          obtain ⟨r0, hr0⟩ : ∃ r0 : Nat, (Trl.get s.R i).rea = r0 := ⟨(Trl.get s.R i).rea.toNat, by omega⟩
          have hr0k : r0 < to.length := by omega
          have hto := HTO.out _ (HFR.out.mono (fun _ h => h) (fun _ h => h.elim))
          obtain ⟨bt, ot, e3, _, hct, _, _⟩ := hto.at (j := r0) hr0k
          subst e3
          have hctd := fun q => show (wr.drewN q).cell? ⟨bt, ot + r0, none⟩ = some (.int .i64 (to.getD r0 0)) from hct
          have hr0l : (r0 : Int) < k := by have := HKK.out; omega
          have HT2 := hid (fun q => show Tr Q tb gv (.slice (some ⟨g, 0, none⟩) s.R.length c) bv n (fun u => Trl.know (Trl.mvd s.R to (i + 1)) ((u : Nat) + 1)) s.R s.B s.h ((wr.drewN q).setCell ⟨gv, v * 4 + 2, none⟩ (.int .i64 (to.getD r0 0))) from by
            have h0 := (HST.out q (to.getD r0 0)).1
            obtain ⟨cu, r1, r2⟩ := h0.var
            refine ⟨h0.lt, h0.nt, h0.nv, h0.nl, h0.nb, h0.blk, ⟨cu, r1, r2.congr (fun u _ => ?_)⟩, h0.lits, h0.begs⟩
            rw [HNX.out u]
            by_cases e : u = v
            · rw [if_pos e, if_pos (by rw [hv, e]), hkn, hmvd, hr0, Int.toNat_natCast]
            · rw [if_neg e, if_neg (by rw [hv]; omega)])
          have HF2 := hid (fun q => show Fr (fun o => ∃ cs fr, o = Obj.cells cs 74 fr) Q W ((wr.drewN q).setCell ⟨gv, v * 4 + 2, none⟩ (.int .i64 (to.getD r0 0))) from (HFR.out.trans (Fr.of_below (Drawn.below ⟨q, rfl⟩))).trans (Fr.set (wr.drewN q) _ hTr.nv (fun ob ho => by
            obtain ⟨cu, r1, _⟩ := hTr.var
            have ho' : wr.heap[gv]? = some ob := ho
            rw [r1] at ho'; cases ho'; exact ⟨_, _, rfl⟩)))
          rw [hr0] at x2 x2d
          have hrb : ((r0 : Int) != -1) = true := by simp
          clear hTr hlit hkn hmvd HST HNX hrea hmvi fz HTR HFR hr hct hto hrk
          generalize (Trl.get s.R i).lit = L at *
          generalize to.getD r0 0 = tv at *
          go_wp2_with (go_at_call 42; refine C42.out.mono ?_; rintro e w4 ⟨rfl, q4, rfl⟩)
          exact ⟨⟨i + 1, by omega, by go_num, hid (HT2.out _), hid (HF2.out _)⟩, by simp only [intOf]; omega⟩
      · have hge : ¬ (i : Int) < s.R.length := by omega
        obtain rfl : i = s.R.length := by omega
        have HO := hid (show Did Q tb n W (Trl.move s to) wr from by
          have h0 := HTR.out
          rw [Trl.mvd_all] at h0
          refine ⟨⟨gv, _, bv, ⟨h0.lt, h0.nt, h0.nv, h0.nl, h0.nb, h0.blk, h0.var, ?_, h0.begs⟩, HOK.out.move (fun x hx => (HTO.out.here.1 x hx).2) HMV.out⟩, HFR.out.mono (fun o h => by obtain ⟨cs, fr, rfl⟩ := h; exact .inr (.inl rfl)) (fun _ h => h)⟩
          show wr.ownsRow 0 33 1 _ (s.R.map (Trl.mv to)).length (ilits (s.R.map (Trl.mv to)))
          rw [List.length_map, show ilits (s.R.map (Trl.mv to)) = ilits s.R by unfold ilits; rw [List.map_map]; exact List.map_congr_left (fun e _ => by simp [(Trl.mv_lit to e).1])]
          exact h0.lits)
        clear HTR HFR
        go_wp2
        go_ret
        exact ⟨rfl, HO.out⟩
  · rw [if_neg hm, if_neg hm]
    have hmf : Trl.movB s.R to = false := by simpa using hm
    rw [hmf] at C45
    clear H hm hmf
    go_enter Try.func19, Try.ntmps19
    go_wp2_with (go_at_call 45; refine C45.out.mono ?_; rintro e V ⟨rfl, hd⟩)
    go_ret
    exact ⟨rfl, HD.out _ hd⟩
end Go.Proofs.Ytckpahdlcdgbpaa
