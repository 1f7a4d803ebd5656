/- follows: the walk. -/
import Derived.Test.YthpebfojkpnojaaGreatJaj
/- follows: the walk. -/
namespace Go.Proofs.YthpebfojkpnojaaGreat
open Go.RowKit Go.Maps
set_option linter.unusedVariables false
set_option linter.unusedSimpArgs false
set_option maxRecDepth 100000
def denyR (F : Int → Option (List Int)) (T c hs : List Int) : Int := match Bas.denyP T c with
  | none => 0
  | some T => Bas.goP F T hs
/-- What holds of what was found. -/
structure Fnd (m k : Nat) (ts T : List Int) : Prop where
  tru : Bas.Tru T.reverse ts
  len : T.length ≤ k
  zero : ts.getD 0 0 = 0
  range : ∀ x ∈ T.reverse, I32 x ∧ 1 ≤ Bas.vr x ∧ Bas.vr x < m
/-- What a check leaves. -/
def FolOut (M : Nat → Prop) (bb K : Nat) (s : Bas.S) (W : World) (r : Int) (en : Ending) (w' : World) : Prop := en = .returned (.int .i64 r) ∧ Bs M bb K s w' ∧ Fm M W w'
set_option maxHeartbeats 8000000 in
theorem follows30 {M : Nat → Prop} {bb K : Nat} {s : Bas.S} {W : World} (h : Bs M bb K s W) (hlv : ∀ e ∈ s.live, ∀ x ∈ e.lits, 1 ≤ Bas.vr x ∧ Bas.vr x ≤ s.vars) (hll : ∀ e ∈ s.live, e.lits.length ≤ 100000000)
    (a : Option Addr) (n c : Nat) (lits : List Int) (hn : lits.length = n) (hN : n ≤ 100000000) (hl : LI M W a lits) (hv : ∀ x ∈ lits, 1 ≤ Bas.vr x ∧ Bas.vr x ≤ s.vars)
    (ah : Option Addr) (nh ch : Nat) (hs : List Int) (hnh : hs.length = nh) (hNh : nh ≤ 100000000) (hh : HI M W ah hs) :
    Calls Tryz.prog 68 #[.pointer (some ⟨bb, 0, none⟩), .slice a n c, .slice ah nh ch] W fun en w' => FolOut M bb K s W (Bas.followsP (Bas.lookL s.live) lits hs) en w' := by
  have hvr := h.vars
  obtain ⟨gt, ct, hMg, x8, hbg, hgl, hT0, hfin⟩ := h.truths
  obtain ⟨m, hm⟩ : ∃ m, s.vars.toNat + 1 = m := ⟨_, rfl⟩
  rw [hm] at x8 hT0 hfin
  have hmm : m ≤ 1048577 := by omega
  have HC0 := hid (Chk.new (bb := bb) hT0 hgl)
  have HFIN := hid (fun (wr w' : World) (pb fb : Nat) (ts T : List Int) (hc : Chk bb pb fb gt m ct ts T W wr) (ht : TrW gt m ct (List.replicate m 0) wr w') => show Bs M bb K s w' ∧ Fm M W w' from
    hfin w' (ht.os.trans hc.os) (ht.tape.trans hc.tape) (ht.output.trans hc.output) (by rw [ht.size]; exact hc.size) (fun q hq hne => (ht.block q hne).trans (hc.block q hq hne)) ht.row)
  have HLV := hid (fun k (hk : k < lits.length) => show 1 ≤ Bas.vr (lits.getD k 0) ∧ Bas.vr (lits.getD k 0) < m from by
    have := hv _ (getD_mem lits k hk); omega)
  have HLI : Hid (∀ (X : World) (pb fb : Nat) (ts T : List Int), Chk bb pb fb gt m ct ts T W X → ∀ k, k < lits.length → ∃ b off, a = some ⟨b, off, none⟩ ∧ X.cell? ⟨b, off + k, none⟩ = some (.int .i32 (lits.getD k 0)) ∧ I32 (lits.getD k 0)) := fun X pb fb ts T hc k hk => by
    obtain ⟨b, off, e, hbl, hcc, hlo, hhi⟩ := Row.at hl.1 hk
    have hne : b ≠ gt := fun e2 => hl.2 b off e (fun e => by rw [e] at hk; simp at hk) (e2 ▸ hMg)
    exact ⟨b, off, e, (World.cell?_of_block (hc.block b hbl hne)).trans hcc, hlo, hhi⟩
  have HX8 := hid (fun (X : World) (pb fb : Nat) (ts T : List Int) (hc : Chk bb pb fb gt m ct ts T W X) => hc.x8 x8 hbg)
  have HN := hid hn
  have HTR0 := hid (Bas.tru_nil m)
  obtain ⟨R, hR⟩ : ∃ R, Bas.followsP (Bas.lookL s.live) lits hs = R := ⟨_, rfl⟩
  have HR := hid hR
  rw [hR]
  have TK := hid (fun (X : World) (ts T : List Int) (hc : Chk bb W.heap.size (W.heap.size + 1) gt m ct ts T W X) => fun (l : Int) => take50 hc x8 hbg hmm (l := l))
  have LV := hid (fun (X : World) (ts T : List Int) (hc : Chk bb W.heap.size (W.heap.size + 1) gt m ct ts T W X) => hc.leave x8 hbg hmm)
  have RET := hid (fun (X : World) (k : Nat) (ts T : List Int) (hc : Chk bb W.heap.size (W.heap.size + 1) gt m ct ts T.reverse W X) (hf : Fnd m k ts T) (hk : k ≤ 1000000000) (u : FrameMode) => show CallsD Tryz.prog 99 #[.pointer (some ⟨W.heap.size + 1, 0, none⟩), .pointer (some ⟨W.heap.size, 0, none⟩)] u X fun e u' w' => u' = u ∧ e = .returned (.tuple #[]) ∧ Bs M bb K s w' ∧ Fm M W w' from
    (LV.out X ts T.reverse hc hf.tru (by rw [List.length_reverse]; exact Nat.le_trans hf.len hk) hf.range hf.zero u).mono (by
      rintro e u' w' ⟨h1, h2, h3⟩
      exact ⟨h1, h2, HFIN.out X w' _ _ _ _ hc h3⟩))
  clear LV
  have sh : Hid (n = 0) ∨ ∃ b off, a = some ⟨b, off, none⟩ := by
    rcases hl.1.2 with h | ⟨b, off, e, _⟩
    · left; rw [h] at hn; exact hn.symm
    · exact .inr ⟨b, off, e⟩
  have HENT := hid (fun (X : World) (pb fb : Nat) (ts T : List Int) (hc : Chk bb pb fb gt m ct ts T W X) (id : Int) (hi : I64 id) => Chk.ent h hMg hc hT0 id hi)
  have HHI := hid (fun (X : World) (pb fb : Nat) (ts T : List Int) (hc : Chk bb pb fb gt m ct ts T W X) => hc.row_ hMg hh)
  have HLE := hid (fun (e : Bas.E) (id : Int) (he : Bas.look s.live id = some e) => show e.lits.length ≤ 100000000 ∧ ∀ x ∈ e.lits, 1 ≤ Bas.vr x ∧ Bas.vr x < m from
    ⟨hll e (Bas.look_mem he).1, fun x hx => by have := hlv e (Bas.look_mem he).1 x hx; omega⟩)
  have HNH := hid hnh
  have sh2 : Hid (nh = 0) ∨ ∃ b off, ah = some ⟨b, off, none⟩ := by
    rcases hh.1.2 with h | ⟨b, off, e, _⟩
    · left; rw [h] at hnh; exact hnh.symm
    · exact .inr ⟨b, off, e⟩
  clear h hlv hll hn hl hv hnh hT0 hfin hR x8 hh
  rcases sh with Z | ⟨b, off, rfl⟩
  all_goals
    go_enter_defers Tryz.func68, Tryz.ntmps68
    go_wp2_with fail
    have HC1 := HC0
    go_loopw [10, 21] (fun _ iv wr => ∃ (k : Nat) (ts T : List Int), k ≤ n ∧ iv = .int .i64 k ∧ Hid (Chk bb W.heap.size (W.heap.size + 1) gt m ct ts T.reverse W wr) ∧ Hid (Fnd m k ts T) ∧ Hid (denyR (Bas.lookL s.live) T (lits.drop k) hs = R)) (fun _ iv _ => n - (intOf iv).toNat)
    case atStart => exact ⟨0, _, [], Nat.zero_le _, rfl, HC1, hid ⟨HTR0.out, Nat.le_refl _, by rw [List.getD, List.getElem?_replicate]; split <;> rfl, fun x hx => by cases hx⟩, hid (by rw [List.drop_zero]; exact HR.out)⟩
    case round =>
      obtain ⟨k, ts, T, hk, rfl, HC, HF, HD⟩ := hrel
      by_cases hlt : k < n
      · first
        | (exfalso; have := Z.out; omega)
        | (have hlt' : (k : Int) < n := by omega
           have hkx : k < lits.length := by rw [HN.out]; exact hlt
           obtain ⟨b2, off2, e2, hc, hi⟩ := HLI.out wr _ _ _ _ HC.out k hkx
           cases e2
           obtain ⟨hv1, hv2⟩ := HLV.out k hkx
           have hlen : ts.length = m := by obtain ⟨cur, _, _, _, h9, _⟩ := HC.out.row; exact h9
           have HDR := hid (show lits.drop k = lits.getD k 0 :: lits.drop (k + 1) by rw [List.drop_eq_getElem_cons hkx]; simp [List.getD, hkx])
           have hcase := Bas.tru_cases HF.out.tru hv1 (by rw [hlen]; exact hv2)
           have C49 := hid (fun X => var49 (lits.getD k 0) X hi)
           have x8 := HX8.out wr _ _ _ _ HC.out
           have p0 : wr.cell? ⟨W.heap.size, 0, none⟩ = some (.pointer (some ⟨bb, 0, none⟩)) := row_cell HC.out.pbx 0
           obtain ⟨v, hv⟩ : ∃ v : Nat, Bas.vr (lits.getD k 0) = v := ⟨(Bas.vr (lits.getD k 0)).toNat, by omega⟩
           rw [hv] at C49 hcase
           have hvm : v < m := by omega
           have hvm' : (v : Int) < m := by omega
           obtain ⟨t1, _⟩ := HC.out.trw.cell hvm
           rw [show (v : Int).toNat = v from rfl] at hcase
           have HV := hid hv
           have HI := hid hi
           generalize lits.getD k 0 = l at *
           have x8d : wr.drew.cell? ⟨bb, 8, none⟩ = some (.slice (some ⟨gt, 0, none⟩) m ct) := x8
           have p0d : wr.drew.cell? ⟨W.heap.size, 0, none⟩ = some (.pointer (some ⟨bb, 0, none⟩)) := p0
           have t1d : wr.drew.cell? ⟨gt, v, none⟩ = some (.int .i32 (ts.getD v 0)) := t1
           rcases hcase with ⟨h1, h2⟩ | ⟨h1, h2, h3⟩ | ⟨h1, h2, h3⟩
           · rw [h1] at t1 t1d
             have hll : (l == l) = true := by simp
             have HR2 := hid (show 0 = R from by have := HD.out; rw [HDR.out] at this; unfold denyR at this; rw [Bas.denyP_true _ h2] at this; exact this)
             go_wp2_with fail
             refine wp_region_noPanic ?_
             go_region_with (go_at_call 71; refine (C49.out _).mono ?_; rintro e w4 ⟨rfl, hw4⟩; rw [hw4]; clear hw4)
             all_goals (refine NoPanic.normal ?_)
             all_goals
               go_wp2
               refine leaves_cons (f := 99) (args := #[.pointer (some ⟨W.heap.size + 1, 0, none⟩), .pointer (some ⟨W.heap.size, 0, none⟩)]) (by simp) (by simp [go_sem]) ?_
               refine (RET.out _ _ _ _ (HC.out.below (Below.refl _ _).drew) HF.out (by omega) .returning).mono ?_
               rintro e u' w'' ⟨rfl, rfl, hB, hF⟩
               exact ⟨_, results_tmp rfl _ _ _, by rw [← HR2.out]; rfl, hB, hF⟩
           · rw [h1] at t1
             have hl0 : l ≠ 0 := fun e => by have := HV.out; rw [e] at this; unfold Bas.vr at this; simp at this; omega
             have hll : (-l == l) = false := by simp; omega
             have hl00 : (-l == 0) = false := by simp; omega
             have HD2 := hid (show denyR (Bas.lookL s.live) T (lits.drop (k + 1)) hs = R from by have := HD.out; rw [HDR.out] at this; unfold denyR at this ⊢; rw [Bas.denyP_false _ h3 h2] at this; exact this)
             clear x8d p0d t1d
             go_wp2_with fail
             go_quiet ((go_at_call 71; exact Calls.quiet_of_same (C49.out _)))
             have x8e : (wr.drewN nq).cell? _ = _ := x8
             have p0e : (wr.drewN nq).cell? _ = _ := p0
             have t1e : (wr.drewN nq).cell? _ = _ := t1
             have HCq := hid (HC.out.below (W' := wr.drewN nq) ⟨rfl, rfl, rfl, Nat.le_refl _, fun _ _ => rfl⟩)
             clear x8 p0 t1
             generalize wr.drewN nq = wq at *
             go_wp2_with fail
             go_quiet ((go_at_call 71; exact Calls.quiet_of_same (C49.out _)))
             go_wp2
             go_roundw
             case rel => exact ⟨k + 1, ts, T, by omega, by go_num, hid (HCq.out.below ⟨rfl, rfl, rfl, Nat.le_refl _, fun _ _ => rfl⟩), hid ⟨HF.out.tru, Nat.le_succ_of_le HF.out.len, HF.out.zero, HF.out.range⟩, HD2⟩
             case measure => simp [intOf]; omega
           · rw [h1] at t1
             have hv1' : 1 ≤ Bas.vr (-l) := by rw [Bas.vr_neg]; exact hv1
             have hv2' : Bas.vr (-l) < m := by rw [Bas.vr_neg]; exact hv2
             have hl0 : l ≠ 0 := fun e => by rw [e] at hv1; unfold Bas.vr at hv1; simp at hv1
             have hlb : -1048577 < l ∧ l < 1048577 := by unfold Bas.vr at hv2; split at hv2 <;> omega
             have hll : ((0 : Int) == l) = false := by simp; omega
             have hneg : IntKind.i32.wrap (-l) = -l := by rw [IntKind.wrap_i32]; omega
             have hii : I32 (-l) := ⟨by omega, by omega⟩
             have HD2 := hid (show denyR (Bas.lookL s.live) (-l :: T) (lits.drop (k + 1)) hs = R from by have := HD.out; rw [HDR.out] at this; unfold denyR at this ⊢; rw [Bas.denyP_free _ h2 h3] at this; exact this)
             have HF2 := hid (show Fnd m (k + 1) (ts.set (Bas.vr (-l)).toNat (-l)) (-l :: T) from ⟨by
               rw [List.reverse_cons]
               exact Bas.tru_take HF.out.tru hv1' (by rw [hlen]; exact hv2') (by rw [Bas.vr_neg, HV.out]; exact h1), Nat.succ_le_succ HF.out.len, by
               rw [Bas.getD_set _ _ _ _ (by omega), if_neg (by omega)]; exact HF.out.zero, fun x hx => by
               rw [List.reverse_cons, List.mem_append, List.mem_singleton] at hx
               rcases hx with hx | rfl
               · exact HF.out.range x hx
               · exact ⟨hii, hv1', hv2'⟩⟩)
             have TK2 := hid (fun (X : World) hc => TK.out X ts T.reverse hc (-l) (by rw [List.length_reverse]; have := HF.out.len; omega) hii hv1' hv2')
             clear x8d p0d t1d hv1' hv2' hii hlb
             go_wp2_with fail
             go_quiet ((go_at_call 71; exact Calls.quiet_of_same (C49.out _)))
             have x8e : (wr.drewN nq).cell? _ = _ := x8
             have p0e : (wr.drewN nq).cell? _ = _ := p0
             have t1e : (wr.drewN nq).cell? _ = _ := t1
             have HCq := hid (HC.out.below (W' := wr.drewN nq) ⟨rfl, rfl, rfl, Nat.le_refl _, fun _ _ => rfl⟩)
             clear x8 p0 t1
             generalize wr.drewN nq = wq at *
             go_wp2_with fail
             go_quiet ((go_at_call 71; exact Calls.quiet_of_same (C49.out _)))
             have D50 := hid (TK2.out (wq.drewN nq) (HCq.out.below ⟨rfl, rfl, rfl, Nat.le_refl _, fun _ _ => rfl⟩))
             clear TK2
             go_wp2_with (go_at_call 98; refine D50.out.mono ?_; rintro e w5 ⟨rfl, hc5⟩; have HC5 := hid (show Chk bb W.heap.size (W.heap.size + 1) gt m ct _ (-l :: T).reverse W w5 from by rw [List.reverse_cons]; exact hc5); clear hc5)
             go_roundw
             case rel => exact ⟨k + 1, _, -l :: T, by omega, by go_num, HC5, HF2, HD2⟩
             case measure => simp [intOf]; omega)
      · have hge : ¬ (k : Int) < n := by omega
        have HG := hid (show Bas.goP (Bas.lookL s.live) T hs = R from by have := HD.out; rw [List.drop_eq_nil_of_le (by rw [HN.out]; omega)] at this; exact this)
        have HF0 := hid (show Fnd m (n + 0) ts T from ⟨HF.out.tru, Nat.le_trans HF.out.len (by omega), HF.out.zero, HF.out.range⟩)
        clear HD HF
        rcases sh2 with Z2 | ⟨b9, off9, rfl⟩
        all_goals
          go_wp2_with fail
          go_loopw [12, 13, 14, 15, 16, 51] (fun _ _ _ _ _ iv wr => ∃ (k : Nat) (ts T : List Int), k ≤ nh ∧ iv = .int .i64 k ∧ Hid (Chk bb W.heap.size (W.heap.size + 1) gt m ct ts T.reverse W wr) ∧ Hid (Fnd m (n + k) ts T) ∧ Hid (Bas.goP (Bas.lookL s.live) T (hs.drop k) = R)) (fun _ _ _ _ _ iv _ => nh - (intOf iv).toNat)
          case atStart => exact ⟨0, _, _, Nat.zero_le _, rfl, HC, HF0, hid (by rw [List.drop_zero]; exact HG.out)⟩
          case round =>
            obtain ⟨j, ts2, T2, hj, rfl, HC2, HF2, HG2⟩ := hrel
            by_cases hlt2 : j < nh
            · first
              | (exfalso; have := Z2.out; omega)
              | (have hlt2' : (j : Int) < nh := by omega
                 have hkx2 : j < hs.length := by rw [HNH.out]; exact hlt2
                 obtain ⟨b3, off3, e3, _, hch, hlo, hhi⟩ := Row.at (HHI.out _ _ _ _ _ HC2.out) hkx2
                 cases e3
                 have HDR2 := hid (show hs.drop j = hs.getD j 0 :: hs.drop (j + 1) by rw [List.drop_eq_getElem_cons hkx2]; simp [List.getD, hkx2])
                 obtain ⟨bm, ve, x3, hlk, hno, hyes⟩ := HENT.out _ _ _ _ _ HC2.out (hs.getD j 0) ⟨hlo, hhi⟩
                 have q0 := row_cell HC2.out.pbx 0
                 simp only [List.getElem?_toArray, List.getElem?_cons_zero] at q0
                 generalize hs.getD j 0 = id at *
                 cases he : Bas.look s.live id with
                 | none =>
                   obtain rfl := hno he
                   have HR2 := hid (show 60 = R from by have := HG2.out; rw [HDR2.out, Bas.goP_none _ (by unfold Bas.lookL; rw [he]; rfl)] at this; exact this)
                   rw [he] at hlk
                   simp only [Option.isSome_none] at hlk
                   clear hno hyes
                   go_wp2
                   refine leaves_cons (f := 99) (args := #[.pointer (some ⟨W.heap.size + 1, 0, none⟩), .pointer (some ⟨W.heap.size, 0, none⟩)]) (by simp) (by simp [go_sem]) ?_
                   refine (RET.out _ _ _ _ (HC2.out.below (below_box _ _)) HF2.out (by omega) .returning).mono ?_
                   rintro e u' w'' ⟨rfl, rfl, hB, hF⟩
                   exact ⟨_, results_tmp rfl _ _ _, by rw [← HR2.out]; rfl, hB, hF⟩
                 | some e =>
                   obtain ⟨ea, ec, rfl, hel⟩ := hyes e he
                   obtain ⟨hel1, hel2⟩ := HLE.out e id he
                   have HS := hid (show (if (Bas.leftP T2 e.lits 0).1 = 0 then 0 else if (Bas.leftP T2 e.lits 0).1 > 1 ∨ (Bas.leftP T2 e.lits 0).2 ∈ T2 then 60 else Bas.goP (Bas.lookL s.live) ((Bas.leftP T2 e.lits 0).2 :: T2) (hs.drop (j + 1))) = R from by have := HG2.out; rw [HDR2.out, Bas.goP_some _ (show Bas.lookL s.live id = some e.lits by unfold Bas.lookL; rw [he]; rfl)] at this; exact this)
                   rw [he] at hlk
                   simp only [Option.isSome_some] at hlk
                   obtain ⟨WB, hWB⟩ : ∃ WB, wr.alloc (.cells #[.int .i64 e.id, .slice ea e.lits.length ec, .bool e.red] 83) = WB := ⟨_, rfl⟩
                   have hbw : Below wr.heap.size wr WB := by rw [← hWB]; exact below_box _ _
                   have HCb := HC2.out.below hbw
                   have hbx : WB.heap[wr.heap.size]? = some (.cells #[.int .i64 e.id, .slice ea e.lits.length ec, .bool e.red] 83 (0, 0)) := by rw [← hWB]; exact heap_alloc_new wr _
                   have y1 : WB.cell? ⟨wr.heap.size, 1, none⟩ = some (.slice ea e.lits.length ec) := row_cell hbx 1
                   have p0b : WB.cell? ⟨W.heap.size, 0, none⟩ = some (.pointer (some ⟨bb, 0, none⟩)) := row_cell HCb.pbx 0
                   have hlen2 : ts2.length = m := by obtain ⟨cur, _, _, _, h9, _⟩ := HCb.row; exact h9
                   have C52 := left52 (HX8.out _ _ _ _ _ HCb) hlen2 hmm (fun v hv => (HCb.trw.cell hv).1) HF2.out.tru ea e.lits.length ec e.lits rfl (by omega) (hel.below hbw) hel2
                   rw [Bas.leftP_congr (T' := T2) (fun x => List.mem_reverse)] at C52
                   have HONE := hid (Bas.leftP_one T2 e.lits 0)
                   have HEL2 := hid hel2
                   have hfst := Bas.leftP_fst T2 e.lits 0
                   generalize Bas.leftP T2 e.lits 0 = ql at *
                   obtain ⟨q, l⟩ := ql
                   simp only at HS HONE hfst C52
                   have HC52 := hid C52
                   have HCB := hid HCb
                   have HCD := hid (fun w4 (hd : Drawn WB w4) => show Chk bb W.heap.size (W.heap.size + 1) gt m ct ts2 T2.reverse W w4 from HCb.below (by obtain ⟨q9, rfl⟩ := hd; exact ⟨rfl, rfl, rfl, Nat.le_refl _, fun _ _ => rfl⟩))
                   have HQD := hid (fun w4 (hc : Chk bb W.heap.size (W.heap.size + 1) gt m ct ts2 T2.reverse W w4) q9 => show Chk bb W.heap.size (W.heap.size + 1) gt m ct ts2 T2.reverse W (w4.drewN q9) from hc.below ⟨rfl, rfl, rfl, Nat.le_refl _, fun _ _ => rfl⟩)
                   clear C52 HCb hyes hno hel hel2 hbx hbw
                   have HEL := hid hel1
                   clear hel1
                   have hmem : ∀ x, x ∈ e.lits → x ∈ e.lits := fun _ h => h
                   clear hmem
                   rcases hfst with rfl | rfl | rfl
                   · have HR2 := hid (show 0 = R from by have := HS.out; simpa using this)
                     go_wp2_with (go_at_call 100; refine HC52.out.mono ?_; rintro e5 w4 ⟨rfl, hd4⟩; have HC4 := hid (HCD.out w4 hd4); clear hd4)
                     refine leaves_cons (f := 99) (args := #[.pointer (some ⟨W.heap.size + 1, 0, none⟩), .pointer (some ⟨W.heap.size, 0, none⟩)]) (by simp) (by simp [go_sem]) ?_
                     refine (RET.out _ _ _ _ HC4.out HF2.out (by omega) .returning).mono ?_
                     rintro e u' w'' ⟨rfl, rfl, hB, hF⟩
                     exact ⟨_, results_tmp rfl _ _ _, by rw [← HR2.out]; rfl, hB, hF⟩
                   · obtain ⟨hl0, hlm⟩ := HONE.out rfl
                     have hlm2 : l ∈ e.lits ∧ -l ∉ T2 := by
                       rcases hlm with h | h
                       · exact absurd h hl0
                       · exact h
                     obtain ⟨hv1, hv2⟩ := HEL2.out l hlm2.1
                     have hcase := Bas.tru_cases HF2.out.tru hv1 (by rw [hlen2]; exact hv2)
                     have hlb : -1048577 < l ∧ l < 1048577 := by unfold Bas.vr at hv2; split at hv2 <;> omega
                     have hii : I32 l := ⟨by omega, by omega⟩
                     have C49 := hid (fun X => var49 l X hii)
                     obtain ⟨v, hv⟩ : ∃ v : Nat, Bas.vr l = v := ⟨(Bas.vr l).toNat, by omega⟩
                     have HV1 := hid hv1
                     have HV2 := hid hv2
                     have HV := hid hv
                     rw [hv] at C49 hcase
                     have hvm : v < m := by omega
                     have hvm' : (v : Int) < m := by omega
                     rw [show (v : Int).toNat = v from rfl] at hcase
                     have HW4 := hid (fun w4 (hc : Chk bb W.heap.size (W.heap.size + 1) gt m ct ts2 T2.reverse W w4) => show w4.cell? ⟨W.heap.size, 0, none⟩ = some (.pointer (some ⟨bb, 0, none⟩)) ∧ w4.cell? ⟨bb, 8, none⟩ = some (.slice (some ⟨gt, 0, none⟩) m ct) ∧ w4.cell? ⟨gt, v, none⟩ = some (.int .i32 (ts2.getD v 0)) from ⟨row_cell hc.pbx 0, HX8.out w4 _ _ _ _ hc, (hc.trw.cell hvm).1⟩)
                     have HII := hid hii
                     have HLM := hid hlm2
                     have HLEN2 := hid hlen2
                     clear hlm hlm2 hv1 hv2 hv hlb hii hlen2 HONE HEL2
                     rcases hcase with ⟨h1, h2⟩ | ⟨h1, h2, h3⟩ | ⟨h1, h2, h3⟩
                     · have hll : (l == l) = true := by simp
                       have HR2 := hid (show 60 = R from by have := HS.out; simpa [h2] using this)
                       rw [h1] at HW4
                       go_wp2_with (go_at_call 100; refine HC52.out.mono ?_; rintro e5 w4 ⟨rfl, hd4⟩; have HC4 := hid (HCD.out w4 hd4); clear hd4; obtain ⟨p0w, x8w, t1w⟩ := HW4.out w4 HC4.out)
                       go_quiet ((go_at_call 71; exact Calls.quiet_of_same (C49.out _)))
                       go_wp2_with fail
                       refine leaves_cons (f := 99) (args := #[.pointer (some ⟨W.heap.size + 1, 0, none⟩), .pointer (some ⟨W.heap.size, 0, none⟩)]) (by simp) (by simp [go_sem]) ?_
                       refine (RET.out _ _ _ _ (HQD.out _ HC4.out _) HF2.out (by omega) .returning).mono ?_
                       rintro e u' w'' ⟨rfl, rfl, hB, hF⟩
                       exact ⟨_, results_tmp rfl _ _ _, by rw [← HR2.out]; rfl, hB, hF⟩
                     · exact absurd h2 HLM.out.2
                     · have hll : ((0 : Int) == l) = false := by simp; omega
                       have HGN := hid (show Bas.goP (Bas.lookL s.live) (l :: T2) (hs.drop (j + 1)) = R from by have := HS.out; simpa [h2, h3] using this)
                       have HF3 := hid (show Fnd m (n + (j + 1)) (ts2.set (Bas.vr l).toNat l) (l :: T2) from ⟨by
                         rw [List.reverse_cons]
                         exact Bas.tru_take HF2.out.tru HV1.out (by rw [HLEN2.out]; exact HV2.out) (by rw [HV.out]; exact h1), by have := HF2.out.len; simp; omega, by
                         rw [Bas.getD_set _ _ _ _ (by rw [HLEN2.out, HV.out]; exact hvm), if_neg (by have := HV1.out; omega)]; exact HF2.out.zero, fun x hx => by
                         rw [List.reverse_cons, List.mem_append, List.mem_singleton] at hx
                         rcases hx with hx | rfl
                         · exact HF2.out.range x hx
                         · exact ⟨HII.out, HV1.out, HV2.out⟩⟩)
                       have TK2 := hid (fun (X : World) hc => TK.out X ts2 T2.reverse hc l (by rw [List.length_reverse]; have := HF2.out.len; omega) HII.out HV1.out HV2.out)
                       rw [h1] at HW4
                       clear h1 h2 h3
                       go_wp2_with (go_at_call 100; refine HC52.out.mono ?_; rintro e5 w4 ⟨rfl, hd4⟩; have HC4 := hid (HCD.out w4 hd4); clear hd4; obtain ⟨p0w, x8w, t1w⟩ := HW4.out w4 HC4.out)
                       go_quiet ((go_at_call 71; exact Calls.quiet_of_same (C49.out _)))
                       have D50 := hid (TK2.out _ (HQD.out _ HC4.out nq))
                       clear TK2
                       go_wp2_with (go_at_call 98; refine D50.out.mono ?_; rintro e w5 ⟨rfl, hc5⟩; have HC5 := hid (show Chk bb W.heap.size (W.heap.size + 1) gt m ct _ (l :: T2).reverse W w5 from by rw [List.reverse_cons]; exact hc5); clear hc5)
                       go_roundw
                       case rel => exact ⟨j + 1, _, l :: T2, by omega, by go_num, HC5, HF3, HGN⟩
                       case measure => simp [intOf]; omega
                   · have HR2 := hid (show 60 = R from by have := HS.out; simpa using this)
                     go_wp2_with (go_at_call 100; refine HC52.out.mono ?_; rintro e5 w4 ⟨rfl, hd4⟩; have HC4 := hid (HCD.out w4 hd4); clear hd4)
                     go_quiet (fail)
                     go_wp2_with fail
                     refine leaves_cons (f := 99) (args := #[.pointer (some ⟨W.heap.size + 1, 0, none⟩), .pointer (some ⟨W.heap.size, 0, none⟩)]) (by simp) (by simp [go_sem]) ?_
                     refine (RET.out _ _ _ _ (HQD.out _ HC4.out _) HF2.out (by omega) .returning).mono ?_
                     rintro e u' w'' ⟨rfl, rfl, hB, hF⟩
                     exact ⟨_, results_tmp rfl _ _ _, by rw [← HR2.out]; rfl, hB, hF⟩)
            · have hge2 : ¬ (j : Int) < nh := by omega
              have HR2 := hid (show 61 = R from by have := HG2.out; rw [List.drop_eq_nil_of_le (by rw [HNH.out]; omega)] at this; exact this)
              go_wp2
              refine leaves_cons (f := 99) (args := #[.pointer (some ⟨W.heap.size + 1, 0, none⟩), .pointer (some ⟨W.heap.size, 0, none⟩)]) (by simp) (by simp [go_sem]) ?_
              refine (RET.out _ _ _ _ HC2.out HF2.out (by omega) .returning).mono ?_
              rintro e u' w'' ⟨rfl, rfl, hB, hF⟩
              exact ⟨_, results_tmp rfl _ _ _, by rw [← HR2.out]; rfl, hB, hF⟩
end Go.Proofs.YthpebfojkpnojaaGreat

