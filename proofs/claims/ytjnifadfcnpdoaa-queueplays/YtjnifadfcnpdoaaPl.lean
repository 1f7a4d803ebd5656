/- Both answer a call alike. -/
import Derived.Test.YtjnifadfcnpdoaaDj
import Derived.Test.YtjnifadfcnpdoaaBpd
namespace Go.Proofs.Ytjnifadfcnpdoaa
open Go.RowKit Go.Maps
set_option linter.unusedVariables false
set_option linter.unusedSimpArgs false
set_option maxRecDepth 100000
section
variable {A : Adr} {D : Da} {N n : Nat} {K : Int} {L : List Nat} {st : List Int} {mv : Nat} {W : World}
set_option maxHeartbeats 8000000 in
theorem plays14_3 (H : Bt A D N n K L st L st mv W) (hN : N ≤ W.heap.size) (hK : K + 1048577 ≤ 4611686018427387904) {s : Opr} {a b : Option Addr} {ca cb : Nat} (hs : OpOk W s a b) (hb0 : ∀ b' off, b = some ⟨b', off, none⟩ → 0 < s.set.length → b' < N) (hl : s.set.length ≤ 1048576) (hr : s.kind % 6 = 3) :
    Calls Try.prog 14 #[.pointer (some ⟨A.qb, 0, none⟩), .pointer (some ⟨D.qb, 0, none⟩), .agg #[.int .u8 s.kind, .slice a s.l.length ca, .slice b s.set.length cb]] W fun e w' => e = .returned (.bool true) ∧ PlS A D N n (K + 1048577) mv W w' := by
  obtain ⟨hm1, hm2⟩ := mod6 hs.kind
  rw [hr] at hm1 hm2
  have bx := below_box W (.cells #[.int .u8 s.kind, .slice a s.l.length ca, .slice b s.set.length cb] 35)
  have hnew := heap_alloc_new W (.cells #[.int .u8 s.kind, .slice a s.l.length ca, .slice b s.set.length cb] 35)
  have hsz1 : (W.alloc (.cells #[.int .u8 s.kind, .slice a s.l.length ca, .slice b s.set.length cb] 35)).heap.size = W.heap.size + 1 := by simp only [World.alloc, Array.size_push]
  obtain ⟨V, hV⟩ : ∃ V, W.alloc (.cells #[.int .u8 s.kind, .slice a s.l.length ca, .slice b s.set.length cb] 35) = V := ⟨_, rfl⟩
  rw [hV] at bx hnew hsz1
  have hLV := hs.set.all bx
  obtain ⟨o, k, X, hrun, ow, bX⟩ := appB (c := cb) hLV (by omega)
  have HR := hid hrun
  have bWX : Below W.heap.size W X := bx.trans (bX.mono bx.size)
  have hvx : V.heap.size ≤ X.heap.size := bX.size
  have hNX : N ≤ X.heap.size := by omega
  have hlo := own_new ow
  have HX := H.below bWX
  have hnX : X.heap[W.heap.size]? = some (.cells #[.int .u8 s.kind, .slice a s.l.length ca, .slice b s.set.length cb] 35 (0, 0)) := (bX.block _ (by omega)).trans hnew
  have hBX := hLV.all bX
  have hbox : ¬ A.own W.heap.size := fun h => by have := H.p.qx.lt h; omega
  have hoX := own_bwI ow
  have C1 := hid (HX.p.next hNX (c := k) hoX)
  have HST := hid (fun (w : World) (q : Qn N A n K L st w) (f : Fa A X w) => show (w.cell? ⟨W.heap.size, 2, none⟩ = some (.slice b s.set.length cb)) ∧ Bw w b s.set ∧ Bw w o s.set ∧ Dq D n L st mv w ∧ PlS A D N n (K + 1048577) mv W w from by
    obtain ⟨bb, fr⟩ := HX.stepP q f
    refine ⟨row_cell (f.block _ _ hnX hbox) 2, hBX.fq0 f (fun b' off e h0 ho => ?_), hoX.fq0 f (fun b' off e h0 ho => ?_), bb.d, PlS.box ⟨D, L, st, mv, rfl, bb.mono (by omega) hK, by omega, fr, fun g hg => .inl hg⟩ bWX⟩
    · have := hb0 b' off e h0
      have := H.p.new _ ho
      omega
    · have h1 : V.heap.size ≤ b' := hlo _ e
      have := H.p.qx.lt ho
      omega)
  have hrg := hid H.g.rg
  have hso : Hid (s.set.length = 0) ∨ (∃ g off, o = some ⟨g, off, none⟩) ∧ ∃ g off, b = some ⟨g, off, none⟩ := by
    rcases Nat.eq_zero_or_pos s.set.length with h0 | h0
    · exact .inl h0
    · refine .inr ⟨?_, ?_⟩
      · obtain ⟨g, c', cur, e, _⟩ := own_some ow h0
        cases e
        exact ⟨g, 0, rfl⟩
      · rcases hs.set with h | ⟨b', off, e, _⟩
        · rw [h] at h0; cases h0
        · exact ⟨b', off, e⟩
  have HT := hid hl
  have x0 : X.cell? ⟨W.heap.size, 0, none⟩ = some (.int .u8 s.kind) := row_cell hnX 0
  have v0 : V.cell? ⟨W.heap.size, 0, none⟩ = some (.int .u8 s.kind) := row_cell hnew 0
  have v2 : V.cell? ⟨W.heap.size, 2, none⟩ = some (.slice b s.set.length cb) := row_cell hnew 2
  clear hsz1 bx hnew hLV hrun ow bX bWX hvx hNX hlo HX hnX hBX hbox hoX hs H hN hK hl hr hb0
  obtain ⟨l, hl⟩ : ∃ l, s.set = l := ⟨_, rfl⟩
  rw [hl] at HST C1
  generalize ht : s.set.length = t at *
  generalize s.l.length = tl at *
  generalize s.kind = kd at *
  have HTE := hid (show l.length = t by rw [← hl]; exact ht)
  clear ht hl
  go_enter Try.func14, Try.ntmps14
  go_wp2_with (at_builtin; refine wpList_append_run rfl (.tmp 19) (.tmp 21) 33 33 rfl rfl rfl HR.out ?_; clear HR)
  rw [HTE.out] at C1
  go_at_call 21
  refine C1.out.mono ?_
  rintro e w1 ⟨rfl, q1, _, f1⟩
  obtain ⟨y2, hB, hO, hD, hP⟩ := HST.out w1 q1 f1
  rw [HTE.out] at y2
  have C2 := hid (next27 hD hrg.out (c := cb) hB)
  rw [HTE.out] at C2
  have HBB := hid hB
  have HOO := hid hO
  have HPP := hid hP
  clear q1 f1 hB hO hD hP HST C1 x0 v0 v2
  have e1 : (((Qp.nxt L l : Nat) : Int) == ((Qp.nxt L l : Nat) : Int)) = true := by simp
  have e2 : ((((Qp.nxt L l : Nat) : Int) != 0) == (((Qp.nxt L l : Nat) : Int) != 0)) = true := by simp
  generalize (((Qp.nxt L l : Nat) : Int) != 0) = zb at *
  generalize ((Qp.nxt L l : Nat) : Int) = zn at *
  go_wp2_with (go_at_call 27; refine C2.out.mono ?_; rintro e w4 ⟨rfl, hw4⟩; rw [hw4]; clear hw4)
  rcases hso with Zl | ⟨⟨go, oo, rfl⟩, gb, ob, rfl⟩
  all_goals
    go_loopw [12] (fun i wr => ∃ j : Nat, j ≤ t ∧ i = .int .i64 (j : Nat) ∧ Hid (Drawn w1 wr)) (fun i _ => t - (intOf i).toNat)
    case atStart => exact ⟨0, Nat.zero_le _, rfl, hid (Drawn.refl _)⟩
    case round =>
      obtain ⟨j, hj, rfl, HI⟩ := hrel
      by_cases hlt : j < t
      · first
          | (exfalso; have := Zl.out; omega)
          | (have hlt' : (j : Int) < t := by omega
             have hwk : wrap64 ((j : Int) + 1) = (j : Int) + 1 := by have := HT.out; unfold wrap64; omega
             have HQ := hid (fun (q : Nat) => HI.out.drewN q)
             have hx2 : wr.cell? ⟨W.heap.size, 2, none⟩ = some (.slice (some ⟨gb, ob, none⟩) t cb) := by obtain ⟨q, hq⟩ := HI.out; rw [hq]; exact y2
             have z1 : wr.cell? ⟨go, oo + j, none⟩ = some (.bool (l.getD j false)) := by
               rcases HOO.out.all HI.out.below with h | ⟨b', off, e, h⟩
               · exfalso; have := HTE.out; rw [h] at this; simp at this; omega
               · cases e; exact h j (by rw [HTE.out]; exact hlt)
             have z2 : wr.cell? ⟨gb, ob + j, none⟩ = some (.bool (l.getD j false)) := by
               rcases HBB.out.all HI.out.below with h | ⟨b', off, e, h⟩
               · exfalso; have := HTE.out; rw [h] at this; simp at this; omega
               · cases e; exact h j (by rw [HTE.out]; exact hlt)
             generalize l.getD j false = y at *
             have hyy : (y != y) = false := by simp
             clear HI HPP y2
             go_wp2_with (fail)
             go_quiet (fail)
             go_wp2_with (fail)
             try rw [hwk]
             exact ⟨⟨j + 1, hlt, rfl, hid (HQ.out _)⟩, by simp only [intOf]; exact meas hlt⟩)
      · have hge : ¬ (j : Int) < t := by omega
        have HF := hid (HPP.out.below HI.out.below)
        clear HI HPP
        go_wp2
        go_ret
        exact ⟨rfl, HF.out⟩
set_option maxHeartbeats 8000000 in
theorem plays14_b (H : Bt A D N n K L st L st mv W) (hN : N ≤ W.heap.size) (hK : K + 1048577 ≤ 4611686018427387904) (hmv : mv ≤ 1048576) {s : Opr} {a b : Option Addr} {ca cb : Nat} (hs : OpOk W s a b) (ha0 : ∀ b' off, a = some ⟨b', off, none⟩ → 0 < s.l.length → b' < N) (hl : s.l.length ≤ 1048576) (hr : s.kind % 6 ≠ 3) :
    Calls Try.prog 14 #[.pointer (some ⟨A.qb, 0, none⟩), .pointer (some ⟨D.qb, 0, none⟩), .agg #[.int .u8 s.kind, .slice a s.l.length ca, .slice b s.set.length cb]] W fun e w' => e = .returned (.bool true) ∧ PlS A D N n (K + 1048577) mv W w' := by
  obtain ⟨hm1, hm2⟩ := mod6 hs.kind
  obtain ⟨r, hrr⟩ : ∃ r, s.kind % 6 = r := ⟨_, rfl⟩
  rw [hrr] at hm1 hm2 hr
  have hr3 : (r == 3) = false := by simpa using hr
  have bx := below_box W (.cells #[.int .u8 s.kind, .slice a s.l.length ca, .slice b s.set.length cb] 35)
  have hnew := heap_alloc_new W (.cells #[.int .u8 s.kind, .slice a s.l.length ca, .slice b s.set.length cb] 35)
  have hsz1 : (W.alloc (.cells #[.int .u8 s.kind, .slice a s.l.length ca, .slice b s.set.length cb] 35)).heap.size = W.heap.size + 1 := by simp only [World.alloc, Array.size_push]
  obtain ⟨V, hV⟩ : ∃ V, W.alloc (.cells #[.int .u8 s.kind, .slice a s.l.length ca, .slice b s.set.length cb] 35) = V := ⟨_, rfl⟩
  rw [hV] at bx hnew hsz1
  have hLV := hs.l.all bx
  obtain ⟨o, k, X, hrun, ow, bX⟩ := appI (c := ca) hLV (by omega)
  have HR := hid hrun
  have bWX : Below W.heap.size W X := bx.trans (bX.mono bx.size)
  have hvx : V.heap.size ≤ X.heap.size := bX.size
  have hNX : N ≤ X.heap.size := by omega
  have hlo := own_new ow
  have HX := H.below bWX
  have hnX : X.heap[W.heap.size]? = some (.cells #[.int .u8 s.kind, .slice a s.l.length ca, .slice b s.set.length cb] 35 (0, 0)) := (bX.block _ (by omega)).trans hnew
  have hBX := hLV.all bX
  have hbox : ¬ Al A D W.heap.size := fun h => by have := H.lt h; omega
  have hoX := own_iwI ow
  have C1 := hid (HX.p.bump hNX hK (c := k) hoX hl)
  have hal : ∀ b' off, a = some ⟨b', off, none⟩ → 0 < s.l.length → ¬ Al A D b' := fun b' off e h0 h => by
    have := ha0 b' off e h0
    have := H.lo h
    omega
  have hol : ∀ b' off, o = some ⟨b', off, none⟩ → 0 < s.l.length → ¬ Al A D b' := fun b' off e h0 h => by
    have h1 : V.heap.size ≤ b' := hlo _ e
    have := H.lt h
    omega
  have had : ∀ b' off, a = some ⟨b', off, none⟩ → 0 < s.l.length → b' ≠ D.qb ∧ b' ≠ D.gs := fun b' off e h0 => ⟨fun h => hal b' off e h0 (.inr (.inl h)), fun h => hal b' off e h0 (.inr (.inr (.inl h)))⟩
  have HS1 := hid (fun (w : World) (q : Qn N A n (K + 1048577) (Qp.bL n s.l L) (Qp.bS n s.l L st) w) (f : Fa A X w) => show Bt A D N n (K + 1048577) (Qp.bL n s.l L) (Qp.bS n s.l L st) L st mv w ∧ Fp A D X w from HX.stepP q f)
  have HC := hid (fun (w : World) (f : Fp A D X w) => show w.cell? ⟨W.heap.size, 1, none⟩ = some (.slice a s.l.length ca) ∧ Iw w a s.l ∧ Iw w o s.l from
    ⟨row_cell (f.block _ _ hnX hbox) 1, hBX.fq0 f hal, hoX.fq0 f hol⟩)
  have HS2 := hid (fun (w w' : World) (h : Bt A D N n (K + 1048577) (Qp.bL n s.l L) (Qp.bS n s.l L st) L st mv w) (f : Fp A D X w) => show Calls Try.prog 28 #[.pointer (some ⟨D.qb, 0, none⟩), .slice a s.l.length ca] w fun e w' => e = .returned (.int .i64 (Qp.bE n s.l)) ∧ Fp A D X w' ∧ PlS A D N n (K + 1048577) mv W w' from by
    refine (bump28 h.d h.g hmv (hBX.fq0 f hal) had hl).mono ?_
    rintro e w2 ⟨he, D', mv', e1, e2, d, g, hm, f2, hr2⟩
    obtain ⟨b2, fr2, ha2⟩ := h.stepD (Nat.le_trans hNX f.size) d g e1 e2 f2 hr2
    have hs2 := f.size
    exact ⟨he, f.trans fr2, PlS.box ⟨D', _, _, mv', e1, b2, hm, f.trans fr2, fun g hg => (ha2 g hg).imp id (fun h => by omega)⟩ bWX⟩)
  have C22 := hid (fun (w : World) (f : Fp A D X w) => show Calls Try.prog 22 #[.slice o s.l.length k, .slice a s.l.length ca] w fun e w' => e = .returned (.bool true) ∧ Drawn w w' from by
    have := same22 (c := k) (d := ca) (hoX.fq0 f hol) (hBX.fq0 f hal) (by omega) (by omega)
    rw [decide_eq_true rfl] at this
    exact this)
  have HPB := hid (fun (w w' : World) (h : PlS A D N n (K + 1048577) mv W w) (hd : Drawn w w') => h.below hd.below)
  have v0 : V.cell? ⟨W.heap.size, 0, none⟩ = some (.int .u8 s.kind) := row_cell hnew 0
  have v1 : V.cell? ⟨W.heap.size, 1, none⟩ = some (.slice a s.l.length ca) := row_cell hnew 1
  have e1 : (Qp.bE n s.l == Qp.bE n s.l) = true := by simp
  clear hsz1 bx hnew hLV hrun ow bX bWX hvx hNX hlo HX hnX hBX hbox hoX hs H hN hK hl hr ha0 hal hol had hmv hrr
  unfold BumpN at C1
  generalize s.l = l at *
  generalize l.length = t at *
  generalize s.kind = kd at *
  generalize s.set.length = tb at *
  go_enter Try.func14, Try.ntmps14
  go_wp2_with (at_builtin; refine wpList_append_run rfl (.tmp 60) (.tmp 62) 32 32 rfl rfl rfl HR.out ?_; clear HR)
  go_at_call 17
  refine C1.out.mono ?_
  rintro e w1 ⟨rfl, q1, _, f1⟩
  obtain ⟨hB, hF⟩ := HS1.out w1 q1 f1
  obtain ⟨y1, hIa, hIo⟩ := HC.out w1 hF
  have hB' := hid hB
  have hF' := hid hF
  clear q1 f1 HS1 C1 v0 v1 hIa hIo hB hF
  generalize Qp.bE n l = ze at *
  go_wp2_with (fail)
  go_at_call 28
  refine (HS2.out w1 w1 hB'.out hF'.out).mono ?_
  rintro e w2 ⟨rfl, f2, p2⟩
  obtain ⟨z1, _, _⟩ := HC.out w2 f2
  have C3 := hid (C22.out w2 f2)
  have HPL := hid (HPB.out w2)
  have HP2 := hid p2
  clear f2 p2 HS2 HC C22 HPB hB' hF' y1
  go_wp2_with (fail)
  go_at_call 22
  refine C3.out.mono ?_
  rintro e w3 ⟨rfl, d3⟩
  have HF := hid (HPL.out w3 HP2.out d3)
  clear d3
  go_wp2
  go_ret
  exact ⟨rfl, HF.out⟩
end
end Go.Proofs.Ytjnifadfcnpdoaa
