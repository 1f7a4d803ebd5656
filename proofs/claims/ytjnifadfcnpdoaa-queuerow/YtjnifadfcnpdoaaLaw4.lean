/- QueueRow: the row is all variables, the last moved last. -/
import Derived.Test.YtjnifadfcnpdoaaRwl
import Derived.Test.YtjnifadfcnpdoaaRg18
import Derived.Test.YtjnifadfcnpdoaaRg18b
import Derived.Test.YtjnifadfcnpdoaaRg24
import Derived.Test.YtjnifadfcnpdoaaRg25
namespace Go.Proofs.Ytjnifadfcnpdoaa
open Go.RowKit Go.Maps
set_option linter.unusedVariables false
set_option maxRecDepth 100000

theorem m1_facts {m m1 : Nat} (h : m ≤ 100) (e : m + 1 = m1) : wrap64 ((m : Int) + 1) = (m1 : Int) ∧ (m : Int) + 1 = (m1 : Int) := ⟨by unfold wrap64; omega, by omega⟩
theorem make32 (w : World) {m m1 : Nat} (h : m ≤ 100) (e : m + 1 = m1) : (Instr.makeSlice 32 (.int .i64 (m1 : Int)) (.int .i64 (m1 : Int))).run Try.prog w = .ok (.slice (some ⟨w.heap.size, 0, none⟩) m1 m1) (w.alloc (.cells (iss (zer m1)).toArray 3)) := by
  obtain ⟨i1, hi1, hz1⟩ := Option.map_eq_some_iff.1 info3
  simp only [Prod.mk.injEq] at hz1
  have hmj := run_makeSlice (P := Try.prog) w 32 3 i1 _ Try.underlying32 hi1 hz1.1 .i64 .i64 (m1 : Int) (m1 : Int) (by omega) (Int.le_refl _) (by rw [hz1.2.1]; omega) (by rw [hz1.2.2]; omega) (by omega)
  simp only [hz1.2.1, Int.toNat_natCast, Nat.mul_one, made_zer] at hmj
  exact hmj
theorem kb_le (i : Nat) : (1048577 * ((i + 1 : Nat) : Int) + 1048577) ≤ 1048577 * ((i + 1 + 1 : Nat) : Int) := by omega
theorem hso_of {w w' : World} {b b' m c3 c5 : Nat} {o3 o5 : Option Addr} {xs ys : List Value} (h3 : w.ownsRow b 3 1 (.slice o3 m c3) m xs) (h5 : w'.ownsRow b' 3 1 (.slice o5 m c5) m ys) : Hid (m = 0) ∨ ∃ g3 g5, o3 = some ⟨g3, 0, none⟩ ∧ o5 = some ⟨g5, 0, none⟩ := by
  rcases Nat.eq_zero_or_pos m with h | h
  · exact .inl h
  · obtain ⟨g3, _, _, e, _⟩ := own_some h3 h
    obtain ⟨g5, _, _, e5, _⟩ := own_some h5 h
    cases e; cases e5
    exact .inr ⟨g3, g5, rfl, rfl⟩
theorem nat_a {m k : Nat} (h : k < m) : (k : Int) < m := by omega
theorem nat_b {x m m1 : Nat} (h : 1 ≤ x ∧ x ≤ m) (e : m + 1 = m1) : ¬ (x : Int) < 1 ∧ ¬ (m : Int) < x ∧ (x : Int) < m1 := by omega
theorem nat_c {m k : Nat} (h : k < m) (h0 : 0 < k) : (k : Int) - 1 = ((k - 1 : Nat) : Int) ∧ ((k - 1 : Nat) : Int) < m ∧ (0 : Int) < k := by omega
theorem nat_na {m k : Nat} (h : ¬ k < m) : ¬ (k : Int) < m := by omega
theorem nat_d {k : Nat} (h : ¬ 0 < k) : ¬ (0 : Int) < k := by omega
theorem lt_pred {k n : Nat} (h : k < n) : k - 1 < n := by omega
theorem l1_stamp {W : World} {A : Adr} {m : Nat} {K : Int} {p p' : Qst} {o3 o5 : Option Addr} {g m1 k : Nat} {w : World} {stv : Int → Int} (h : L1 W A m K p p' o3 o5 g m1 k w) (hs : ∀ v, (if 1 ≤ v ∧ v ≤ (m : Int) then p'.2.getD v.toNat 0 else 0) = stv v) :
    ∀ (w' : World), Drawn w w' → ∀ v : Int, Calls Try.prog 18 #[.pointer (some ⟨A.qb, 0, none⟩), .int .i64 v] w' fun e w2 => e = .returned (.int .i64 (stv v)) ∧ w2 = w' := fun w' hd v => by
  have := (h.drawn hd).q.stamp v
  rw [hs] at this
  exact this
theorem wrap_k {m k : Nat} (h : m ≤ 100) (hk : k < m) : wrap64 ((k : Int) + 1) = (k : Int) + 1 := by unfold wrap64; omega
theorem wrap_k1 {m k : Nat} (h : m ≤ 100) (hk : k < m) (h0 : 0 < k) : wrap64 ((k : Int) - 1) = ((k - 1 : Nat) : Int) := by unfold wrap64; omega
theorem getD_mem' {L : List Nat} {k : Nat} (h : k < L.length) : L.getD k 0 ∈ L := by rw [List.getD_eq_getElem?_getD, List.getElem?_eq_getElem h]; exact List.getElem_mem h
theorem stv_le {m k : Nat} {p : Qst} {stv : Int → Int} (hg : Qp.Good m p) (hs : ∀ v, (if 1 ≤ v ∧ v ≤ (m : Int) then p.2.getD v.toNat 0 else 0) = stv v) (h0 : 0 < k) (hk : k < m) : ¬ stv ((p.1.getD k 0 : Nat) : Int) < stv ((p.1.getD (k - 1) 0 : Nat) : Int) := by
  have hl := hg.length
  have h1 := hg.mem.1 (getD_mem' (L := p.1) (k := k) (by omega))
  have h2 := hg.mem.1 (getD_mem' (L := p.1) (k := k - 1) (by omega))
  rw [← hs, ← hs, if_pos ⟨by omega, by omega⟩, if_pos ⟨by omega, by omega⟩, Int.toNat_natCast, Int.toNat_natCast]
  have := List.pairwise_iff_getElem.1 hg.mono (k - 1) k (by omega) (by omega) (by omega)
  simp only [List.getD_eq_getElem?_getD, List.getElem?_eq_getElem (show k < p.1.length by omega), List.getElem?_eq_getElem (show k - 1 < p.1.length by omega), Option.getD_some] at this ⊢
  omega
theorem l1_set {W : World} {A : Adr} {m : Nat} {K : Int} {p p' : Qst} {o3 o5 : Option Addr} {g m1 k : Nat} {w : World} (h : L1 W A m K p p' o3 o5 g m1 k w) (hg : Qp.Good m p') (hk : k < m) : ∀ w', Drawn w w' → L1 W A m K p p' o3 o5 g m1 (k + 1) (w'.setCell ⟨g, p'.1.getD k 0, none⟩ (.int .i64 ((k : Int) + 1))) :=
  fun w' hd => (h.drawn hd).set hg hk
structure F18 (k m x m1 : Nat) : Prop where
  a : (k : Int) < m
  b : ¬ (x : Int) < 1
  c : ¬ m < x
  d : (x : Int) < m1
structure F18z (k : Nat) : Prop where
  a : ¬ (0 : Int) < k
  b : ¬ 0 < k
structure F18l (stv : Int → Int) (x y : Nat) : Prop where
  a : ¬ stv (x : Int) < stv (y : Int)
structure F18q (k kq m : Nat) : Prop where
  a : (0 : Int) < k
  b : 0 < k
  c : wrap64 ((k : Int) - 1) = (kq : Int)
  d : IntKind.i64.wrap ((k : Int) - 1) = (kq : Int)
  e : (kq : Int) < m
structure F24 (j jq m : Nat) : Prop where
  a : (j : Int) < m
  b : wrap64 ((j : Int) - 1) = (jq : Int)
  c : IntKind.i64.wrap ((j : Int) - 1) = (jq : Int)
  d : (jq : Int) < m
structure F25 (x y m1 : Nat) : Prop where
  a : (x : Int) < m1
  b : (y : Int) < m1
theorem meas2r {j m : Nat} (h : j < m) : m + 1 - ((j : Int) + 1).toNat < m + 1 - ((j : Int)).toNat := by omega
theorem in19c {W : World} {a : Option Addr} {c ml : Nat} {xs : List Int} (h1 : Iw W a xs) (e : xs.length = ml) (h8 : xs.length ≤ 1048576) (v : Int) :
    Calls Try.prog 19 #[.slice a ml c, .int .i64 v] W fun e w' => e = .returned (.bool (decide (v ∈ xs))) ∧ w' = W := by
  rw [← e]; exact in19 h1 h8 v
theorem row_order {m j : Nat} {p p' : Qst} {l : List Int} (hg : Qp.Good m p) (hg2 : Qp.Good m p') (hb : p'.1 = Qp.bmp l p.1) (h1 : 1 ≤ j) (hj : j < m) :
    (decide (((p.1.getD (j - 1) 0 : Nat) : Int) ∈ l) = true → decide (((p.1.getD j 0 : Nat) : Int) ∈ l) = true) → ¬ (Qp.atL m p'.1 m).getD (p.1.getD j 0) 0 < (Qp.atL m p'.1 m).getD (p.1.getD (j - 1) 0) 0 := fun h => by
  obtain ⟨k, rfl⟩ : ∃ k, j = k + 1 := ⟨j - 1, by omega⟩
  have hl := hg.length
  rw [show k + 1 - 1 = k from rfl] at h ⊢
  have hs := Qp.bmp_order (l := l) (L := p.1) (k := k) (by omega) (fun hh => by simpa [Qp.inL] using h (by simpa [Qp.inL] using hh))
  rw [← hb] at hs
  have hi := Qp.idx_lt_of_sub hs hg2.nodup
  have m1 := (hg.mem.1 (getD_mem' (L := p.1) (k := k) (by omega))).2
  have m2 := (hg.mem.1 (getD_mem' (L := p.1) (k := k + 1) (by omega))).2
  rw [Qp.atL_at m1, Qp.atL_at m2]
  have hlt : p'.1.idxOf (p.1.getD (k + 1) 0) < m := by
    rw [← hg2.length]
    exact List.idxOf_lt_length_iff.2 (hg2.mem.2 (hg.mem.1 (getD_mem' (L := p.1) (k := k + 1) (by omega))))
  rw [if_pos hlt, if_pos (by omega)]
  omega
theorem wrap_q {m kq : Nat} (h : m ≤ 100) (h2 : (kq : Int) < m) : ((kq : Int) + 9223372036854775808) % 18446744073709551616 - 9223372036854775808 = (kq : Int) := by omega
set_option maxHeartbeats 8000000 in
theorem law4 (n : Int) {a : Option Addr} {ca : Nat} {ss : List Opr} {W : World} (h1 : Ops W a ss) (h8 : ss.length ≤ 8796093022208) :
    Calls Try.prog 4 #[.int .i64 n, .slice a ss.length ca] W fun e w' => e = .returned (.bool true) ∧ Below W.heap.size W w' := by
  have CW := hid (fun (w : World) (hb : Below W.heap.size W w) => show Calls Try.prog 9 #[] w fun e w' => e = .returned (.bool true) ∧ Below W.heap.size W w' from (works9 w).mono (by rintro e w' ⟨rfl, b1⟩; exact ⟨rfl, hb.trans (b1.mono hb.size)⟩))
  have C8 := hid (large8 (c := ca) n h1 h8)
  have HO := hid (fun (w : World) (hb : Below W.heap.size W w) => h1.below hb)
  have hsh : Hid (ss.length = 0) ∨ ∃ b' off, a = some ⟨b', off, none⟩ := h1.shape
  have HF := hid (fun (e : lrg n ss = false) => And.intro (few_of e) (lrg_few e).1)
  generalize hD : lrg n ss = D at *
  obtain ⟨u, hu⟩ : ∃ u, ss.length = u := ⟨_, rfl⟩
  have HU := hid hu
  rw [hu] at C8 hsh
  rw [hu]
  clear h1 h8 hu hD
  go_enter Try.func4, Try.ntmps4
  go_wp2_with (fail)
  go_at_call 8
  refine C8.out.mono ?_
  rintro e w1 ⟨rfl, d1⟩
  have HD1 := hid (show Below W.heap.size W w1 from d1.below)
  clear d1 C8
  cases D
  · obtain ⟨hfew, hnn⟩ := HF.out rfl
    have HFW := hid hfew
    by_cases hn : n < 0 ∨ 1048576 < n
    · have CB := hid (new10_no n w1 hn)
      have C9 := hid (CW.out w1 HD1.out)
      clear hn hnn hfew
      go_wp2_with (fail)
      go_at_call 10
      refine CB.out.mono ?_
      rintro e w2 ⟨rfl, hw2⟩
      rw [hw2]
      clear hw2
      go_wp2_with (fail)
      go_at_call 9
      refine C9.out.mono ?_
      rintro e w2 ⟨rfl, b2⟩
      have HB := hid b2
      clear b2 C9
      go_wp2
      go_ret
      exact ⟨rfl, HB.out⟩
    · obtain ⟨m, rfl⟩ : ∃ m : Nat, n = m := ⟨n.toNat, by omega⟩
      have hm : m ≤ 100 := by omega
      have C1 := hid (new10q (n := m) (by omega) (W := w1) (N := W.heap.size) HD1.out.size)
      clear hn hnn hfew HF
      go_wp2_with (fail)
      go_at_call 10
      refine C1.out.mono ?_
      rintro e w2 ⟨A, rfl, q2, b2⟩
      have HB2 := hid (HD1.out.trans (b2.mono HD1.out.size))
      have H0 := hid (show Qn W.heap.size A m (1048577 * (0 + 1 : Nat)) (runB m (ss.take 0)).1 (runB m (ss.take 0)).2 w2 ∧ Below W.heap.size W w2 from ⟨by have := q2; exact this, HB2.out⟩)
      clear q2 b2 C1 HD1 HB2
      go_wp2_with (fail)
      rcases hsh with Z | ⟨b, off, hab⟩
      case' inr => subst hab
      all_goals
        go_loopw [7] (fun i wr => ∃ k : Nat, k ≤ u ∧ i = .int .i64 (k : Nat) ∧ Hid (Qn W.heap.size A m (1048577 * (k + 1 : Nat)) (runB m (ss.take k)).1 (runB m (ss.take k)).2 wr ∧ Below W.heap.size W wr)) (fun i _ => u - (intOf i).toNat)
        case atStart => exact ⟨0, Nat.zero_le _, rfl, H0⟩
        case round =>
          obtain ⟨i, hk, rfl, HQ⟩ := hrel
          by_cases hlt : i < u
          · first
              | (exfalso; have := Z.out; omega)
              | (have hlt' : (i : Int) < u := by omega
                 have hkl : i < ss.length := by rw [HU.out]; exact hlt
                 have h100 : u ≤ 100 := by have := HFW.out.1; have := HU.out; omega
                 have hwk : wrap64 ((i : Int) + 1) = (i : Int) + 1 := by unfold wrap64; omega
                 have hsn := runB_snoc m hkl
                 have HG := hid (good_run m ss i)
                 generalize runB m (ss.take i) = p at *
                 have CO := hid (order16 HQ.out.1.qx)
                 clear H0
                 go_wp2_with (fail)
                 go_at_call 16
                 refine CO.out.mono ?_
                 rintro e w3 ⟨o3, c3, rfl, ow3, b3⟩
                 rw [HG.out.length] at ow3 ⊢
                 have HB3 := hid (HQ.out.2.trans (b3.mono HQ.out.2.size))
                 have HQ3 := hid (HQ.out.1.below b3)
                 have HW3 := hid (own_base ow3 HQ.out.2.size)
                 have HN3 := hid (fun (g : Nat) (hg : (Value.slice o3 m c3).ownBlock = some g) => show ¬ A.own g from fun ha => by
                   have := (own_blk ow3 hg).1
                   have := HQ.out.1.qx.lt ha
                   omega)
                 obtain ⟨a', b'', ca', cb', ok, y0, y1, y2⟩ := (HO.out W (Below.refl _ _)).at hkl
                 have x0 := (HB3.out.cell (p := ⟨b, off + i * 3, none⟩) (cell_lt y0)).trans y0
                 have x1 := (HB3.out.cell (p := ⟨b, off + i * 3 + 1, none⟩) (cell_lt y1)).trans y1
                 have hm6 := mod6 ok.kind
                 have hl4 := (HFW.out.2 _ (List.getElem_mem hkl)).1
                 generalize ss[i] = s at *
                 have HIL := hid (fun (w : World) (hb : Below W.heap.size W w) => And.intro (ok.l.all hb) ((hb.cell (p := ⟨b, off + i * 3 + 1, none⟩) (cell_lt y1)).trans y1))
                 have okl := (HIL.out w3 HB3.out).1
                 clear ow3 b3 CO HQ y0 y1 y2
                 by_cases hkd : s.kind % 6 < 3
                 · have C17 := hid (HQ3.out.bump HB3.out.size (by omega) (a := a') (c := ca') okl (by omega))
                   have hst : stepB m p s = (Qp.bL m s.l p.1, Qp.bS m s.l p.1 p.2) := by unfold stepB; rw [if_pos hkd]
                   have HK := hid (fun (w : World) (K : Int) (q : Qn W.heap.size A m K (stepB m p s).1 (stepB m p s).2 w) (hK : K ≤ 1048577 * (i + 1 + 1 : Nat)) => show Qn W.heap.size A m (1048577 * (i + 1 + 1 : Nat)) (runB m (ss.take (i + 1))).1 (runB m (ss.take (i + 1))).2 w from by
                     rw [hsn]
                     exact q.mono hK (by omega))
                   have hkd' : ¬ (2 : Int) < s.kind % 6 := by omega
                   generalize hml : s.l.length = ml at *
                   generalize s.kind = kd at *
                   obtain ⟨hm1, hm2⟩ := hm6
                   clear ok okl
                   go_wp2_with (fail)
                   go_at_call 17
                   refine C17.out.mono ?_
                   rintro e w4 ⟨rfl, q4, b4, f4⟩
                   clear hm1 hm2 hkd
                   generalize kd % 6 = kz at *
                   have HB4 := hid (HB3.out.trans b4)
                   obtain ⟨p', hp'⟩ : ∃ p', stepB m p s = p' := ⟨_, rfl⟩
                   rw [hp'] at hst hsn HK
                   have HSN := hid hsn
                   have q4' : Qn W.heap.size A m (1048577 * (i + 1 : Nat) + 1048577) p'.1 p'.2 w4 := by rw [hst]; exact q4
                   have HN := hid (show Qn W.heap.size A m (1048577 * (i + 1 + 1 : Nat)) (runB m (ss.take (i + 1))).1 (runB m (ss.take (i + 1))).2 w4 ∧ Below W.heap.size W w4 from ⟨HK.out w4 _ q4' (kb_le i), HB4.out⟩)
                   by_cases hok : Qp.okB m s.l = true
                   · have hbe : Qp.bE m s.l = 0 := by unfold Qp.bE; rw [if_pos hok]
                     rw [hbe]
                     have CO := hid (order16 q4'.qx)
                     have HG2 := hid (show Qp.Good m p' from by rw [hst]; exact Qp.good_bmp HG.out s.l)
                     have HBM := hid (show p'.1 = Qp.bmp s.l p.1 from by rw [hst]; unfold Qp.bL; rw [if_pos hok])
                     have HQ4 := hid q4'
                     have HF4 := hid f4
                     have HL8 := hid (show s.l.length ≤ 1048576 by rw [hml]; omega)
                     clear HN hst hsn hok hbe q4 q4' b4 f4 hp' hl4 hkl x0 x1 C17
                     go_wp2_with (fail)
                     go_at_call 16
                     refine CO.out.mono ?_
                     rintro e w5 ⟨o5, c5, rfl, ow5, b5⟩
                     rw [HG2.out.length] at ow5 ⊢
                     obtain ⟨m1, hm1'⟩ : ∃ m1, m + 1 = m1 := ⟨_, rfl⟩
                     obtain ⟨hw1, hw1'⟩ := m1_facts hm hm1'
                     have hmj := make32 w5 hm hm1'
                     have H6 := hid (l1_new (W := W) hm1' hm (HQ4.out.below b5) (HB4.out.trans (b5.mono HB4.out.size)) (own_below (own_fq HW3.out HF4.out HN3.out) b5) ow5)
                     obtain ⟨w6, hw6⟩ : ∃ w6, w5.alloc (.cells (iss (zer m1)).toArray 3) = w6 := ⟨_, rfl⟩
                     obtain ⟨g, hg⟩ : ∃ g, w5.heap.size = g := ⟨_, rfl⟩
                     rw [hw6, hg] at hmj H6
                     have hso : Hid (m = 0) ∨ ∃ g3 g5, o3 = some ⟨g3, 0, none⟩ ∧ o5 = some ⟨g5, 0, none⟩ := hso_of HW3.out ow5
                     have HM1 := hid hm1'
                     obtain ⟨O3, hO3⟩ : ∃ O3, O3 = o3 := ⟨_, rfl⟩
                     obtain ⟨O5, hO5⟩ : ∃ O5, O5 = o5 := ⟨_, rfl⟩
                     rw [← hO3, ← hO5] at H6
                     have HO3 := hid hO3
                     have HO5 := hid hO5
                     clear ow5 b5 HB4 HB3 HQ3 HW3 HN3 hm1' CO hw6 hg hO3 hO5 HQ4 HF4
                     go_wp2_with (fail)
                     clear hmj
                     rcases hso with Zm | ⟨g3, g5, h3, h5⟩
                     case' inr => rw [h3] at HO3 ⊢; rw [h5] at HO5 ⊢; clear h3 h5
                     all_goals
                       go_loopw [11] (fun kv wr => ∃ k : Nat, k ≤ m ∧ kv = .int .i64 (k : Nat) ∧ Hid (L1 W A m (1048577 * (i + 1 : Nat) + 1048577) p p' O3 O5 g m1 k wr)) (fun kv _ => m - (intOf kv).toNat)
                       case atStart => exact ⟨0, Nat.zero_le _, rfl, H6⟩
                       case round =>
                         obtain ⟨k, hkm, rfl, HI⟩ := hrel
                         clear H6
                         by_cases hlk : k < m
                         · first
                             | (exfalso; exact absurd hlk (by rw [Zm.out]; exact Nat.not_lt_zero k))
                             | as_aux_lemma =>
                                have hlk' : (k : Int) < m := nat_a hlk
                                have hkl2 : k < p'.1.length := by rw [HG2.out.length]; exact hlk
                                have hwk2 : wrap64 ((k : Int) + 1) = (k : Int) + 1 := wrap_k hm hlk
                                have hxm := HG2.out.mem.1 (getD_mem' hkl2)
                                have af := HI.out.af
                                rw [HO5.out] at af
                                have c1 := iw_cell af hkl2
                                obtain ⟨c2, f2⟩ := HI.out.cell hxm.2 HM1.out
                                rw [Qp.atL_at hxm.2, Qp.idx_at HG2.out.nodup hkl2, if_neg (Nat.lt_irrefl k)] at c2
                                obtain ⟨stv, hstv⟩ : ∃ stv : Int → Int, ∀ v, (if 1 ≤ v ∧ v ≤ (m : Int) then p'.2.getD v.toNat 0 else 0) = stv v := ⟨_, fun v => rfl⟩
                                have CS := hid (l1_stamp HI.out hstv)
                                have HST := hid (l1_set HI.out HG2.out hlk)
                                obtain ⟨hx1, hx2, hx3⟩ := nat_b hxm HM1.out
                                have hle := fun (hk0 : 0 < k) => stv_le (stv := stv) HG2.out hstv hk0 hlk
                                have c0 := fun (hk0 : 0 < k) => iw_cell af (j := k - 1) (lt_pred hkl2)
                                obtain ⟨x, hx⟩ : ∃ x, p'.1.getD k 0 = x := ⟨_, rfl⟩
                                rw [hx] at c1 c2 f2 HST hx1 hx2 hx3
                                simp only [hx] at hle
                                have hx2n : ¬ m < x := fun h => hx2 (Int.ofNat_lt.2 h)
                                clear hstv hxm hkl2 af hx HI
                                by_cases hk0 : 0 < k
                                · obtain ⟨hwq2, hwq3, hk0'⟩ := nat_c hlk hk0
                                  have hle := hle hk0
                                  have c0 := c0 hk0
                                  have hwq : wrap64 ((k : Int) - 1) = ((k - 1 : Nat) : Int) := wrap_k1 hm hlk hk0
                                  obtain ⟨y, hy⟩ : ∃ y, p'.1.getD (k - 1) 0 = y := ⟨_, rfl⟩
                                  obtain ⟨kq, hkq⟩ : ∃ kq, k - 1 = kq := ⟨_, rfl⟩
                                  rw [hy] at c0 hle
                                  rw [hkq] at c0 hwq hwq2 hwq3
                                  clear hy hkq
                                  have HXF : F18 k m x m1 := ⟨hlk', hx1, hx2n, hx3⟩
                                  have HXQ : F18q k kq m := (⟨hk0', hk0, hwq, by rw [IntKind.wrap_i64]; rw [hwq2]; exact wrap_q hm hwq3, hwq3⟩)
                                  have HLE : F18l stv x y := ⟨hle⟩
                                  clear hle hwq hwq2 hwq3 hk0' hk0 hx1 hx2n hx2
                                  go_wp2_with (fail)
                                  refine reg18a HXF.a c1 c2 HXF.b HXF.c HXF.d CS HXQ.a HXQ.b c0 HXQ.c HXQ.d HXQ.e HLE.a (hid (fun _ _ _ _ _ _ _ _ _ _ _ _ _ _ _ _ _ _ _ _ _ _ _ _ _ _ _ _ _ _ _ _ _ _ _ _ _ _ _ _ _ _ wd hdd => ?_))
                                  clear c0
                                  obtain ⟨qd, rfl⟩ := hdd
                                  have HS2 := hid (HST.out _ ⟨qd, rfl⟩)
                                  clear HST CS hwk hw1 hw1' hlt'
                                  dsimp only
                                  go_wp2
                                  exact ⟨⟨k + 1, hlk, by first | rfl | (rw [hwk2]; rfl), HS2⟩, by first | (simp only [intOf]; exact meas hlk) | (rw [hwk2]; simp only [intOf]; exact meas hlk)⟩
                                · have hk0' : ¬ (0 : Int) < k := nat_d hk0
                                  clear hle c0
                                  have HXF : F18 k m x m1 := ⟨hlk', hx1, hx2n, hx3⟩
                                  have HXZ : F18z k := ⟨hk0', hk0⟩
                                  clear hk0' hk0 hx1 hx2n hx2
                                  go_wp2_with (fail)
                                  refine reg18b HXF.a c1 c2 HXF.b HXF.c HXF.d HXZ.a HXZ.b (hid (fun _ _ _ _ _ _ _ _ _ _ _ _ _ _ _ _ _ _ _ _ _ _ _ _ _ _ _ _ _ _ _ _ _ _ _ _ _ _ _ _ _ _ wd hdd => ?_))
                                  obtain ⟨qd, rfl⟩ := hdd
                                  have HS2 := hid (HST.out _ ⟨qd, rfl⟩)
                                  clear HST CS hwk hw1 hw1' hlt'
                                  dsimp only
                                  go_wp2
                                  exact ⟨⟨k + 1, hlk, by first | rfl | (rw [hwk2]; rfl), HS2⟩, by first | (simp only [intOf]; exact meas hlk) | (rw [hwk2]; simp only [intOf]; exact meas hlk)⟩
                         · as_aux_lemma =>
                            have hlk' : ¬ (k : Int) < m := nat_na hlk
                            have hkm2 : k = m := Nat.le_antisymm hkm (Nat.le_of_not_lt hlk)
                            have HI2 := hid (hkm2 ▸ HI.out)
                            clear HI hkm hkm2
                            go_wp2_with (fail)
                            go_loopw [12] (fun kv wq => ∃ j : Nat, 1 ≤ j ∧ kv = .int .i64 (j : Nat) ∧ Hid (L1 W A m (1048577 * (i + 1 : Nat) + 1048577) p p' O3 O5 g m1 m wq)) (fun kv _ => m + 1 - (intOf kv).toNat)
                            case atStart => exact ⟨1, Nat.le_refl _, rfl, HI2⟩
                            case round =>
                              obtain ⟨j, hj1, rfl, HJ⟩ := hrel
                              clear HI2
                              by_cases hjm : j < m
                              · first
                                  | (exfalso; exact absurd hjm (by rw [Zm.out]; exact Nat.not_lt_zero j))
                                  | as_aux_lemma =>
                                     have hjI : (j : Int) < m := nat_a hjm
                                     have hbf := HJ.out.bf
                                     rw [HO3.out] at hbf
                                     have hlp : j < p.1.length := by rw [HG.out.length]; exact hjm
                                     have c0 := iw_cell hbf (j := j - 1) (lt_pred hlp)
                                     have c1 := iw_cell hbf (j := j) hlp
                                     have hxm := HG.out.mem.1 (getD_mem' (lt_pred hlp))
                                     have hym := HG.out.mem.1 (getD_mem' hlp)
                                     have px := (HJ.out.cell hxm.2 HM1.out).1
                                     have py := (HJ.out.cell hym.2 HM1.out).1
                                     have hat := row_order HG.out HG2.out HBM.out hj1 hjm
                                     obtain ⟨hx1, hx2, hx3⟩ := nat_b hxm HM1.out
                                     obtain ⟨hy1, hy2, hy3⟩ := nat_b hym HM1.out
                                     obtain ⟨hwr2, hwr3, hj0'⟩ := nat_c hjm hj1
                                     have hwr : wrap64 ((j : Int) - 1) = ((j - 1 : Nat) : Int) := wrap_k1 hm hjm hj1
                                     have hwj : wrap64 ((j : Int) + 1) = (j : Int) + 1 := wrap_k hm hjm
                                     have hcl := (HIL.out wr HJ.out.bel).2
                                     have CX := hid (fun (q5 q : Nat) => in19c (c := ca') (HIL.out ((wr.drewN q5).drewN q) ((HJ.out.drawn ⟨q5, rfl⟩).drawn ⟨q, rfl⟩).bel).1 hml HL8.out ((p.1.getD (j - 1) 0 : Nat) : Int))
                                     have CY := hid (fun (q5 q : Nat) => in19c (c := ca') (HIL.out ((wr.drewN q5).drewN q) ((HJ.out.drawn ⟨q5, rfl⟩).drawn ⟨q, rfl⟩).bel).1 hml HL8.out ((p.1.getD j 0 : Nat) : Int))
                                     have HJ2 := hid (fun (q : Nat) => HJ.out.drawn (w' := wr.drewN q) ⟨q, rfl⟩)
                                     obtain ⟨x, hx⟩ : ∃ x, p.1.getD (j - 1) 0 = x := ⟨_, rfl⟩
                                     obtain ⟨y, hy⟩ : ∃ y, p.1.getD j 0 = y := ⟨_, rfl⟩
                                     rw [hx] at c0 px CX hx3 hat
                                     rw [hy] at c1 py CY hy3 hat
                                     obtain ⟨px', hpx⟩ : ∃ z, (Qp.atL m p'.1 m).getD x 0 = z := ⟨_, rfl⟩
                                     obtain ⟨py', hpy⟩ : ∃ z, (Qp.atL m p'.1 m).getD y 0 = z := ⟨_, rfl⟩
                                     rw [hpx] at px hat
                                     rw [hpy] at py hat
                                     obtain ⟨jq, hjq⟩ : ∃ jq, j - 1 = jq := ⟨_, rfl⟩
                                     rw [hjq] at c0 hwr hwr2 hwr3
                                     have HQ : F24 j jq m := ⟨hjI, hwr, by rw [IntKind.wrap_i64, hwr2]; exact wrap_q hm hwr3, hwr3⟩
                                     have HXY : F25 x y m1 := ⟨hx3, hy3⟩
                                     have HAT := hid hat
                                     have HMJ := hid (meas2r hjm)
                                     have hiu := hlt'
                                     clear hx1 hx2 hx3 hy1 hy2 hy3 hwr hwr2 hwr3 hj0' hxm hym hlp hbf hx hy hpx hpy hjq hat HJ hwk hw1 hw1' hlk'
                                     go_wp2_with (fail)
                                     refine reg24 HQ.a HQ.b HQ.c HQ.d c0 c1 (hid (fun _ _ _ _ _ _ _ _ _ w5 hd5 => ?_))
                                     obtain ⟨q5, rfl⟩ := hd5
                                     dsimp only
                                     go_wp2_with (fail)
                                     refine reg25 (X := wr.drewN q5) hiu hcl HXY.a HXY.b px py (hid (CX.out q5)) (hid (CY.out q5)) (fun h => Int.not_lt.2 (HAT.out h)) (hid (fun _ _ _ _ _ _ _ _ _ _ _ _ _ _ _ _ _ _ _ _ _ _ _ _ _ _ _ _ _ _ _ _ _ _ _ _ _ _ _ _ _ _ _ _ _ _ _ _ _ _ _ _ _ _ _ w6 hd6 => ?_))
                                     obtain ⟨q6, rfl⟩ := hd6
                                     clear c0 c1 px py CX CY hcl
                                     dsimp only
                                     go_wp2_with (fail)
                                     exact ⟨⟨j + 1, Nat.le_succ_of_le hj1, by first | rfl | (rw [hwj]; rfl), hid (HJ2.out (q5 + q6))⟩, by first | (simp only [intOf]; exact HMJ.out) | (rw [hwj]; simp only [intOf]; exact HMJ.out)⟩
                              · have hjI : ¬ (j : Int) < m := nat_na hjm
                                have HN := hid (show Qn W.heap.size A m (1048577 * (i + 1 + 1 : Nat)) (runB m (ss.take (i + 1))).1 (runB m (ss.take (i + 1))).2 wr ∧ Below W.heap.size W wr from ⟨HK.out wr _ HJ.out.q (kb_le i), HJ.out.bel⟩)
                                clear HJ hw1 hw1'
                                go_wp2_with (fail)
                                exact ⟨⟨i + 1, hlt, by first | rfl | (rw [hwk]; rfl), HN⟩, by first | (simp only [intOf]; exact meas hlt) | (rw [hwk]; simp only [intOf]; exact meas hlt)⟩
                   · have hbe : Qp.bE m s.l = 2 := by unfold Qp.bE; rw [if_neg hok]
                     rw [hbe]
                     clear q4 q4' b4 f4 hbe hok HK hp'
                     go_wp2_with (fail)
                     exact ⟨⟨i + 1, hlt, by first | rfl | (rw [hwk]; rfl), HN⟩, by first | (simp only [intOf]; exact meas hlt) | (rw [hwk]; simp only [intOf]; exact meas hlt)⟩
                 · have HN := hid (show Qn W.heap.size A m (1048577 * (i + 1 + 1 : Nat)) (runB m (ss.take (i + 1))).1 (runB m (ss.take (i + 1))).2 w3 ∧ Below W.heap.size W w3 from by
                     rw [hsn, stepB, if_neg hkd]
                     exact ⟨HQ3.out.mono (by omega) (by omega), HB3.out⟩)
                   have hkd' : (2 : Int) < s.kind % 6 := by omega
                   generalize s.kind = kd at *
                   obtain ⟨hm1, hm2⟩ := hm6
                   clear ok okl x1 hl4 hkl hsn HIL
                   go_wp2_with (fail)
                   exact ⟨⟨i + 1, hlt, by first | rfl | (rw [hwk]; rfl), HN⟩, by first | (simp only [intOf]; exact meas hlt) | (rw [hwk]; simp only [intOf]; exact meas hlt)⟩)
          · have hge : ¬ (i : Int) < u := by omega
            have C9 := hid (CW.out wr HQ.out.2)
            clear HQ H0
            go_wp2_with (fail)
            go_at_call 9
            refine C9.out.mono ?_
            rintro e w2 ⟨rfl, b2⟩
            have HB := hid b2
            clear b2 C9
            go_wp2
            go_ret
            exact ⟨rfl, HB.out⟩
  · have C9 := hid (CW.out w1 HD1.out)
    go_wp2_with (fail)
    go_at_call 9
    refine C9.out.mono ?_
    rintro e w2 ⟨rfl, b2⟩
    have HB := hid b2
    clear b2 C9
    go_wp2
    go_ret
    exact ⟨rfl, HB.out⟩
end Go.Proofs.Ytjnifadfcnpdoaa
