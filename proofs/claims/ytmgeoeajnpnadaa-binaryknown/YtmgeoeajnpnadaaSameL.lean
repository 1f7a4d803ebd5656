/- Are two proofs the same? -/
import Derived.Test.YtmgeoeajnpnadaaSame
import Derived.Deep.RegionHeld3
namespace Lra
theorem steps_split (xs ys : List Stp) (n : Nat) (hx : xs.length = n) (hy : ys.length = n) (h : ∀ k, k < n → xs[k]? = ys[k]?) : xs = ys := by
  apply List.ext_getElem? 
  intro i
  rcases Nat.lt_or_ge i n with h1 | h1
  · exact h i h1
  · rw [List.getElem?_eq_none (by omega), List.getElem?_eq_none (by omega)]
end Lra
namespace Go.Proofs.Ytmgeoeajnpnadaa
open Go.RowKit
set_option linter.unusedVariables false

set_option maxRecDepth 100000 in
set_option maxHeartbeats 4000000 in
theorem same13 (a b : Option Addr) (n c m d : Nat) (ss ts : List Lra.Stp) (w : World) (hn : ss.length = n) (hm : ts.length = m) (hb : n ≤ 35184372088832) (hb2 : m ≤ 35184372088832) (hs : Steps w a ss) (ht : Steps w b ts) :
    Calls Try.prog 13 #[.slice a n c, .slice b m d] w fun e w' => e = .returned (.bool (decide (ss = ts))) ∧ Below w.heap.size w w' := by
  by_cases hnm : n = m
  case neg =>
    rw [decide_eq_false (fun h => hnm (by rw [← hn, ← hm, h]))]
    have t : ((n : Int) != (m : Int)) = true := by simp; omega
    clear hs ht hnm hn hm
    go_enter Try.func13, Try.ntmps13
    go_wp2
    go_ret
    exact ⟨rfl, Below.refl _ _⟩
  subst hnm
  have t : ((n : Int) != (n : Int)) = false := by simp
  have HS := hid hs
  have HT := hid ht
  have HN := hid hn
  have HM := hid hm
  obtain ⟨r, hr⟩ : ∃ r, decide (ss = ts) = r := ⟨_, rfl⟩
  rw [hr]
  have HR := hid hr
  have sh : Hid (n = 0) ∨ ∃ g o g' o', a = some ⟨g, o, none⟩ ∧ b = some ⟨g', o', none⟩ := by
    rcases hs.shape with h | ⟨g, o, e⟩
    · exact .inl (hid (by rw [← hn]; exact h.out))
    · rcases ht.shape with h | ⟨g', o', e'⟩
      · exact .inl (hid (by rw [← hm]; exact h.out))
      · exact .inr ⟨g, o, g', o', e, e'⟩
  clear hs ht hn hm hr
  rcases sh with Z | ⟨g1, o1, g2, o2, rfl, rfl⟩
  all_goals
    go_enter Try.func13, Try.ntmps13
    go_wp2
    go_loopw [5] (fun iv wr => ∃ k : Nat, iv = .int .i64 k ∧ k ≤ n ∧ Hid (∀ j, j < k → ss[j]? = ts[j]?) ∧ Hid (Below w.heap.size w wr)) (fun iv _ => n - (intOf iv).toNat)
    case atStart => exact ⟨0, rfl, by omega, hid (fun j h => by omega), hid (Below.refl _ _)⟩
    case round =>
      obtain ⟨k, rfl, hk, HI, HD⟩ := hrel
      by_cases hlt : k < n
      · have hlt' : (k : Int) < n := by omega
        first
        | (exfalso; have := Z.out; omega)
        | (have hks : k < ss.length := by rw [HN.out]; exact hlt
           have hkt : k < ts.length := by rw [HM.out]; exact hlt
           obtain ⟨a1, c1, a2, c2, hst⟩ := (HS.out.below HD.out).at (j := k) hks
           obtain ⟨b1, d1, b2, d2, htt⟩ := (HT.out.below HD.out).at (j := k) hkt
           obtain ⟨x0, x1, x2, x3, hv⟩ := hst
           obtain ⟨y0, y1, y2, y3, hu⟩ := htt
           have HV := hid hv
           have HU := hid hu
           have HE := hid (show ss[k]? = some ss[k] from List.getElem?_eq_getElem hks)
           have HG := hid (show ts[k]? = some ts[k] from List.getElem?_eq_getElem hkt)
           generalize ss[k] = s at x0 x1 x2 x3 HV HE
           generalize ts[k] = u at y0 y1 y2 y3 HU HG
           clear hv hu
           have hS : ∀ W, Below wr.heap.size wr W → Below wr.heap.size wr W ∧ W.cell? ⟨g1, o1 + k * 4, none⟩ = some (.int .u8 s.kind) ∧ W.cell? ⟨g1, o1 + k * 4 + 1, none⟩ = some (.int .i64 s.id) ∧ W.cell? ⟨g1, o1 + k * 4 + 2, none⟩ = some (.slice a1 s.lits.length c1) ∧ W.cell? ⟨g1, o1 + k * 4 + 3, none⟩ = some (.slice a2 s.hints.length c2) ∧
               W.cell? ⟨g2, o2 + k * 4, none⟩ = some (.int .u8 u.kind) ∧ W.cell? ⟨g2, o2 + k * 4 + 1, none⟩ = some (.int .i64 u.id) ∧ W.cell? ⟨g2, o2 + k * 4 + 2, none⟩ = some (.slice b1 u.lits.length d1) ∧ W.cell? ⟨g2, o2 + k * 4 + 3, none⟩ = some (.slice b2 u.hints.length d2) := fun W h =>
             ⟨h, (h.cell (p := ⟨g1, o1 + k * 4, none⟩) (cell_lt x0)).trans x0, (h.cell (p := ⟨g1, o1 + k * 4 + 1, none⟩) (cell_lt x0)).trans x1, (h.cell (p := ⟨g1, o1 + k * 4 + 2, none⟩) (cell_lt x0)).trans x2, (h.cell (p := ⟨g1, o1 + k * 4 + 3, none⟩) (cell_lt x0)).trans x3,
              (h.cell (p := ⟨g2, o2 + k * 4, none⟩) (cell_lt y0)).trans y0, (h.cell (p := ⟨g2, o2 + k * 4 + 1, none⟩) (cell_lt y0)).trans y1, (h.cell (p := ⟨g2, o2 + k * 4 + 2, none⟩) (cell_lt y0)).trans y2, (h.cell (p := ⟨g2, o2 + k * 4 + 3, none⟩) (cell_lt y0)).trans y3⟩
           have C := hid (fun (W : World) (h : Below wr.heap.size wr W) => (sameStep23 s u a1 c1 a2 c2 b1 d1 b2 d2 W (HV.out.below h) (HU.out.below h)).mono (R' := fun e w' => e = .returned (.bool (decide (s = u))) ∧ Below wr.heap.size wr w') fun e w' q => ⟨q.1, h.trans (q.2.mono h.size)⟩)
           unfold sval at C
           obtain ⟨sk, si, sl, sh⟩ := s
           obtain ⟨uk, ui, ul, uh⟩ := u
           simp only at hS C
           have HST := hid hS
           have HEQ := hid (Eq.refl (decide ((⟨sk, si, sl, sh⟩ : Lra.Stp) = ⟨uk, ui, ul, uh⟩)))
           obtain ⟨dd, hdd⟩ : ∃ dd, decide ((⟨sk, si, sl, sh⟩ : Lra.Stp) = ⟨uk, ui, ul, uh⟩) = dd := ⟨_, rfl⟩
           rw [hdd] at C
           have HDD := hid hdd
           generalize sl.length = n1 at hS C HST
           generalize sh.length = n2 at hS C HST
           generalize ul.length = n3 at hS C HST
           generalize uh.length = n4 at hS C HST
           clear x0 x1 x2 x3 y0 y1 y2 y3 HEQ hdd
           obtain ⟨_, x0, x1, x2, x3, y0, y1, y2, y3⟩ := hS wr (Below.refl _ _)
           have KK := hid (hS wr.drew (Below.refl _ _).drew)
           clear hS
           go_wp2
           cases dd
           all_goals
             go_region_held3 (fun W => Below wr.heap.size wr W ∧ W.cell? ⟨g1, o1 + k * 4, none⟩ = some (.int .u8 sk) ∧ W.cell? ⟨g1, o1 + k * 4 + 1, none⟩ = some (.int .i64 si) ∧ W.cell? ⟨g1, o1 + k * 4 + 2, none⟩ = some (.slice a1 n1 c1) ∧ W.cell? ⟨g1, o1 + k * 4 + 3, none⟩ = some (.slice a2 n2 c2) ∧
                 W.cell? ⟨g2, o2 + k * 4, none⟩ = some (.int .u8 uk) ∧ W.cell? ⟨g2, o2 + k * 4 + 1, none⟩ = some (.int .i64 ui) ∧ W.cell? ⟨g2, o2 + k * 4 + 2, none⟩ = some (.slice b1 n3 d1) ∧ W.cell? ⟨g2, o2 + k * 4 + 3, none⟩ = some (.slice b2 n4 d2))
               (first | exact KK.out | exact HST.out _ hb8)
               (first | (go_at_call 23; refine (C.out _ ?_).mono ?_; (first | exact (Below.refl _ _).drew | exact hb8); rintro e w8 ⟨rfl, hb8⟩))
             have HB8 := hid (HD.out.trans (hb8.mono HD.out.size))
             clear hb8
           · have HF := hid (show r = false by
               rw [← HR.out]
               exact decide_eq_false (fun e => by
                 have h1 := HE.out
                 rw [e, HG.out] at h1
                 have h2 := HDD.out
                 rw [decide_eq_false_iff_not] at h2
                 exact h2 (Option.some.inj h1).symm))
             go_wp2
             go_ret
             exact ⟨by rw [HF.out]; rfl, HB8.out⟩
           · have HK := hid (show ∀ j, j < k + 1 → ss[j]? = ts[j]? from fun j hj => by
               rcases Nat.lt_or_ge j k with h | h
               · exact HI.out j h
               · rw [show j = k by omega, HE.out, HG.out, of_decide_eq_true HDD.out])
             go_wp2
             go_roundw
             case rel => exact ⟨k + 1, by go_num, by omega, HK, HB8⟩
             case measure => simp [intOf]; omega)
      · have hlt' : ¬ (k : Int) < n := by omega
        have HF := hid (show r = true by
          rw [← HR.out]
          exact decide_eq_true (Lra.steps_split ss ts n HN.out HM.out (fun j hj => HI.out j (by omega))))
        go_wp2
        go_ret
        exact ⟨by rw [HF.out]; rfl, HD.out⟩
end Go.Proofs.Ytmgeoeajnpnadaa
