/- Are two steps, two proofs the same? -/
import Derived.Test.YtmgeoeajnpnadaaSize
namespace Lra
theorem list_split (xs ys : List Int) (n : Nat) (hx : xs.length = n) (hy : ys.length = n) (h : ∀ k, k < n → xs.getD k 0 = ys.getD k 0) : xs = ys := by
  apply List.ext_getElem (by omega)
  intro i h1 h2
  have := h i (by omega)
  simpa [List.getD, List.getElem?_eq_getElem h1, List.getElem?_eq_getElem h2] using this
end Lra
namespace Go.Proofs.Ytmgeoeajnpnadaa
open Go.RowKit
set_option linter.unusedVariables false

set_option maxRecDepth 100000 in
set_option maxHeartbeats 4000000 in
theorem sameStep23 (s t : Lra.Stp) (a1 : Option Addr) (c1 : Nat) (a2 : Option Addr) (c2 : Nat) (b1 : Option Addr) (d1 : Nat) (b2 : Option Addr) (d2 : Nat) (w : World) (hs : StpV w a1 a2 s) (ht : StpV w b1 b2 t) :
    Calls Try.prog 23 #[sval s a1 c1 a2 c2, sval t b1 d1 b2 d2] w fun e w' => e = .returned (.bool (decide (s = t))) ∧ Below w.heap.size w w' := by
  obtain ⟨k1, i1, l1, h1⟩ := s
  obtain ⟨k2, i2, l2, h2⟩ := t
  obtain ⟨p1, p2, p3, p4, p5⟩ := hs
  obtain ⟨q1, q2, q3, q4, q5⟩ := ht
  simp only at p1 p2 p3 p4 p5 q1 q2 q3 q4 q5
  unfold sval
  simp only
  obtain ⟨W1, hW1⟩ : ∃ W1, w.alloc (.cells #[.int .u8 k1, .int .i64 i1, .slice a1 l1.length c1, .slice a2 h1.length c2] 43) = W1 := ⟨_, rfl⟩
  obtain ⟨W2, hW2⟩ : ∃ W2, W1.alloc (.cells #[.int .u8 k2, .int .i64 i2, .slice b1 l2.length d1, .slice b2 h2.length d2] 43) = W2 := ⟨_, rfl⟩
  have B1 : Below w.heap.size w W1 := by rw [← hW1]; exact below_box _ _
  have B2 : Below W1.heap.size W1 W2 := by rw [← hW2]; exact below_box _ _
  have z1 : W1.heap.size = w.heap.size + 1 := by rw [← hW1]; simp
  have B := B1.trans (B2.mono B1.size)
  have r1 : W2.heap[w.heap.size]? = some (.cells #[.int .u8 k1, .int .i64 i1, .slice a1 l1.length c1, .slice a2 h1.length c2] 43 (0, 0)) := by
    rw [B2.block _ (by omega), ← hW1]; exact heap_alloc_new _ _
  have r2 : W2.heap[w.heap.size + 1]? = some (.cells #[.int .u8 k2, .int .i64 i2, .slice b1 l2.length d1, .slice b2 h2.length d2] 43 (0, 0)) := by
    rw [← hW2, ← z1]; exact heap_alloc_new _ _
  have x0 := row_cell r1 0
  have x1 := row_cell r1 1
  have x2 := row_cell r1 2
  have x3 := row_cell r1 3
  have y0 := row_cell r2 0
  have y1 := row_cell r2 1
  have y2 := row_cell r2 2
  have y3 := row_cell r2 3
  simp only [List.getElem?_toArray, List.getElem?_cons_zero, List.getElem?_cons_succ] at x0 x1 x2 x3 y0 y1 y2 y3
  have hW : (w.alloc (.cells #[.int .u8 k1, .int .i64 i1, .slice a1 l1.length c1, .slice a2 h1.length c2] 43)).alloc (.cells #[.int .u8 k2, .int .i64 i2, .slice b1 l2.length d1, .slice b2 h2.length d2] 43) = W2 := by rw [hW1, hW2]
  have P1 := hid (p1.below B)
  have P2 := hid (p2.below B)
  have Q1 := hid (q1.below B)
  have Q2 := hid (q2.below B)
  have HB := hid B
  have P5 := hid p5
  have Q5 := hid q5
  obtain ⟨r, hr⟩ : ∃ r, decide ((⟨k1, i1, l1, h1⟩ : Lra.Stp) = ⟨k2, i2, l2, h2⟩) = r := ⟨_, rfl⟩
  rw [hr]
  have HR := hid hr
  clear p1 p2 p3 p4 p5 q1 q2 q3 q4 q5 B1 B2 z1 B r1 r2 hW1 hW2 hr
  have no : Hid (∀ (h : ¬ (k1 = k2 ∧ i1 = i2 ∧ l1 = l2 ∧ h1 = h2)), r = false) := hid (fun h => by rw [← HR.out]; exact decide_eq_false (fun e => by injection e with e1 e2 e3 e4; exact h ⟨e1, e2, e3, e4⟩))
  by_cases ek : k1 = k2
  case neg =>
    have HF := hid (no.out (fun h => ek h.1))
    have t0 : (k1 != k2) = true := by simpa using ek
    generalize l1.length = n1 at hW x2
    generalize h1.length = n2 at hW x3
    generalize l2.length = m1 at hW y2
    generalize h2.length = m2 at hW y3
    clear ek
    go_enter Try.func23, Try.ntmps23
    go_wp2
    go_ret
    exact ⟨by rw [HF.out]; rfl, HB.out⟩
  subst ek
  have t0 : (k1 != k1) = false := by simp
  by_cases ei : i1 = i2
  case neg =>
    have HF := hid (no.out (fun h => ei h.2.1))
    have t1 : (i1 != i2) = true := by simpa using ei
    generalize l1.length = n1 at hW x2
    generalize h1.length = n2 at hW x3
    generalize l2.length = m1 at hW y2
    generalize h2.length = m2 at hW y3
    clear ei
    go_enter Try.func23, Try.ntmps23
    go_wp2
    go_ret
    exact ⟨by rw [HF.out]; rfl, HB.out⟩
  subst ei
  have t1 : (i1 != i1) = false := by simp
  by_cases el : l1.length = l2.length
  case neg =>
    have HF := hid (no.out (fun h => el (by rw [h.2.2.1])))
    have t2 : ((l1.length : Int) != (l2.length : Int)) = true := by simp; omega
    generalize l1.length = n1 at hW x2 t2
    generalize h1.length = n2 at hW x3
    generalize l2.length = m1 at hW y2 t2
    generalize h2.length = m2 at hW y3
    clear el
    go_enter Try.func23, Try.ntmps23
    go_wp2
    go_ret
    exact ⟨by rw [HF.out]; rfl, HB.out⟩
  by_cases eh : h1.length = h2.length
  case neg =>
    have HF := hid (no.out (fun h => eh (by rw [h.2.2.2])))
    have t2 : ((l1.length : Int) != (l2.length : Int)) = false := by simp; omega
    have t3 : ((h1.length : Int) != (h2.length : Int)) = true := by simp; omega
    generalize l1.length = n1 at hW x2 t2
    generalize h1.length = n2 at hW x3 t3
    generalize l2.length = m1 at hW y2 t2
    generalize h2.length = m2 at hW y3 t3
    clear el eh
    go_enter Try.func23, Try.ntmps23
    go_wp2
    go_ret
    exact ⟨by rw [HF.out]; rfl, HB.out⟩
  rw [← el] at hW y2 ⊢
  rw [← eh] at hW y3 ⊢
  have M1 := hid el.symm
  have M2 := hid eh.symm
  have sh1 : Hid (l1.length = 0) ∨ ∃ g o g' o', a1 = some ⟨g, o, none⟩ ∧ b1 = some ⟨g', o', none⟩ := by
    rcases P1.out.shape with h | ⟨g, o, e⟩
    · exact .inl (hid h)
    · rcases Q1.out.shape with h | ⟨g', o', e'⟩
      · exact .inl (hid (by omega))
      · exact .inr ⟨g, o, g', o', e, e'⟩
  have sh2 : Hid (h1.length = 0) ∨ ∃ g o g' o', a2 = some ⟨g, o, none⟩ ∧ b2 = some ⟨g', o', none⟩ := by
    rcases P2.out.shape with h | ⟨g, o, e⟩
    · exact .inl (hid h)
    · rcases Q2.out.shape with h | ⟨g', o', e'⟩
      · exact .inl (hid (by omega))
      · exact .inr ⟨g, o, g', o', e, e'⟩
  generalize hn1 : l1.length = n1 at hW x2 y2 M1 sh1 P5 ⊢
  generalize hn2 : h1.length = n2 at hW x3 y3 M2 sh2 P5 ⊢
  have N1 := hid hn1
  have N2 := hid hn2
  obtain ⟨bn1, bn2⟩ := P5.out
  clear el eh hn1 hn2 P5 Q5
  have t2 : ((n1 : Int) != (n1 : Int)) = false := by simp
  have t3 : ((n2 : Int) != (n2 : Int)) = false := by simp
  have ER := hid (show r = decide (l1 = l2 ∧ h1 = h2) by
    rw [← HR.out, decide_eq_decide]
    constructor
    · intro e; injection e with _ _ e3 e4; exact ⟨e3, e4⟩
    · rintro ⟨rfl, rfl⟩; rfl)
  clear HR no
  rcases sh1 with Z1 | ⟨g1, o1, g3, o3, rfl, rfl⟩ <;> rcases sh2 with Z2 | ⟨g2, o2, g4, o4, rfl, rfl⟩
  all_goals
    go_enter Try.func23, Try.ntmps23
    go_wp2
    go_loopw [5] (fun iv wr => ∃ k : Nat, iv = .int .i64 k ∧ k ≤ n1 ∧ Hid (∀ j, j < k → l1.getD j 0 = l2.getD j 0) ∧ Hid (Below W2.heap.size W2 wr)) (fun iv _ => n1 - (intOf iv).toNat)
    case atStart => exact ⟨0, rfl, by omega, hid (fun j h => by omega), hid (Below.refl _ _)⟩
    case round =>
      obtain ⟨k, rfl, hk, HI, HD⟩ := hrel
      have X2 := (HD.out.cell (p := ⟨w.heap.size, 2, none⟩) (cell_lt x2)).trans x2
      have X3 := (HD.out.cell (p := ⟨w.heap.size, 3, none⟩) (cell_lt x3)).trans x3
      have Y2 := (HD.out.cell (p := ⟨w.heap.size + 1, 2, none⟩) (cell_lt y2)).trans y2
      by_cases hlt : k < n1
      · have hlt' : (k : Int) < n1 := by omega
        first
        | (exfalso; have := Z1.out; omega)
        | (obtain ⟨b', off', e, _, hc, _, _⟩ := (P1.out.below HD.out).at (j := k) (by rw [N1.out]; exact hlt)
           cases e
           obtain ⟨b', off', e, _, hc', _, _⟩ := (Q1.out.below HD.out).at (j := k) (by rw [M1.out]; exact hlt)
           cases e
           obtain ⟨x, hx⟩ : ∃ x, l1.getD k 0 = x := ⟨_, rfl⟩
           obtain ⟨y, hy⟩ : ∃ y, l2.getD k 0 = y := ⟨_, rfl⟩
           rw [hx] at hc
           rw [hy] at hc'
           have HX := hid hx
           have HY := hid hy
           clear hx hy
           by_cases hxy : x = y
           · have hne : (x != y) = false := by simpa using hxy
             have HK := hid (show ∀ j, j < k + 1 → l1.getD j 0 = l2.getD j 0 from fun j hj => by
               rcases Nat.lt_or_ge j k with h | h
               · exact HI.out j h
               · rw [show j = k by omega, HX.out, HY.out, hxy])
             clear hxy HX HY
             go_wp2
             go_quiet (fail)
             go_wp2
             go_roundw
             case rel => exact ⟨k + 1, by go_num, by omega, HK, hid (HD.out.trans (below_drewN _ _ _))⟩
             case measure => simp [intOf]; omega
           · have hne : (x != y) = true := by simpa using hxy
             have HF := hid (show r = false by
               rw [ER.out]
               exact decide_eq_false (fun h => hxy (by rw [← HX.out, ← HY.out, h.1])))
             clear hxy HX HY
             go_wp2
             go_quiet (fail)
             go_wp2
             go_ret
             exact ⟨by rw [HF.out]; rfl, HB.out.trans ((HD.out.trans (below_drewN _ _ _)).mono HB.out.size)⟩)
      · have hlt' : ¬ (k : Int) < n1 := by omega
        have HE1 := hid (Lra.list_split l1 l2 n1 N1.out M1.out (fun j hj => HI.out j (by omega)))
        go_wp2
        go_loopw [6] (fun iv wr => ∃ q : Nat, iv = .int .i64 q ∧ q ≤ n2 ∧ Hid (∀ j, j < q → h1.getD j 0 = h2.getD j 0) ∧ Hid (Below W2.heap.size W2 wr)) (fun iv _ => n2 - (intOf iv).toNat)
        case atStart => exact ⟨0, rfl, by omega, hid (fun j h => by omega), HD⟩
        case round =>
          clear HD X2 X3 Y2
          obtain ⟨q, rfl, hq, HJ, HD⟩ := hrel
          have X3 := (HD.out.cell (p := ⟨w.heap.size, 3, none⟩) (cell_lt x3)).trans x3
          have Y3 := (HD.out.cell (p := ⟨w.heap.size + 1, 3, none⟩) (cell_lt y3)).trans y3
          by_cases hl2 : q < n2
          · have hl2' : (q : Int) < n2 := by omega
            first
            | (exfalso; have := Z2.out; omega)
            | (obtain ⟨b', off', e, _, hc, _, _⟩ := (P2.out.below HD.out).at (j := q) (by rw [N2.out]; exact hl2)
               cases e
               obtain ⟨b', off', e, _, hc', _, _⟩ := (Q2.out.below HD.out).at (j := q) (by rw [M2.out]; exact hl2)
               cases e
               obtain ⟨x, hx⟩ : ∃ x, h1.getD q 0 = x := ⟨_, rfl⟩
               obtain ⟨y, hy⟩ : ∃ y, h2.getD q 0 = y := ⟨_, rfl⟩
               rw [hx] at hc
               rw [hy] at hc'
               have HX := hid hx
               have HY := hid hy
               clear hx hy
               by_cases hxy : x = y
               · have hne : (x != y) = false := by simpa using hxy
                 have HK := hid (show ∀ j, j < q + 1 → h1.getD j 0 = h2.getD j 0 from fun j hj => by
                   rcases Nat.lt_or_ge j q with h | h
                   · exact HJ.out j h
                   · rw [show j = q by omega, HX.out, HY.out, hxy])
                 clear hxy HX HY
                 go_wp2
                 go_quiet (fail)
                 go_wp2
                 go_roundw
                 case rel => exact ⟨q + 1, by go_num, by omega, HK, hid (HD.out.trans (below_drewN _ _ _))⟩
                 case measure => simp [intOf]; omega
               · have hne : (x != y) = true := by simpa using hxy
                 have HF := hid (show r = false by
                   rw [ER.out]
                   exact decide_eq_false (fun h => hxy (by rw [← HX.out, ← HY.out, h.2])))
                 clear hxy HX HY
                 go_wp2
                 go_quiet (fail)
                 go_wp2
                 go_ret
                 exact ⟨by rw [HF.out]; rfl, HB.out.trans ((HD.out.trans (below_drewN _ _ _)).mono HB.out.size)⟩)
          · have hl2' : ¬ (q : Int) < n2 := by omega
            have HF := hid (show r = true by
              rw [ER.out]
              exact decide_eq_true ⟨HE1.out, Lra.list_split h1 h2 n2 N2.out M2.out (fun j hj => HJ.out j (by omega))⟩)
            go_wp2
            go_ret
            exact ⟨by rw [HF.out]; rfl, HB.out.trans (HD.out.mono HB.out.size)⟩
end Go.Proofs.Ytmgeoeajnpnadaa
