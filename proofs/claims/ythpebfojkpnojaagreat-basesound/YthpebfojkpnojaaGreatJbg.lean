/- Stack: what it tells. -/
import Derived.Test.YthpebfojkpnojaaGreatJbf
/- Stack: what it tells. -/
namespace Go.Proofs.YthpebfojkpnojaaGreat
open Go.RowKit Go.Maps
set_option linter.unusedVariables false
set_option linter.unusedSimpArgs false
set_option maxRecDepth 100000
theorem flat2_len (Q : List WtM) : (Q.flatMap wtv).length = Q.length * 2 := by
  induction Q with
  | nil => rfl
  | cons q Q ih => rw [List.flatMap_cons, List.length_append, ih]; simp [wtv]; omega
theorem flat2_at {Q : List WtM} : ∀ {j : Nat} (hj : j < Q.length) {t : Nat} (ht : t < 2), (Q.flatMap wtv)[j * 2 + t]? = (wtv Q[j])[t]? := by
  induction Q with
  | nil => intro j hj; simp at hj
  | cons r Q ih =>
    intro j hj t ht
    rw [List.flatMap_cons]
    cases j with
    | zero => rw [List.getElem?_append_left (by simp [wtv]; omega), Nat.zero_mul, Nat.zero_add]; rfl
    | succ j =>
      rw [List.getElem?_append_right (by simp [wtv]; omega), show (j + 1) * 2 + t - (wtv r).length = j * 2 + t by simp [wtv]; omega, ih (by simp at hj; omega) ht]
      rfl
theorem flat2_set (Q : List WtM) (k : Nat) (q : WtM) (hk : k < Q.length) : (Q.set k q).flatMap wtv = ((Q.flatMap wtv).set (k * 2) (.slice q.2.1.1 q.1.1.length q.2.1.2)).set (k * 2 + 1) (.slice q.2.2.1 q.1.2.length q.2.2.2) := by
  apply List.ext_getElem?
  intro i
  have hl : ∀ R : List WtM, (R.flatMap wtv).length = R.length * 2 := flat2_len
  by_cases hi : i < Q.length * 2
  · have hj : i / 2 < Q.length := by omega
    have h2 : i % 2 < 2 := Nat.mod_lt _ (by decide)
    have e : i = i / 2 * 2 + i % 2 := by omega
    have a1 := flat2_at (Q := Q.set k q) (j := i / 2) (by simpa using hj) h2
    have a2 := flat2_at (Q := Q) (j := i / 2) hj h2
    rw [← e] at a1 a2
    rw [a1, List.getElem?_set, List.getElem?_set, a2, List.getElem_set]
    simp only [List.length_set, hl]
    by_cases hk2 : k = i / 2
    · have hc : i % 2 = 0 ∨ i % 2 = 1 := by omega
      rcases hc with hc | hc
      · rw [if_pos hk2, if_neg (by omega), if_pos (by omega), if_pos (by omega), hc]
        rfl
      · rw [if_pos hk2, if_pos (by omega), if_pos (by omega), hc]
        rfl
    · rw [if_neg hk2, if_neg (by omega), if_neg (by omega)]
  · rw [List.getElem?_eq_none (by rw [hl]; simp; omega), List.getElem?_eq_none (by simp [hl]; omega)]
def StkOut (S : List (List Int × List Int)) (W : World) (e : Ending) (w' : World) : Prop := ∃ o c, ∃ Q : List WtM, e = .returned (.slice o S.length c) ∧ Q.map (·.1) = S ∧ w'.ownsRow W.heap.size 95 2 (.slice o S.length c) S.length (Q.flatMap wtv) ∧ (∀ q ∈ Q, Lits w' q.2.1.1 q.1.1 ∧ Lits w' q.2.2.1 q.1.2 ∧ q.1.1.length ≤ q.2.1.2) ∧ Below W.heap.size W w'
/-- A place of a copied stack is written over. -/
theorem own2_set {W : World} {base g n c k : Nat} {Q : List WtM} (h : W.ownsRow base 95 2 (.slice (some ⟨g, 0, none⟩) n c) n (Q.flatMap wtv)) (hQ : Q.length = n) (hk : k < n) (q : WtM) :
    ((W.setCell ⟨g, k * 2, none⟩ (.slice q.2.1.1 q.1.1.length q.2.1.2)).setCell ⟨g, k * 2 + 1, none⟩ (.slice q.2.2.1 q.1.2.length q.2.2.2)).ownsRow base 95 2 (.slice (some ⟨g, 0, none⟩) n c) n ((Q.set k q).flatMap wtv) := by
  rcases h.2 with ⟨e, h0⟩ | ⟨g', c', cur, e, h1, h2, h3, h4, h5, h6⟩
  · cases e
  · cases e
    refine ⟨by rw [flat2_len]; simp [hQ], .inr ⟨g, c, _, rfl, h1, heap_set_row (heap_set_row h2 _) _, h3, h4, by simpa using h5, ?_⟩⟩
    rw [Array.toList_setIfInBounds, Array.toList_setIfInBounds, List.take_set, List.take_set, h6, flat2_set Q k q (by omega)]
end Go.Proofs.YthpebfojkpnojaaGreat

/- Stack: the walk. -/
namespace Go.Proofs.YthpebfojkpnojaaGreat
open Go.RowKit Go.Maps
set_option linter.unusedVariables false
set_option linter.unusedSimpArgs false
set_option maxRecDepth 100000
theorem own_cap {W : World} {base n c e : Nat} {o : Option Addr} {xs : List Value} (h : W.ownsRow base e 1 (.slice o n c) n xs) : n ≤ c := by
  rcases h.2 with ⟨_, h0⟩ | ⟨g, c', cur, e1, _, _, h4, _⟩
  · omega
  · injection e1 with _ _ e3
    omega
set_option maxHeartbeats 8000000 in
theorem stack17 {M : Nat → Prop} {bb K : Nat} {s : Bas.S} {W : World} (h : Bs M bb K s W) (hst : s.stack.length ≤ 16777216) (hk : ∀ q ∈ s.stack, q.1.length ≤ 16777216 ∧ q.2.length ≤ 16777216) :
    Calls Tryz.prog 51 #[.pointer (some ⟨bb, 0, none⟩)] W fun en w' => StkOut s.stack W en w' := by
  obtain ⟨hv, bm, br, k, k2, f, g, rv, sv, tv, R, Z, rw', ids, iv, hb, m1, m2, m3, hne, _, _, _, ⟨⟨d1, _⟩, d2, d3⟩, _⟩ := h
  have hZl : Z.length = s.stack.length := by rw [← d2]; simp
  obtain ⟨vo, vc, rfl⟩ := own_slc d1
  have x7 : W.cell? ⟨bb, 7, none⟩ = some (.slice vo Z.length vc) := row_cell hb 7
  obtain ⟨n, hn⟩ : ∃ n, Z.length = n := ⟨_, rfl⟩
  have hN : n ≤ 16777216 := by omega
  have hone : ∀ u ∈ Z.flatMap wtv, u.oneCell' = true := fun u hu => by
    obtain ⟨q, _, hq⟩ := List.mem_flatMap.1 hu
    simp [wtv] at hq
    rcases hq with rfl | rfl <;> rfl
  rw [hn] at x7 d1
  have C42 := hid (clone42 vo n vc (Z.flatMap wtv) W hN hone d1)
  have HZ := hid d2
  have HZL := hid hn
  have HLI := hid (fun q hq => And.intro (d3 q hq).1.1 (d3 q hq).2.1)
  have HKL := hid hk
  have HSN := hid (show s.stack.length = n by rw [← hZl, hn])
  clear hb d1 d3 hone hn hk hZl d2 hst
  go_enter Tryz.func51, Tryz.ntmps51
  go_wp2_with (go_at_call 42; refine C42.out.mono ?_; clear C42; rintro e w2 ⟨o, kc, rfl, ho, hb2⟩; have HO := hid ho; have HB := hid hb2; clear ho hb2)
  rcases HO.out.2 with ⟨e0, h0⟩ | ⟨gl, c', cur0, e0, hgl, hg0, hnc, hcm, _, _⟩
  · cases e0
    go_loop [15] (fun i => i = .int .i64 0) (fun _ => 0)
    case atStart => rfl
    case round =>
      obtain rfl := hrel
      go_wp2
      go_ret
      exact ⟨none, 0, Z, by rw [HSN.out]; rfl, HZ.out, by rw [HSN.out]; exact HO.out, fun q hq => (by have hz : Z = [] := List.eq_nil_of_length_eq_zero (by rw [HZL.out]); rw [hz] at hq; cases hq), HB.out⟩
  · cases e0
    have hglt := lt_of_blk hg0
    have HG := hid hglt
    have HI0 := hid (show ∀ q ∈ Z, LI (fun x => x = gl) w2 q.2.1.1 q.1.1 ∧ LI (fun x => x = gl) w2 q.2.2.1 q.1.2 from fun q hq => by
      obtain ⟨r1, r2⟩ := HLI.out q hq
      refine ⟨⟨r1.below HB.out, fun b off e hne hm => ?_⟩, ⟨r2.below HB.out, fun b off e hne hm => ?_⟩⟩
      · rcases r1.2 with h | ⟨b', off', e', hlt, _⟩
        · exact hne h
        · rw [e] at e'; cases e'; omega
      · rcases r2.2 with h | ⟨b', off', e', hlt, _⟩
        · exact hne h
        · rw [e] at e'; cases e'; omega)
    clear hg0 hglt HLI x7
    go_loopw [15] (fun iv wr => ∃ (k2 : Nat) (Q : List WtM), k2 ≤ n ∧ iv = .int .i64 k2 ∧ Hid (Q.map (·.1) = s.stack) ∧ Hid (wr.ownsRow W.heap.size 95 2 (.slice (some ⟨gl, 0, none⟩) n kc) n (Q.flatMap wtv)) ∧ Hid (∀ q ∈ Q, LI (fun x => x = gl) wr q.2.1.1 q.1.1 ∧ LI (fun x => x = gl) wr q.2.2.1 q.1.2) ∧ Hid (Below W.heap.size W wr) ∧ Hid (∀ j, j < k2 → ∀ q : WtM, Q[j]? = some q → q.1.1.length ≤ q.2.1.2)) (fun iv _ => n - (intOf iv).toNat)
    case atStart => exact ⟨0, Z, Nat.zero_le _, rfl, HZ, HO, HI0, HB, hid (fun j hj => absurd hj (Nat.not_lt_zero _))⟩
    case round =>
      clear HI0 HB HO
      obtain ⟨k2, Q, hk2, rfl, HQ, HO, HI, HB, HCP⟩ := hrel
      by_cases hlt : k2 < n
      · have hlt' : (k2 : Int) < n := by omega
        have hQl : Q.length = n := by rw [← HSN.out, ← HQ.out]; simp
        have hkl : k2 < Q.length := by omega
        obtain ⟨g', gc, cur, e2, _, hg2, _, _, hcs, h72⟩ := (show ∃ g' gc cur, (some ⟨gl, 0, none⟩ : Option Addr) = some ⟨g', 0, none⟩ ∧ W.heap.size ≤ g' ∧ wr.heap[g']? = some (.cells cur 95 (0, 0)) ∧ n ≤ gc ∧ gc ≤ maxLen ∧ cur.size = gc * 2 ∧ cur.toList.take (n * 2) = Q.flatMap wtv from by
          rcases HO.out.2 with ⟨e, h0⟩ | ⟨g', gc, cur, e, q1, q2, q3, q4, q5, q6⟩
          · cases e
          · cases e; exact ⟨_, _, cur, rfl, q1, q2, q3, q4, q5, q6⟩)
        cases e2
        have hce : ∀ t v, t < 2 → (wtv Q[k2])[t]? = some v → wr.cell? ⟨gl, k2 * 2 + t, none⟩ = some v := fun t v ht hv => by
          have := flat2_at hkl ht
          rw [hv, ← h72, List.getElem?_take_of_lt (by omega), Array.getElem?_toList] at this
          rw [row_cell hg2, this]
        have u0 : wr.cell? ⟨gl, k2 * 2, none⟩ = some (.slice Q[k2].2.1.1 Q[k2].1.1.length Q[k2].2.1.2) := hce 0 _ (by omega) rfl
        have u1 : wr.cell? ⟨gl, k2 * 2 + 1, none⟩ = some (.slice Q[k2].2.2.1 Q[k2].1.2.length Q[k2].2.2.2) := hce 1 _ (by omega) rfl
        have hqm : Q[k2] ∈ Q := List.getElem_mem hkl
        obtain ⟨r1, r2⟩ := HI.out _ hqm
        obtain ⟨b1, b2⟩ := HKL.out Q[k2].1 (by rw [← HQ.out]; exact List.mem_map.2 ⟨_, hqm, rfl⟩)
        have C31 := hid (fun X (hX : Below wr.heap.size wr X) => clone31 Q[k2].2.1.1 _ Q[k2].2.1.2 Q[k2].1.1 X rfl b1 (r1.1.below hX))
        have C31b := hid (fun X (hX : Below wr.heap.size wr X) => clone31 Q[k2].2.2.1 _ Q[k2].2.2.2 Q[k2].1.2 X rfl b2 (r2.1.below hX))
        have HLK := hid (And.intro r1.1.1 r2.1.1)
        have HGL := hid (lt_of_blk hg2)
        have HFZ := hid (fun X (hX : Below wr.heap.size wr X) => show X.cell? ⟨gl, k2 * 2, none⟩ = some (.slice Q[k2].2.1.1 Q[k2].1.1.length Q[k2].2.1.2) ∧ X.frozen? ⟨gl, k2 * 2, none⟩ = false ∧ X.cell? ⟨gl, k2 * 2 + 1, none⟩ = some (.slice Q[k2].2.2.1 Q[k2].1.2.length Q[k2].2.2.2) ∧ X.frozen? ⟨gl, k2 * 2 + 1, none⟩ = false from by
          have hh := (hX.block gl (lt_of_blk hg2)).trans hg2
          exact ⟨(hX.cell (p := ⟨gl, k2 * 2, none⟩) (lt_of_blk hg2)).trans u0, row_frozen hh _, (hX.cell (p := ⟨gl, k2 * 2 + 1, none⟩) (lt_of_blk hg2)).trans u1, row_frozen hh _⟩)
        clear hg2 h72 hce hcs r1 r2 b1 b2 hqm
        have NEXT := hid (fun (W5 : World) (o1 : Option Addr) (k1 : Nat) (o2 : Option Addr) (k2' : Nat) (hb5 : Below wr.heap.size wr W5) (h1 : W5.ownsRow wr.heap.size 66 1 (.slice o1 Q[k2].1.1.length k1) Q[k2].1.1.length (Q[k2].1.1.map (Value.int .i32))) (h2 : W5.ownsRow wr.heap.size 66 1 (.slice o2 Q[k2].1.2.length k2') Q[k2].1.2.length (Q[k2].1.2.map (Value.int .i32))) (V : World) (hV : V = (W5.setCell ⟨gl, k2 * 2, none⟩ (.slice o1 Q[k2].1.1.length k1)).setCell ⟨gl, k2 * 2 + 1, none⟩ (.slice o2 Q[k2].1.2.length k2')) => show ∃ Q' : List WtM, Q'.map (·.1) = s.stack ∧ V.ownsRow W.heap.size 95 2 (.slice (some ⟨gl, 0, none⟩) n kc) n (Q'.flatMap wtv) ∧ (∀ q ∈ Q', LI (fun x => x = gl) V q.2.1.1 q.1.1 ∧ LI (fun x => x = gl) V q.2.2.1 q.1.2) ∧ Below W.heap.size W V ∧ (∀ j, j < k2 + 1 → ∀ q : WtM, Q'[j]? = some q → q.1.1.length ≤ q.2.1.2) from by
          subst hV
          have f0 : Fm (fun x => x = gl) wr W5 := Fm.of_below hb5
          have f1 : Fm (fun x => x = gl) W5 ((W5.setCell ⟨gl, k2 * 2, none⟩ (.slice o1 Q[k2].1.1.length k1)).setCell ⟨gl, k2 * 2 + 1, none⟩ (.slice o2 Q[k2].1.2.length k2')) := (Fm.set (M := fun x => x = gl) W5 rfl _).trans (Fm.set (M := fun x => x = gl) _ rfl _) (Mn.refl _ _)
          have f := f0.trans f1 (Mn.refl _ _)
          have hM : ∀ g, (fun x => x = gl) g → g < wr.heap.size := fun g hg => by have := HGL.out; have hg' : g = gl := hg; omega
          have l1 := (own_RI (M1 := fun x => x = gl) h1 rfl HLK.out.1 hM).1.fm f1 (Mn.refl _ _)
          have l2 := (own_RI (M1 := fun x => x = gl) h2 rfl HLK.out.2 hM).1.fm f1 (Mn.refl _ _)
          refine ⟨Q.set k2 (Q[k2].1, (o1, k1), (o2, k2')), ?_, own2_set (own_below HO.out hb5) hQl hlt (Q[k2].1, (o1, k1), (o2, k2')), fun q hq => ?_, ?_, fun j hj q hq => ?_⟩
          · rw [List.map_set, HQ.out]
            have : s.stack[k2]? = some Q[k2].1 := by rw [← HQ.out]; simp [hkl]
            apply List.ext_getElem?
            intro i
            rw [List.getElem?_set]
            by_cases hi : k2 = i
            · subst hi
              rw [if_pos rfl, if_pos (by rw [HSN.out]; exact hlt), this]
            · rw [if_neg hi]
          · rcases List.mem_or_eq_of_mem_set hq with hq | rfl
            · exact ⟨(HI.out q hq).1.fm f (Mn.refl _ _), (HI.out q hq).2.fm f (Mn.refl _ _)⟩
            · exact ⟨l1, l2⟩
          · exact HB.out.trans (f.below HB.out.size (fun g hg => by have hg' : g = gl := hg; rw [hg']; exact hgl))
          · rw [List.getElem?_set] at hq
            by_cases hi : k2 = j
            · rw [if_pos hi, if_pos (by omega)] at hq
              cases hq
              exact own_cap h1
            · rw [if_neg hi] at hq
              exact HCP.out j (by omega) q hq)
        clear HI HO HKL HCP
        generalize Q[k2] = q at *
        obtain ⟨⟨ws, cs⟩, ⟨a1, c1⟩, ⟨a2, c2⟩⟩ := q
        simp only at u0 u1 C31 C31b HLK HFZ NEXT
        generalize ws.length = l1 at *
        generalize cs.length = l2 at *
        have POST := hid (fun (w4 : World) (hb4 : Below (wr.alloc (.cells #[.slice a1 l1 c1, .slice a2 l2 c2] 95)).heap.size (wr.alloc (.cells #[.slice a1 l1 c1, .slice a2 l2 c2] 95)) w4) => show (w4.cell? ⟨wr.heap.size, 0, none⟩ = some (.slice a1 l1 c1) ∧ w4.cell? ⟨wr.heap.size, 1, none⟩ = some (.slice a2 l2 c2)) ∧ Below wr.heap.size wr w4 ∧ w4.heap[wr.heap.size]? = some (.cells #[.slice a1 l1 c1, .slice a2 l2 c2] 95 (0, 0)) from by
          have hh := (hb4.block wr.heap.size (by simp)).trans (heap_alloc_new wr (.cells #[.slice a1 l1 c1, .slice a2 l2 c2] 95))
          exact ⟨⟨row_cell hh 0, row_cell hh 1⟩, (below_box wr _).trans (hb4.mono (by simp)), hh⟩)
        have BB := hid (Below.refl (wr.alloc (.cells #[.slice a1 l1 c1, .slice a2 l2 c2] 95)).heap.size (wr.alloc (.cells #[.slice a1 l1 c1, .slice a2 l2 c2] 95)))
        have v0 := (POST.out _ BB.out).1.1
        have v1 := (POST.out _ BB.out).1.2
        go_wp2_with fail
        go_region_held3 (fun X => X.cell? ⟨wr.heap.size, 0, none⟩ = some (.slice a1 l1 c1) ∧ X.cell? ⟨wr.heap.size, 1, none⟩ = some (.slice a2 l2 c2))
          (first | exact (POST.out _ BB.out.drew).1 | exact (POST.out _ BB.out).1 | exact (POST.out _ hb4).1 | exact (POST.out _ hb5).1 | exact S6.out)
          (first
            | (go_at_call 35; refine (C31.out _ (POST.out _ BB.out.drew).2.1).mono ?_; clear C31; rintro e w4 ⟨o4, c4, rfl, ho4, hb4'⟩
               have hb4 := BB.out.drew.trans (hb4'.mono (by simp))
               have HO4 := hid ho4
               clear ho4 hb4')
            | (go_at_call 35; refine (C31b.out _ (POST.out _ hb4).2.1).mono ?_; clear C31b; rintro e w5 ⟨o5, c5, rfl, ho5, hb5'⟩
               have hb5 := hb4.trans (hb5'.mono hb4.size)
               have HO4b := hid (own_below HO4.out hb5')
               have HO5 := hid ho5
               obtain ⟨t0, t0f, t1, t1f⟩ := HFZ.out _ (POST.out _ hb5).2.1
               have S6 := hid (show ((w5.setCell ⟨gl, k2 * 2, none⟩ (.slice o4 l1 c4)).setCell ⟨gl, k2 * 2 + 1, none⟩ (.slice o5 l2 c5)).cell? ⟨wr.heap.size, 0, none⟩ = some (.slice a1 l1 c1) ∧ ((w5.setCell ⟨gl, k2 * 2, none⟩ (.slice o4 l1 c4)).setCell ⟨gl, k2 * 2 + 1, none⟩ (.slice o5 l2 c5)).cell? ⟨wr.heap.size, 1, none⟩ = some (.slice a2 l2 c2) from by
                 have hne : wr.heap.size ≠ gl := fun e => by have := HGL.out; omega
                 have hh := ((heap_other (w5.setCell ⟨gl, k2 * 2, none⟩ (.slice o4 l1 c4)) (.slice o5 l2 c5) hne (k := k2 * 2 + 1)).trans (heap_other w5 (.slice o4 l1 c4) hne (k := k2 * 2))).trans (POST.out _ hb5).2.2
                 exact ⟨row_cell hh 0, row_cell hh 1⟩)
               clear ho5))
        have hsz : wr.heap.size ≤ (wr.alloc (.cells #[.slice a1 l1 c1, .slice a2 l2 c2] 95)).heap.size := by simp
        have hsz4 : wr.heap.size ≤ w4.heap.size := Nat.le_trans hsz hb4.size
        obtain ⟨Q', n1, n2, n3, n4, n5⟩ := NEXT.out w5 o4 c4 o5 c5 (POST.out _ hb5).2.1 (own_base HO4b.out hsz) (own_base HO5.out hsz4) _ rfl
        have N1 := hid n1
        have N2 := hid n2
        have N3 := hid n3
        have N4 := hid n4
        have N5 := hid n5
        clear n1 n2 n3 n4 n5 t0 t1 t0f t1f NEXT POST S6 HO4 HO4b HO5 HFZ hb4 hb5 u0 u1 v0 v1
        generalize (w5.setCell ⟨gl, k2 * 2, none⟩ (.slice o4 l1 c4)).setCell ⟨gl, k2 * 2 + 1, none⟩ (.slice o5 l2 c5) = V at *
        go_wp2_with fail
        go_roundw
        case rel => exact ⟨k2 + 1, Q', by omega, by go_num, N1, N2, N3, N4, N5⟩
        case measure => simp [intOf]; omega
      · have hge : ¬ (k2 : Int) < n := by omega
        obtain rfl : k2 = n := by omega
        have HF := hid (show StkOut s.stack W (.returned (.slice (some ⟨gl, 0, none⟩) k2 kc)) wr from ⟨_, _, Q, by rw [HSN.out], HQ.out, by rw [HSN.out]; exact HO.out, fun q hq => ⟨(HI.out q hq).1.1, (HI.out q hq).2.1, by
          obtain ⟨j, hj, rfl⟩ := List.mem_iff_getElem.1 hq
          exact HCP.out j (by have : (Q.map (·.1)).length = s.stack.length := by rw [HQ.out]
                              rw [List.length_map, HSN.out] at this; omega) _ (List.getElem?_eq_getElem hj)⟩, HB.out⟩)
        go_wp2_with fail
        go_ret
        exact HF.out
end Go.Proofs.YthpebfojkpnojaaGreat

