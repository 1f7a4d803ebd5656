/- The document's New, Words, Refs, Get. -/
import Derived.Test.YtblogmelmpkfhaaDcK
import Derived.Test.YtblogmelmpkfhaaKit
namespace Arn
theorem waste_take {M : List It} {i : Nat} {x : It} (h : M[i]? = some x) : waste (M.take (i + 1)) = waste (M.take i) + x.lost := by
  have hi := (List.getElem?_eq_some_iff.1 h).1
  rw [List.take_succ_eq_append_getElem hi, waste_append]
  rw [List.getElem?_eq_getElem hi] at h
  cases h
  simp [waste]
theorem refs_take {M : List It} {i : Nat} {x : It} (h : M[i]? = some x) : refs (M.take (i + 1)) 0 = refs (M.take i) 0 ++ (if x.dead then [] else [((size (M.take i) : Nat) : Int)]) := by
  have hi := (List.getElem?_eq_some_iff.1 h).1
  rw [List.take_succ_eq_append_getElem hi, refs_append]
  rw [List.getElem?_eq_getElem hi] at h
  cases h
  rw [refs_cons, Int.zero_add]
  split <;> rfl
end Arn
namespace Go.Proofs.Ytblogmelmpkfhaa
open Go.RowKit Go.Maps
set_option linter.unusedVariables false

def NewD (n lim : Nat) (e : Ending) (w' : World) : Prop := ∃ db, e = .returned (.pointer (some ⟨db, 0, none⟩)) ∧ Dcx n db lim [] w'
set_option maxRecDepth 100000 in
set_option maxHeartbeats 1000000 in
theorem new9 (limit : Int) (W : World) : Calls Try.prog 9 #[.int .i64 limit] W fun e w' => NewD W.heap.size (Arn.limOf limit) e w' ∧ Below W.heap.size W w' := by
  have hl : Arn.limOf limit ≤ 268435456 := by unfold Arn.limOf; omega
  have HO := hid (show ∀ u, u = (Arn.limOf limit : Int) → NewD W.heap.size (Arn.limOf limit) (.returned (.pointer (some ⟨W.heap.size, 0, none⟩))) (W.alloc (.cells #[.int .i64 u, .slice none 0 0, .int .i64 0] 72)) from fun u hu => by
    subst hu
    exact ⟨_, rfl, .slice none 0 0, [], ⟨Nat.le_refl _, heap_alloc_new _ _, World.ownsRow_nil _ _ _ _, (fun e he => by cases he), (fun e he => by cases he), Nat.zero_le _, hl, (fun e he => by cases he)⟩, rfl⟩)
  have HL := hid (show min (max limit 0) 268435456 = (Arn.limOf limit : Int) by unfold Arn.limOf; omega)
  generalize Arn.limOf limit = lm at *
  clear hl
  go_enter Try.func9, Try.ntmps9
  go_wp2
  go_ret
  exact ⟨HO.out _ HL.out, below_box _ _⟩
theorem Dc.len {n db lim : Nat} {v : Value} {E : List En} {W : World} (h : Dc n db lim v E W) : E.length ≤ 67108864 := by
  have h2 : (items E).length = E.length := by simp [items]
  have := Arn.len_size h.ok
  have := h.fit
  have := h.lim
  omega
set_option maxRecDepth 100000 in
set_option maxHeartbeats 2000000 in
theorem words36 {n db lim : Nat} {M : List Arn.It} {W : World} (hA : Dcx n db lim M W) :
    Calls Try.prog 36 #[.pointer (some ⟨db, 0, none⟩)] W fun e w' => e = .returned (.tuple #[.int .i64 (Arn.size M : Nat), .int .i64 (Arn.waste M : Nat)]) ∧ Below W.heap.size W w' := by
  obtain ⟨v, E, h, rfl⟩ := hA
  have HD := hid h
  obtain ⟨o, c, rfl⟩ := own_slc h.own
  have hEl := h.len
  have hws := Arn.waste_le h.ok
  have hsz : Arn.size (items E) ≤ 268435456 := Nat.le_trans h.fit h.lim
  have hsh : E.length = 0 ∨ ∃ g, o = some ⟨g, 0, none⟩ := by
    rcases Nat.eq_zero_or_pos E.length with h0 | h0
    · exact .inl h0
    · obtain ⟨g, _, e5, _, _⟩ := h.own.form h0
      cases e5
      exact .inr ⟨g, rfl⟩
  have HBK := hid (fun (w' : World) (hw : Below W.heap.size W w') => And.intro (row_cell (h.below hw).blk 1) (row_cell (h.below hw).blk 2))
  have HWT := hid (show ∀ i, Arn.waste ((items E).take i) ≤ 268435456 from fun i => by
    have : Arn.waste (items E) = Arn.waste ((items E).take i) + Arn.waste ((items E).drop i) := by rw [← Arn.waste_append, List.take_append_drop]
    omega)
  obtain ⟨L, hL⟩ : ∃ L, E.length = L := ⟨_, rfl⟩
  have HL := hid hL
  rw [hL] at hEl hsh HBK
  have HIL := hid (show (items E).length = L by simp [items]; exact hL)
  clear h hws
  rcases hsh with h0 | ⟨g, rfl⟩
  · subst h0
    have hE0 : E = [] := List.eq_nil_of_length_eq_zero HL.out
    have HS := hid (show Arn.size (items E) = 0 ∧ Arn.waste (items E) = 0 by rw [hE0]; exact ⟨rfl, rfl⟩)
    rw [HS.out.1, HS.out.2]
    rw [HS.out.1] at HBK
    obtain ⟨c1, c2⟩ := HBK.out W (Below.refl _ _)
    clear hL hE0
    go_enter Try.func36, Try.ntmps36
    go_wp2
    go_loopw [4, 5, 6] (fun wv iv pv wr => wv = .int .i64 0 ∧ iv = .int .i64 0 ∧ wr = W) (fun _ _ _ _ => 0)
    case atStart => exact ⟨rfl, rfl, rfl⟩
    case round =>
      obtain ⟨rfl, rfl, hw⟩ := hrel
      rw [hw]
      clear hw
      go_wp2
      go_ret2
      exact ⟨rfl, Below.refl _ _⟩
  · obtain ⟨c1, c2⟩ := HBK.out W (Below.refl _ _)
    clear hL
    go_enter Try.func36, Try.ntmps36
    go_wp2
    go_loopw [4, 5, 6] (fun wv iv pv wr => ∃ i : Nat, i ≤ L ∧ wv = .int .i64 (Arn.waste ((items E).take i) : Nat) ∧ iv = .int .i64 i ∧ Hid (Below W.heap.size W wr)) (fun _ iv _ _ => L - (intOf iv).toNat)
    case atStart => exact ⟨0, Nat.zero_le _, rfl, rfl, hid (Below.refl _ _)⟩
    case round =>
      obtain ⟨i, hi, rfl, rfl, HB⟩ := hrel
      clear c1 c2
      obtain ⟨c1, c2⟩ := HBK.out wr HB.out
      by_cases hlt : i < L
      · have hlt' : (i : Int) < L := by omega
        obtain ⟨e, he⟩ : ∃ e, E[i]? = some e := ⟨_, List.getElem?_eq_getElem (by rw [HL.out]; exact hlt)⟩
        have hDD := HD.out.below HB.out
        have x0 := hDD.cell he (t := 0) rfl
        have x1 := hDD.cell he (t := 1) rfl
        have x2 := hDD.cell he (t := 2) rfl
        have x3 := hDD.cell he (t := 3) rfl
        have x4 := hDD.cell he (t := 4) rfl
        have x5 := hDD.cell he (t := 5) rfl
        have x6 := hDD.cell he (t := 6) rfl
        have x7 := hDD.cell he (t := 7) rfl
        rw [Nat.add_zero] at x0
        have hok : e.1.ok := hDD.ok e.1 (List.mem_map.2 ⟨e, List.mem_of_getElem? he, rfl⟩)
        have hf := hok.fits
        have hat := Arn.at_take hDD.ok (items_at he)
        have hlt2 := Arn.at_lt hDD.ok hat.1
        have HW := hid (Arn.waste_take (items_at he))
        have hb1 := HWT.out i
        have hb2 := HWT.out (i + 1)
        have HBX := hid (fun o => HB.out.trans ((Below.refl W.heap.size wr).alloc HB.out.size o))
        rw [HW.out] at hb2
        generalize Arn.waste ((items E).take i) = ws at *
        generalize Arn.size ((items E).take i) = ps at *
        have hroom : e.1.room ≤ 268435456 := by omega
        obtain ⟨x, a, cap⟩ := e
        simp only at x0 x1 x2 x3 x4 x5 x6 x7 hf hroom HW hb2
        have HLS := hid (show x.lost = if x.dead then x.room else x.room - 4 - x.lits.length from rfl)
        clear hDD he hok hat hlt2
        cases hdd : x.dead
        · have HL2 := hid (show x.lost = x.room - 4 - x.lits.length by rw [HLS.out, hdd]; rfl)
          rw [hdd] at x7
          rw [HL2.out] at hb2
          clear hdd
          go_wp2
          go_roundw
          case rel => exact ⟨i + 1, by omega, by rw [HW.out, HL2.out]; go_num, by go_num, hid (HBX.out _)⟩
          case measure => simp [intOf]; omega
        · have HL2 := hid (show x.lost = x.room by rw [HLS.out, hdd]; rfl)
          rw [hdd] at x7
          rw [HL2.out] at hb2
          clear hdd
          go_wp2
          go_roundw
          case rel => exact ⟨i + 1, by omega, by rw [HW.out, HL2.out]; go_num, by go_num, hid (HBX.out _)⟩
          case measure => simp [intOf]; omega
      · have hge : ¬ (i : Int) < L := by omega
        obtain rfl : i = L := by omega
        rw [show (items E).take i = items E from List.take_of_length_le (by rw [HIL.out]; exact Nat.le_refl _)]
        go_wp2
        go_ret2
        exact ⟨rfl, HB.out⟩
/-- A row of numbers that grows by a part of another. -/
theorem appL {e t : TypeId} (ht : Try.prog.underlying t = some (.slice e)) (hi : (Try.prog.info? e).map (fun i => (i.zero, i.size, i.bytes)) = some (some (.int .i64 0), 1, 8)) {W : World} {base : Nat} {v : Value} {k : Nat} {xs : List Int} (ho : W.ownsRow base e 1 v k (xs.map (Value.int .i64)))
    (g off m c : Nat) (ys : List Int) (hys : ys.length = m) (hc : ∀ j, j < m → W.cell? ⟨g, off + j, none⟩ = some (.int .i64 (ys.getD j 0))) (hb : base ≤ W.heap.size) (hk : k + m ≤ 100000000) :
    ∃ o' c' W', (Builtin.append_ #[t, t] t #[v, .slice (some ⟨g, off, none⟩) m c]).run Try.prog W = .ok (.slice o' (k + m) c') W' ∧ W'.ownsRow base e 1 (.slice o' (k + m) c') (k + m) ((xs ++ ys).map (Value.int .i64)) ∧ W.grownBy W' v.ownBlock ∧ Fr (pT e) base W W' := by
  obtain ⟨i0, hi0, hz⟩ := Option.map_eq_some_iff.1 hi
  simp only [Prod.mk.injEq] at hz
  obtain ⟨v', W', hr, h2, h3, _, h5⟩ := run_append_own_at (P := Try.prog) W base t t e i0 (.int .i64 0) 1 8 ht hi0 hz.1 hz.2.1 hz.2.2 rfl (by decide) v k _ ho ⟨g, off, none⟩ m c (ys.map (Value.int .i64)) (by simp [hys]) (fun j u hu => by
    have hj : j < m := by
      rcases Nat.lt_or_ge j m with h' | h'
      · exact h'
      · rw [List.getElem?_eq_none (by simp [hys]; omega)] at hu; cases hu
    rw [show (⟨g, off, none⟩ : Addr).add j = ⟨g, off + j, none⟩ from Go.WideShapes.add_plain _ _ _, hc j hj]
    rw [List.getElem?_map, List.getElem?_eq_getElem (by omega)] at hu
    rw [List.getD, List.getElem?_eq_getElem (by omega)]
    exact hu) (by intro u hu; obtain ⟨y, _, rfl⟩ := List.mem_map.1 hu; rfl) (by unfold maxLen; omega) (by omega) hb
  obtain ⟨o', c', rfl⟩ := own_slc h2
  refine ⟨o', c', W', hr, by rw [List.map_append]; exact h2, h3, Fr.grown h3 (fun q hq => ?_)⟩
  obtain ⟨hq1, cur, hq2⟩ := own_blk ho hq
  exact ⟨hq1, fun o ho => by rw [hq2] at ho; cases ho; rfl⟩
/-- A row of numbers, new. -/
def IntsOut (n : Nat) (xs : List Int) (e : Ending) (w' : World) : Prop := ∃ v, e = .returned v ∧ w'.ownsRow n 3 1 v xs.length (xs.map (Value.int .i64))
theorem shape_of {n db lim : Nat} {o : Option Addr} {c : Nat} {E : List En} {W : World} (h : Dc n db lim (.slice o E.length c) E W) : E.length = 0 ∨ ∃ g, o = some ⟨g, 0, none⟩ := by
  rcases Nat.eq_zero_or_pos E.length with h0 | h0
  · exact .inl h0
  · obtain ⟨g, _, e5, _, _⟩ := h.own.form h0
    cases e5
    exact .inr ⟨g, rfl⟩
set_option maxRecDepth 100000 in
set_option maxHeartbeats 2000000 in
theorem refs29 {n db lim : Nat} {M : List Arn.It} {W : World} (hA : Dcx n db lim M W) :
    Calls Try.prog 29 #[.pointer (some ⟨db, 0, none⟩)] W fun e w' => IntsOut W.heap.size (Arn.refs M 0) e w' ∧ Below W.heap.size W w' := by
  obtain ⟨v, E, h, rfl⟩ := hA
  have HD := hid h
  obtain ⟨o, c, rfl⟩ := own_slc h.own
  have hEl := h.len
  have hsh := shape_of h
  have HBK := hid (fun (w' : World) (hw : Below W.heap.size W w') => row_cell (h.below hw).blk 1)
  obtain ⟨L, hL⟩ : ∃ L, E.length = L := ⟨_, rfl⟩
  have HL := hid hL
  rw [hL] at hEl hsh HBK
  have HIL := hid (show (items E).length = L by simp [items]; exact hL)
  clear h
  rcases hsh with h0 | ⟨g, rfl⟩
  · subst h0
    have hE0 : E = [] := List.eq_nil_of_length_eq_zero HL.out
    have HS := hid (show Arn.refs (items E) 0 = [] by rw [hE0]; rfl)
    rw [HS.out]
    have c1 := HBK.out W (Below.refl _ _)
    clear hL hE0
    go_enter Try.func29, Try.ntmps29
    go_wp2
    go_loopw [3, 4] (fun lv iv wr => lv = .slice none 0 0 ∧ iv = .int .i64 0 ∧ wr = W) (fun _ _ _ => 0)
    case atStart => exact ⟨rfl, rfl, rfl⟩
    case round =>
      obtain ⟨rfl, rfl, hw⟩ := hrel
      rw [hw]
      clear hw
      go_wp2
      go_ret
      exact ⟨⟨_, rfl, World.ownsRow_nil _ _ _ _⟩, Below.refl _ _⟩
  · have c1 := HBK.out W (Below.refl _ _)
    clear hL
    go_enter Try.func29, Try.ntmps29
    go_wp2
    go_loopw [3, 4] (fun lv iv wr => ∃ (i k : Nat) (lo : Option Addr) (lc : Nat), i ≤ L ∧ k ≤ i ∧ lv = .slice lo k lc ∧ iv = .int .i64 i ∧ Hid ((Arn.refs ((items E).take i) 0).length = k) ∧ Hid (wr.ownsRow W.heap.size 3 1 (.slice lo k lc) k ((Arn.refs ((items E).take i) 0).map (Value.int .i64))) ∧ Hid (Below W.heap.size W wr)) (fun _ iv _ => L - (intOf iv).toNat)
    case atStart => exact ⟨0, 0, none, 0, Nat.zero_le _, Nat.le_refl _, rfl, rfl, hid rfl, hid (World.ownsRow_nil _ _ _ _), hid (Below.refl _ _)⟩
    case round =>
      obtain ⟨i, k, lo, lc, hi, hki, rfl, rfl, HK, HO, HB⟩ := hrel
      clear c1
      have c1 := HBK.out wr HB.out
      by_cases hlt : i < L
      · have hlt' : (i : Int) < L := by omega
        obtain ⟨e, he⟩ : ∃ e, E[i]? = some e := ⟨_, List.getElem?_eq_getElem (by rw [HL.out]; exact hlt)⟩
        have hDD := HD.out.below HB.out
        have x0 := hDD.cell he (t := 0) rfl
        have x7 := hDD.cell he (t := 7) rfl
        rw [Nat.add_zero] at x0
        have HR := hid (Arn.refs_take (items_at he))
        obtain ⟨x, a, cap⟩ := e
        simp only at x7 HR
        have hwr : W.heap.size ≤ wr.heap.size := HB.out.size
        obtain ⟨o1, c9, B1, r1, ho1, hg1, hF1⟩ := appL Try.underlying59 info3 (HO.out.alloc (.cells #[.int .i64 (Arn.size ((items E).take i) : Nat)] 3)) wr.heap.size 0 1 1 [((Arn.size ((items E).take i) : Nat) : Int)] rfl (by
          intro j hj
          obtain rfl : j = 0 := by omega
          exact row_cell (heap_alloc_new wr _) 0) (by simp; omega) (by omega)
        have HO1 := hid ho1
        have HR1 := hid r1
        have HB1 := hid (HB.out.trans (((Below.refl W.heap.size wr).alloc hwr (.cells #[.int .i64 (Arn.size ((items E).take i) : Nat)] 3)).trans (hF1.below (by simp; omega))))
        generalize Arn.size ((items E).take i) = ps at *
        clear hDD he ho1 r1 hg1 hF1
        cases hdd : x.dead
        · rw [hdd] at x7
          have HR2 := hid (show Arn.refs ((items E).take (i + 1)) 0 = Arn.refs ((items E).take i) 0 ++ [(ps : Int)] by rw [HR.out, hdd]; rfl)
          clear hdd
          go_wp2_with (at_builtin; refine wpList_append_run rfl (.tmp 23) (.tmp 32) 59 59 rfl rfl rfl HR1.out ?_)
          go_roundw
          case rel => exact ⟨i + 1, k + 1, o1, c9, by omega, by omega, rfl, by go_num, hid (by rw [HR2.out, List.length_append, HK.out]; rfl), hid (by rw [HR2.out]; exact HO1.out), HB1⟩
          case measure => simp [intOf]; omega
        · rw [hdd] at x7
          have HR2 := hid (show Arn.refs ((items E).take (i + 1)) 0 = Arn.refs ((items E).take i) 0 by rw [HR.out, hdd]; simp)
          clear hdd
          go_wp2
          go_roundw
          case rel => exact ⟨i + 1, k, lo, lc, by omega, by omega, rfl, by go_num, hid (by rw [HR2.out]; exact HK.out), hid (by rw [HR2.out]; exact HO.out), HB⟩
          case measure => simp [intOf]; omega
      · have hge : ¬ (i : Int) < L := by omega
        obtain rfl : i = L := by omega
        have HT := hid (show (items E).take i = items E from List.take_of_length_le (by rw [HIL.out]; exact Nat.le_refl _))
        have HO2 := HO.out
        have HK2 := HK.out
        rw [HT.out] at HO2 HK2
        have HO3 := hid HO2
        have HK3 := hid HK2
        clear HO2 HK2
        go_wp2
        go_ret
        exact ⟨⟨_, rfl, by rw [HK3.out]; exact HO3.out⟩, HB.out⟩
end Go.Proofs.Ytblogmelmpkfhaa
