/- What a table turns when it is asked: its own block, the block of what is open, and new ones; nothing else. -/
import Derived.Test.YthpebfojkpnojaaGreatJay
import Derived.Test.YthpebfojkpnojaaGreatJav
/- What a table turns when it is asked: its own block, the block of what is open, and new ones; nothing else. -/
namespace Go.Proofs.YthpebfojkpnojaaGreat.Tr
open Go.RowKit Go.Lib Go.Sort Go.Shelf
set_option linter.unusedVariables false
set_option linter.unusedSimpArgs false

def TabO (T g cap : Nat) (ms : List (Nat × Nat)) (bb : Int) (o : Option Addr) (W : World) : Prop := ∃ (no cap2 : Nat) (os : List (Nat × Nat)), W.heap[T]? = some (.cells #[.slice (some ⟨g, 0, none⟩) ms.length cap, .slice o no cap2, .int .i64 bb] 154 (0, 0)) ∧ g < T ∧ HoldsK encM 2 W g 0 ms.toArray ∧ os.length = no ∧ no ≤ ms.length ∧ W.ownsRow (T + 1) 122 2 (.slice o no cap2) no (flatM os) ∧ (0 ≤ bb → os = Tru.openAt ms bb.toNat)
/-- Only block T, the block of o and new ones turn; o' lies where o lay, or anew. -/
structure Turn (T : Nat) (o o' : Option Addr) (w w' : World) : Prop where
  same : ∀ k, k < w.heap.size → k ≠ T → (∀ a, o = some a → k ≠ a.block) → w'.heap[k]? = w.heap[k]?
  lies : ∀ a', o' = some a' → (∃ a, o = some a ∧ a.block = a'.block) ∨ w.heap.size ≤ a'.block
theorem Turn.trans {T : Nat} {o o' o'' : Option Addr} {w w' w'' : World} (h : Turn T o o' w w') (k : Turn T o' o'' w' w'') (hs : w.heap.size ≤ w'.heap.size) : Turn T o o'' w w'' where
  same := fun i hi hT ho => (k.same i (by omega) hT (fun a' ha => by
    rcases h.lies a' ha with ⟨a, e1, e2⟩ | h3
    · rw [← e2]; exact ho a e1
    · omega)).trans (h.same i hi hT ho)
  lies := fun a'' ha => by
    rcases k.lies a'' ha with ⟨a', e1, e2⟩ | h3
    · rcases h.lies a' e1 with ⟨a, f1, f2⟩ | h4
      · exact .inl ⟨a, f1, f2.trans e2⟩
      · right; omega
    · right; omega
theorem Turn.of_below (T : Nat) (o : Option Addr) {w w' : World} (h : Below w.heap.size w w') : Turn T o o w w' := ⟨fun k hk _ _ => h.block k hk, fun a' ha => .inl ⟨a', ha, rfl⟩⟩
theorem Turn.setT {T : Nat} {o o' : Option Addr} {w w' : World} (h : Turn T o o' w w') (u : Value) : Turn T o o' w (w'.setCell ⟨T, 1, none⟩ u) := ⟨fun k hk hT ho => (heap_other w' u hT).trans (h.same k hk hT ho), h.lies⟩
theorem turn_append {T : Nat} {o : Option Addr} {no cap g8 : Nat} {w wa : World} {ob : Obj} (hT : T < w.heap.size) (hg : (w.drew.alloc ob).grownBy wa (Value.slice o no cap).ownBlock) (hat : (Value.slice o no cap).ownBlock = some g8 ∨ g8 = w.heap.size + 1) : Turn T o (some ⟨g8, 0, none⟩) w wa where
  same := fun k hk hT ho => by
    have h1 := hg.block k (by simp; omega) (by
      cases o with
      | none => simp [Value.ownBlock]
      | some a => simp only [Value.ownBlock, ne_eq, Option.some.injEq]; exact ho a rfl)
    rw [h1]
    exact Below.heap_alloc w.drew ob k (by simpa using hk)
  lies := fun a' ha => by
    injection ha with ha
    subst ha
    rcases hat with h | h
    · cases o with
      | none => simp [Value.ownBlock] at h
      | some a => left; exact ⟨a, rfl, by simpa [Value.ownBlock] using h⟩
    · right; simp; omega

set_option maxRecDepth 100000 in
set_option maxHeartbeats 8000000 in
theorem enter42f (T g cap b : Nat) (ms : List (Nat × Nat)) (bb : Int) (o : Option Addr) (w : World) (hb : b < 256) (hN : ms.length ≤ 1048576) (hsm : ∀ p ∈ ms, Tru.small p) (h : TabO T g cap ms bb o w) :
    Calls Tryz.prog 108 #[.pointer (some ⟨T, 0, none⟩), .int .i64 b] w fun e w' => e = .returned (.tuple #[]) ∧ ∃ o', TabO T g cap ms b o' w' ∧ Below T w w' ∧ Turn T o o' w w' := by
  obtain ⟨no, cap2, os, hT, hg, hH, hos, hno, hown, hop⟩ := h
  clear hop
  obtain ⟨i0, hi, hz⟩ := Option.map_eq_some_iff.1 info56
  simp only [Prod.mk.injEq] at hz
  obtain ⟨hz0, hz1, hz2⟩ := hz
  have mixed : Tryz.prog.follows .mixedOrders = true := by kernel_rfl
  have h0 := row_cell hT 0
  have h1 := row_cell hT 1
  have h2 := row_cell hT 2
  simp only [List.getElem?_toArray, List.getElem?_cons_zero, List.getElem?_cons_succ] at h0 h1 h2
  have f0 := row_frozen hT 0
  have f1 := row_frozen hT 1
  have f2 := row_frozen hT 2
  obtain ⟨W1, hW1⟩ : ∃ W1, ((w.setCell ⟨T, 2, none⟩ (.int .i64 b)).setCell ⟨T, 1, none⟩ (.slice o 0 cap2)).drew = W1 := ⟨_, rfl⟩
  have hT1 : W1.heap[T]? = some (.cells #[.slice (some ⟨g, 0, none⟩) ms.length cap, .slice o 0 cap2, .int .i64 b] 154 (0, 0)) := by
    rw [← hW1]; exact heap_set_row (heap_set_row hT (.int .i64 b)) (.slice o 0 cap2)
  have hO1 : W1.ownsRow (T + 1) 122 2 (.slice o 0 cap2) 0 (flatM (Tru.openAt (ms.take 0) b)) := by
    rw [← hW1]; exact own_cut (own_other (own_other hown (by omega) _) (by omega) _)
  have hB1 : Below T w W1 := by
    rw [← hW1]; exact (((Below.refl T w).setCell (p := ⟨T, 2, none⟩) (Nat.le_refl _) _).setCell (p := ⟨T, 1, none⟩) (Nat.le_refl _) _).drew
  have hTu : Turn T o o w W1 := by
    rw [← hW1]
    exact ⟨fun k _ h1 _ => (heap_other _ _ h1).trans (heap_other _ _ h1), fun a' ha => .inl ⟨a', ha, rfl⟩⟩
  have HTU := hid hTu
  have hTs := (Array.getElem?_eq_some_iff.1 hT).1
  have HT1 := hid hT1
  have HO1 := hid hO1
  have HB1 := hid hB1
  have x0 := row_cell hT1 0
  simp only [List.getElem?_toArray, List.getElem?_cons_zero, List.getElem?_cons_succ] at x0
  have HH := hid hH
  have HSM := hid hsm
  have HI := hid hi
  have HZ0 := hid hz0
  have HZ1 := hid hz1
  have HZ2 := hid hz2
  obtain ⟨n, hn⟩ : ∃ n, ms.length = n := ⟨_, rfl⟩
  rw [hn] at h0 x0 hN hno
  have HNN := hid hn
  clear hT hH hos hown hT1 hO1 hB1 hTu hsm hi hz0 hz1 hz2 hn
  go_enter Tryz.func108, Tryz.ntmps108
  go_wp2_with fail
  go_region_o
  clear h0 h1 h2 f0 f1 f2 hW1
  go_wp2
  clear x0
  go_loopw [23] (fun i wr => ∃ (j : Nat) (o' : Option Addr) (no' cap' : Nat), j ≤ n ∧ no' ≤ j ∧ i = .int .i64 j ∧ Hid ((Tru.openAt (ms.take j) b).length = no') ∧ Hid (wr.heap[T]? = some (.cells #[.slice (some ⟨g, 0, none⟩) n cap, .slice o' no' cap', .int .i64 b] 154 (0, 0))) ∧ Hid (wr.ownsRow (T + 1) 122 2 (.slice o' no' cap') no' (flatM (Tru.openAt (ms.take j) b))) ∧ Hid (Below T w wr) ∧ Hid (Turn T o o' w wr)) (fun i _ => n - (intOf i).toNat)
  case atStart => exact ⟨0, o, 0, cap2, Nat.zero_le _, Nat.le_refl _, rfl, hid rfl, hid (by rw [← HNN.out]; exact HT1.out), HO1, HB1, HTU⟩
  case round =>
    clear HT1 HO1 HB1 HTU
    obtain ⟨j, o', no', cap', hj, hnj, rfl, HLen, HT, HO, HB, HTU⟩ := hrel
    by_cases hlt : j < n
    · have hlt' : (j : Int) < n := by omega
      have hHj := HoldsK.under HH.out HB.out hg
      obtain ⟨a0, a1, _, _⟩ := rowM hHj j (by simp; rw [HNN.out]; exact hlt)
      have hsp : Tru.small ms.toArray[j]! := by
        have hl : j < ms.length := by rw [HNN.out]; exact hlt
        rw [getElem!_pos ms.toArray j (by simpa using hl)]
        exact HSM.out _ (by simp)
      have HTk := hid (Tru.open_take ms b j (by rw [HNN.out]; exact hlt))
      generalize ms.toArray[j]! = p at a0 a1 hsp HTk
      obtain ⟨p, q⟩ := p
      simp only [Nat.zero_add] at a0 a1
      clear hHj
      have C48 := hid (fun (W : World) => high48 p q W hsp.1 hsp.2)
      have hhs := Tru.high_small (p, q) hsp
      have C29 := hid (fun (W : World) => mholds29 (Tru.high (p, q)).1 (Tru.high (p, q)).2 (b * 256) W hhs.1 hhs.2 (by omega))
      generalize hal : Tru.mh ((Tru.high (p, q)).1, (Tru.high (p, q)).2) (b * 256) = r at C29
      have HTk2 := hid (show Tru.openAt (ms.take (j + 1)) b = Tru.openAt (ms.take j) b ++ (if r then [] else [(p, q)]) by rw [HTk.out, ← hal])
      clear HTk hal hhs
      generalize (Tru.high (p, q)).1 = P at C48 C29
      generalize (Tru.high (p, q)).2 = Q at C48 C29
      have hbs : (((b * 256 : Nat)) : Int) = (b : Int) * 256 := by omega
      rw [hbs] at C29
      have hTr := (Array.getElem?_eq_some_iff.1 HT.out).1
      cases r
      · have HT2 := hid (show Tru.openAt (ms.take (j + 1)) b = Tru.openAt (ms.take j) b ++ [(p, q)] from HTk2.out)
        clear HTk2
        go_wp2_with (first
          | (go_at_call 118; refine (C48.out _).mono ?_; clear C48; rintro e w8 ⟨rfl, hw8⟩; have HW8 := hid hw8; clear hw8)
          | (go_at_call 76; refine (C29.out _).mono ?_; clear C29; rintro e w9 ⟨rfl, hw9⟩; have HW9 := hid hw9; clear hw9))
        have hwz := HW8.out.trans (HW9.out.mono HW8.out.size)
        have y0 := (hwz.cell (p := ⟨wr.heap.size, 0, none⟩) (by simp)).trans (box_c0 wr _ _)
        have y1 := (hwz.cell (p := ⟨wr.heap.size, 1, none⟩) (by simp)).trans (box_c1 wr _ _)
        have h9 := box_below wr _ hwz
        have hT9 := (h9.block T hTr).trans HT.out
        have t1 := row_cell hT9 1
        simp only [List.getElem?_toArray, List.getElem?_cons_zero, List.getElem?_cons_succ] at t1
        have tf := row_frozen hT9 1
        have t2 := ((below_box w9 (.cells #[.int .u32 p, .int .u32 q] 122)).cell (p := ⟨T, 1, none⟩) (Array.getElem?_eq_some_iff.1 hT9).1).trans t1
        have HO9 := hid (own_below HO.out h9)
        have h9s := h9.size
        have H9 := hid h9
        have HT9 := hid hT9
        have D5 := hid (show ∀ (wa : World), (w9.drew.alloc (.cells #[.int .u32 p, .int .u32 q] 122)).grownBy wa (Value.slice o' no' cap').ownBlock → Below (T + 1) w9 wa from fun wa hg => ((Below.refl _ w9).alloc (by omega) _).grown (w := w9.alloc (.cells #[.int .u32 p, .int .u32 q] 122)) ⟨hg.os, hg.tape, hg.output, hg.size, hg.block⟩ (by simp; omega) (fun k hk => (HO9.out.lt k hk).1))
        clear hwz h9 hT9 HW8 HW9 HO HT
        go_region_law (
          (refine step_append_lies _ (by rfl) _ _ 147 (by rfl) (T + 1) 122 i0 (.agg #[.int .u32 0, .int .u32 0]) 2 8 Tryz.underlying147 HI.out HZ0.out HZ1.out HZ2.out (by rfl) (by decide) (.slice o' no' cap') no' (flatM (Tru.openAt (ms.take j) b)) (by rfl) (World.ownsRow.alloc (w := w9.drew) ⟨HO9.out.1, HO9.out.2⟩ _) ⟨w9.heap.size, 0, none⟩ 1 1 [.int .u32 p, .int .u32 q] (by rfl) (by rfl) (World.news_of_block (World.alloc_heap_new w9.drew (.cells #[.int .u32 p, .int .u32 q] 122))) (by intro u hu; simp at hu; rcases hu with rfl | rfl <;> rfl) (by decide) (by simp [maxLen]; omega) (by omega) (by simp; omega) (w9.heap.size + 1) (by simp) ?_
           intro g8 cap8 wa hown8 hgrow8 hat8 hlt8
           have B8 := D5.out wa hgrow8
           have z1 := (B8.cell (p := ⟨T, 1, none⟩) (by simp)).trans t1
           have zf := (frozen_block (k := 1) (B8.block T (by omega))).trans tf
           have HB8 := hid B8
           have HR8 := hid hown8
           have HTA := hid (show Turn T o' (some ⟨g8, 0, none⟩) w9 wa from turn_append (Array.getElem?_eq_some_iff.1 HT9.out).1 hgrow8 hat8)
           clear B8 hown8 hgrow8 hat8 hlt8))
        all_goals
          have HT8 := hid (heap_set_row ((HB8.out.block T (by omega)).trans HT9.out) (k := 1) (.slice (some ⟨g8, 0, none⟩) (no' + 1) cap8))
          have HO8 := hid (own_other (b := T) (k := 1) (show wa.ownsRow (T + 1) 122 2 (.slice (some ⟨g8, 0, none⟩) (no' + 1) cap8) (no' + 1) (flatM (Tru.openAt (ms.take (j + 1)) b)) by rw [HT2.out, flatM_on]; exact HR8.out) (by omega) (.slice (some ⟨g8, 0, none⟩) (no' + 1) cap8))
          have HBB := hid (((HB.out.trans (H9.out.mono (by omega))).trans (HB8.out.mono (by omega))).setCell (p := ⟨T, 1, none⟩) (Nat.le_refl _) (.slice (some ⟨g8, 0, none⟩) (no' + 1) cap8))
          have HU8 := hid (((HTU.out.trans (Turn.of_below T o' H9.out) HB.out.size).trans HTA.out (Nat.le_trans HB.out.size H9.out.size)).setT (.slice (some ⟨g8, 0, none⟩) (no' + 1) cap8))
          have HL8 := hid (show (Tru.openAt (ms.take (j + 1)) b).length = no' + 1 by rw [HT2.out, List.length_append, HLen.out]; rfl)
          clear z1 zf t1 t2 tf HR8 HB8 H9 HB HO9 HT9 y0 y1 D5 HTA HTU
          go_wp2
          go_roundw
          case rel => exact ⟨j + 1, _, no' + 1, cap8, by omega, by omega, by go_num, HL8, HT8, HO8, HBB, HU8⟩
          case measure => simp [intOf]; omega
      · have HT2 := hid (show Tru.openAt (ms.take (j + 1)) b = Tru.openAt (ms.take j) b by rw [HTk2.out]; simp)
        clear HTk2
        go_wp2_with (first
          | (go_at_call 118; refine (C48.out _).mono ?_; clear C48; rintro e w8 ⟨rfl, hw8⟩; have HW8 := hid hw8; clear hw8)
          | (go_at_call 76; refine (C29.out _).mono ?_; clear C29; rintro e w9 ⟨rfl, hw9⟩; have HW9 := hid hw9; clear hw9))
        have H9 := hid (box_below wr _ (HW8.out.trans (HW9.out.mono HW8.out.size)))
        go_roundw
        case rel => exact ⟨j + 1, o', no', cap', by omega, by omega, by go_num, hid (by rw [HT2.out]; exact HLen.out), hid ((H9.out.block T hTr).trans HT.out), hid (by rw [HT2.out]; exact own_below HO.out H9.out), hid (HB.out.trans (H9.out.mono (by omega))), hid (HTU.out.trans (Turn.of_below T o' H9.out) HB.out.size)⟩
        case measure => simp [intOf]; omega
    · have hge : ¬ (j : Int) < n := by omega
      obtain rfl : j = n := by omega
      have HE := hid (show ms.take j = ms from List.take_of_length_le (by rw [HNN.out]; exact Nat.le_refl _))
      go_wp2
      go_end0
      refine ⟨rfl, o', ⟨no', cap', Tru.openAt (ms.take j) b, by rw [HNN.out]; exact HT.out, hg, HoldsK.under HH.out HB.out hg, HLen.out, by rw [HNN.out]; exact hnj, HO.out, fun _ => by rw [HE.out]; rfl⟩, HB.out, HTU.out⟩

def HoldsOutF (T g cap k : Nat) (ms : List (Nat × Nat)) (o : Option Addr) (w : World) (e : Ending) (w' : World) : Prop := e = .returned (.bool (Tru.allH ms k)) ∧ ∃ o', TabO T g cap ms ((k / 256 : Nat) : Int) o' w' ∧ Below T w w' ∧ Turn T o o' w w'
theorem TabO.on {T g cap : Nat} {ms : List (Nat × Nat)} {bb : Int} {o : Option Addr} {W W' : World} (h : TabO T g cap ms bb o W) (hb : Below W.heap.size W W') : TabO T g cap ms bb o W' := by
  obtain ⟨no, cap2, os, hT, hg, hH, hos, hno, hown, hop⟩ := h
  have hTs := (Array.getElem?_eq_some_iff.1 hT).1
  exact ⟨no, cap2, os, (hb.block T hTs).trans hT, hg, HoldsK.under hH (hb.mono (Nat.le_of_lt hTs)) hg, hos, hno, own_below hown hb, hop⟩

set_option maxRecDepth 100000 in
set_option maxHeartbeats 8000000 in
theorem holds22f (T g cap k : Nat) (ms : List (Nat × Nat)) (bb : Int) (o : Option Addr) (w : World) (hk : k < 65536) (hN : ms.length ≤ 1048576) (hsm : ∀ p ∈ ms, Tru.small p) (h : TabO T g cap ms bb o w) :
    Calls Tryz.prog 75 #[.pointer (some ⟨T, 0, none⟩), .int .i64 k] w fun e w' => HoldsOutF T g cap k ms o w e w' := by
  have H := hid h
  have HSM := hid hsm
  obtain ⟨no, cap2, os, hT, g1, g2, g3, g4, g5, hop⟩ := h
  have h2 := row_cell hT 2
  simp only [List.getElem?_toArray, List.getElem?_cons_zero, List.getElem?_cons_succ] at h2
  have HK := hid hk
  obtain ⟨B, hB⟩ : ∃ B, k / 256 = B := ⟨_, rfl⟩
  have hdiv : ((k : Int) / 256) = (B : Int) := by omega
  have C42 := hid (enter42f T g cap B ms bb o w (by omega) hN hsm H.out)
  have HB := hid hB
  clear hT hsm hop g1 g2 g3 g4 g5 hB
  have HKK := hid (rfl : (k : Int) = k)
  obtain ⟨K, hK⟩ : ∃ K : Int, K = k := ⟨_, rfl⟩
  rw [← hK] at hdiv ⊢
  clear HKK
  have HKK := hid hK
  clear hK
  by_cases hbb : bb = (B : Int)
  · subst hbb
    clear C42
    have HTT := H
    obtain ⟨no, cap2, os, hT, g1, g2, g3, g4, g5, hop⟩ := H.out
    have hoo := hop (by omega)
    rw [Int.toNat_natCast] at hoo
    have HAL := hid (show Tru.allH os k = Tru.allH ms k by rw [hoo, ← HB.out]; exact Tru.allH_open ms k HSM.out)
    have HSO := hid (show ∀ p ∈ os, Tru.small p from fun p hp => HSM.out p (by rw [hoo] at hp; exact (List.mem_filter.1 hp).1))
    have t1 := row_cell hT 1
    simp only [List.getElem?_toArray, List.getElem?_cons_zero, List.getElem?_cons_succ] at t1
    have hTs := (Array.getElem?_eq_some_iff.1 hT).1
    have HTs := hid hTs
    have hno2 : no ≤ 1048576 := Nat.le_trans g4 hN
    have HOS := hid g3
    have HOW := hid g5
    clear hT hop hoo g1 g2 g3 g4 g5 hTs
    go_enter Tryz.func75, Tryz.ntmps75
    go_wp2
    clear t1 h2 hdiv
    go_loopw [23] (fun i wr => ∃ j : Nat, j ≤ no ∧ i = .int .i64 j ∧ Hid (Tru.allH (os.take j) k = true) ∧ Hid (Below w.heap.size w wr)) (fun i _ => no - (intOf i).toNat)
    case atStart => exact ⟨0, Nat.zero_le _, rfl, hid rfl, hid (Below.refl _ _)⟩
    case round =>
      obtain ⟨j, hj, rfl, HA, HB2⟩ := hrel
      by_cases hlt : j < no
      · have hlt' : (j : Int) < no := by omega
        obtain ⟨b1, ho1, hb1, a0, a1⟩ := own_masks2 HOS.out HOW.out hlt
        subst ho1
        have c0 := (HB2.out.cell (p := ⟨b1, j * 2, none⟩) hb1).trans a0
        have c1 := (HB2.out.cell (p := ⟨b1, j * 2 + 1, none⟩) hb1).trans a1
        clear a0 a1
        have hl : j < os.length := by rw [HOS.out]; exact hlt
        have hsp : Tru.small os.toArray[j]! := by
          rw [getElem!_pos os.toArray j (by simpa using hl)]
          exact HSO.out _ (by simp)
        have HTk := hid (Tru.allH_take os k j hl)
        have HF := hid (Tru.allH_false os k j hl)
        generalize os.toArray[j]! = p at c0 c1 hsp HTk HF
        obtain ⟨p, q⟩ := p
        simp only at c0 c1
        have C29 := hid (fun (W : World) => mholds29 p q k W hsp.1 hsp.2 HK.out)
        rw [← HKK.out] at C29
        generalize hal : Tru.mh (p, q) k = r at C29 HTk HF
        clear hal hl
        cases r
        · go_wp2_with (go_at_call 76; refine (C29.out _).mono ?_; clear C29; rintro e w9 ⟨rfl, hw9⟩; have HW9 := hid hw9; clear hw9)
          go_ret
          have h9 := HB2.out.trans ((box_below wr _ HW9.out).mono HB2.out.size)
          exact ⟨by rw [← HAL.out, HF.out (by first | trivial | rfl)]; rfl, by rw [HB.out]; exact ⟨_, HTT.out.on h9, h9.mono (Nat.le_of_lt HTs.out), Turn.of_below T _ h9⟩⟩
        · go_wp2_with (go_at_call 76; refine (C29.out _).mono ?_; clear C29; rintro e w9 ⟨rfl, hw9⟩; have HW9 := hid hw9; clear hw9)
          have H9 := hid (HB2.out.trans ((box_below wr _ HW9.out).mono HB2.out.size))
          go_roundw
          case rel => exact ⟨j + 1, by omega, by go_num, hid (by rw [HTk.out, HA.out]; rfl), H9⟩
          case measure => simp [intOf]; omega
      · have hge : ¬ (j : Int) < no := by omega
        obtain rfl : j = no := by omega
        go_wp2
        go_ret
        have h9 := HB2.out
        exact ⟨by rw [← HAL.out, ← List.take_of_length_le (l := os) (i := j) (by rw [HOS.out]; exact Nat.le_refl _), HA.out]; rfl, by rw [HB.out]; exact ⟨_, HTT.out.on h9, h9.mono (Nat.le_of_lt HTs.out), Turn.of_below T _ h9⟩⟩
  · have hne : (bb == (B : Int)) = false := by simpa using hbb
    go_enter Tryz.func75, Tryz.ntmps75
    go_wp2_with (go_at_call 108; refine C42.out.mono ?_; clear C42; rintro e w8 ⟨rfl, o8, ht8, hw8, hu8⟩; have HU8 := hid hu8; clear hu8; have HW8 := hid hw8; have HTT := hid ht8
                 obtain ⟨no, cap2, os, hT, g1, g2, g3, g4, g5, hop⟩ := ht8
                 clear hw8
                 have hoo := hop (by omega)
                 rw [Int.toNat_natCast] at hoo
                 have HAL := hid (show Tru.allH os k = Tru.allH ms k by rw [hoo, ← HB.out]; exact Tru.allH_open ms k HSM.out)
                 have HSO := hid (show ∀ p ∈ os, Tru.small p from fun p hp => HSM.out p (by rw [hoo] at hp; exact (List.mem_filter.1 hp).1))
                 have t1 := row_cell hT 1
                 simp only [List.getElem?_toArray, List.getElem?_cons_zero, List.getElem?_cons_succ] at t1
                 have hTs := (Array.getElem?_eq_some_iff.1 hT).1
                 have HTs := hid hTs
                 have hno2 : no ≤ 1048576 := Nat.le_trans g4 hN
                 have HOS := hid g3
                 have HOW := hid g5
                 clear hT hop hoo g1 g2 g3 g4 g5 hTs)
    clear t1 h2 hdiv
    go_loopw [23] (fun i wr => ∃ j : Nat, j ≤ no ∧ i = .int .i64 j ∧ Hid (Tru.allH (os.take j) k = true) ∧ Hid (Below w8.heap.size w8 wr)) (fun i _ => no - (intOf i).toNat)
    case atStart => exact ⟨0, Nat.zero_le _, rfl, hid rfl, hid (Below.refl _ _)⟩
    case round =>
      obtain ⟨j, hj, rfl, HA, HB2⟩ := hrel
      by_cases hlt : j < no
      · have hlt' : (j : Int) < no := by omega
        obtain ⟨b1, ho1, hb1, a0, a1⟩ := own_masks2 HOS.out HOW.out hlt
        subst ho1
        have c0 := (HB2.out.cell (p := ⟨b1, j * 2, none⟩) hb1).trans a0
        have c1 := (HB2.out.cell (p := ⟨b1, j * 2 + 1, none⟩) hb1).trans a1
        clear a0 a1
        have hl : j < os.length := by rw [HOS.out]; exact hlt
        have hsp : Tru.small os.toArray[j]! := by
          rw [getElem!_pos os.toArray j (by simpa using hl)]
          exact HSO.out _ (by simp)
        have HTk := hid (Tru.allH_take os k j hl)
        have HF := hid (Tru.allH_false os k j hl)
        generalize os.toArray[j]! = p at c0 c1 hsp HTk HF
        obtain ⟨p, q⟩ := p
        simp only at c0 c1
        have C29 := hid (fun (W : World) => mholds29 p q k W hsp.1 hsp.2 HK.out)
        rw [← HKK.out] at C29
        generalize hal : Tru.mh (p, q) k = r at C29 HTk HF
        clear hal hl
        cases r
        · go_wp2_with (go_at_call 76; refine (C29.out _).mono ?_; clear C29; rintro e w9 ⟨rfl, hw9⟩; have HW9 := hid hw9; clear hw9)
          go_ret
          have h9 := HB2.out.trans ((box_below wr _ HW9.out).mono HB2.out.size)
          exact ⟨by rw [← HAL.out, HF.out (by first | trivial | rfl)]; rfl, by rw [HB.out]; exact ⟨_, HTT.out.on h9, HW8.out.trans (h9.mono (Nat.le_of_lt HTs.out)), HU8.out.trans (Turn.of_below T _ h9) HW8.out.size⟩⟩
        · go_wp2_with (go_at_call 76; refine (C29.out _).mono ?_; clear C29; rintro e w9 ⟨rfl, hw9⟩; have HW9 := hid hw9; clear hw9)
          have H9 := hid (HB2.out.trans ((box_below wr _ HW9.out).mono HB2.out.size))
          go_roundw
          case rel => exact ⟨j + 1, by omega, by go_num, hid (by rw [HTk.out, HA.out]; rfl), H9⟩
          case measure => simp [intOf]; omega
      · have hge : ¬ (j : Int) < no := by omega
        obtain rfl : j = no := by omega
        go_wp2
        go_ret
        have h9 := HB2.out
        exact ⟨by rw [← HAL.out, ← List.take_of_length_le (l := os) (i := j) (by rw [HOS.out]; exact Nat.le_refl _), HA.out]; rfl, by rw [HB.out]; exact ⟨_, HTT.out.on h9, HW8.out.trans (h9.mono (Nat.le_of_lt HTs.out)), HU8.out.trans (Turn.of_below T _ h9) HW8.out.size⟩⟩
end Go.Proofs.YthpebfojkpnojaaGreat.Tr

/- Whether two formulas say the same, by the document's own function. -/
namespace Tru
/-- Whether each of the first j models makes both true or both not. -/
def alikeTo (cs ds : List (List Int)) (u : Nat) : Nat → Bool
  | 0 => true
  | j + 1 => alikeTo cs ds u j && (sat cs u j == sat ds u j)
theorem alikeTo_false (cs ds : List (List Int)) (u j : Nat) (h : (sat cs u j == sat ds u j) = false) : ∀ N, j < N → alikeTo cs ds u N = false := by
  intro N
  induction N with
  | zero => intro h; omega
  | succ N ih =>
    intro hN
    rw [alikeTo]
    by_cases hj : j = N
    · subst hj; rw [h, Bool.and_false]
    · rw [ih (by omega)]; rfl
end Tru
namespace Go.Proofs.YthpebfojkpnojaaGreat.Tr
open Go.RowKit
set_option linter.unusedVariables false

/-- Two formulas boxed, and what came since. -/
def Far2 (w : World) (v0 v1 u0 u1 : Value) (W : World) : Prop := Far (w.alloc (.cells #[v0, v1] 24)) u0 u1 W
theorem Far2.one {w : World} {v0 v1 u0 u1 : Value} {W : World} (h : Far2 w v0 v1 u0 u1 W) : Far w v0 v1 W := Far.below h
theorem Far2.below {w : World} {v0 v1 u0 u1 : Value} {W : World} (h : Far2 w v0 v1 u0 u1 W) : Below w.heap.size w W := h.one.below
theorem Far2.on {w : World} {v0 v1 u0 u1 : Value} {W W' : World} (h : Far2 w v0 v1 u0 u1 W) (hb : Below W.heap.size W W') : Far2 w v0 v1 u0 u1 W' := Far.on h hb
theorem Far2.c0 {w : World} {v0 v1 u0 u1 : Value} {W : World} (h : Far2 w v0 v1 u0 u1 W) : W.cell? ⟨w.heap.size, 0, none⟩ = some v0 := h.one.c0
theorem Far2.c1 {w : World} {v0 v1 u0 u1 : Value} {W : World} (h : Far2 w v0 v1 u0 u1 W) : W.cell? ⟨w.heap.size, 1, none⟩ = some v1 := h.one.c1
theorem Far2.d0 {w : World} {v0 v1 u0 u1 : Value} {W : World} (h : Far2 w v0 v1 u0 u1 W) : W.cell? ⟨w.heap.size + 1, 0, none⟩ = some u0 := by
  have := Far.c0 h; simpa using this
theorem Far2.d1 {w : World} {v0 v1 u0 u1 : Value} {W : World} (h : Far2 w v0 v1 u0 u1 W) : W.cell? ⟨w.heap.size + 1, 1, none⟩ = some u1 := by
  have := Far.c1 h; simpa using this
theorem Far2.zero (w : World) (v0 v1 u0 u1 : Value) : Far2 w v0 v1 u0 u1 ((w.alloc (.cells #[v0, v1] 24)).alloc (.cells #[u0, u1] 24)) := Below.refl _ _

end Go.Proofs.YthpebfojkpnojaaGreat.Tr

