/- How great a formula is; whether all literals have values; a place brought within bounds; models in memory of their own. -/
import Derived.Test.YtjakfgpgcnbclaaGdP
namespace Ext
def okCs (n : Nat) (cs : List (List Int)) : Bool := cs.all (okC n)
theorem okCs_take (n : Nat) (cs : List (List Int)) (k : Nat) (h : k < cs.length) : okCs n (cs.take (k + 1)) = (okCs n (cs.take k) && okC n (cs.getD k [])) := by
  rw [Cnf.take_cls cs k h]; simp [okCs]
theorem okCs_false (n : Nat) (cs : List (List Int)) (k : Nat) (h : k < cs.length) (hf : okC n (cs.getD k []) = false) : okCs n cs = false := by
  cases hs : okCs n cs
  · rfl
  · have := List.all_eq_true.1 hs _ (Cnf.getD_cls cs k h)
    rw [hf] at this; cases this
end Ext
namespace Go.Proofs.Ytjakfgpgcnbclaa
open Go.RowKit
set_option linter.unusedVariables false
set_option linter.unusedSimpArgs false

/-- What Size tells. -/
def SizeOut (top : Nat) (cs : List (List Int)) (e : Ending) : Prop := ∃ z : Nat, e = .returned (.int .i64 z) ∧ z ≤ top + 1 ∧ (z ≤ top → cs.length + cs.flatten.length ≤ top)

set_option maxHeartbeats 2000000 in
theorem size24 (vars : Int) (a : Option Addr) (n cap top : Nat) (cs : List (List Int)) (w : World) (hn : cs.length = n) (hN : n ≤ 8796093022208) (ht : top ≤ 1000000) (hc : Cls w a cs) :
    Calls Try.prog 24 #[.agg #[.int .i64 vars, .slice a n cap], .int .i64 top] w fun e w' => SizeOut top cs e ∧ Below w.heap.size w w' := by
  have HC := hid (hc.below (below_box w (.cells #[.int .i64 vars, .slice a n cap] 34)))
  have HN := hid hn
  clear hc hn
  go_enter Try.func24, Try.ntmps24
  go_wp2
  obtain ⟨W1, hW1⟩ : ∃ W1, w.alloc (.cells #[.int .i64 vars, .slice a n cap] 34) = W1 := ⟨_, rfl⟩
  have hB1 : Below w.heap.size w W1 := by rw [← hW1]; exact below_box _ _
  have x1 : W1.cell? ⟨w.heap.size, 1, none⟩ = some (.slice a n cap) := by rw [← hW1]; exact row_cell (World.alloc_heap_new w _) 1
  rw [hW1] at HC ⊢
  have HB1 := hid hB1
  clear hW1 hB1
  go_loopw [5, 6] (fun q i wr => ∃ (k m : Nat), q = .int .i64 m ∧ k ≤ n ∧ i = .int .i64 k ∧ m ≤ 8796093022208 + 1000000 + 35184372088832 ∧ Hid (m ≤ top → m = n + ((cs.take k).flatten).length) ∧ Hid (Drawn W1 wr)) (fun _ i _ => n - (intOf i).toNat)
  case atStart => exact ⟨0, n, rfl, Nat.zero_le _, rfl, by omega, hid (fun _ => by simp), hid (Drawn.refl _)⟩
  case round =>
    obtain ⟨k, m, rfl, hk, rfl, hm, HQ, HD⟩ := hrel
    have x1' : wr.cell? ⟨w.heap.size, 1, none⟩ = some (.slice a n cap) := (HD.out.cell _).trans x1
    by_cases hlt : k < n
    · have hlt' : (k : Int) < n := by omega
      by_cases hs : m ≤ top
      · have hs' : (m : Int) ≤ top := by omega
        obtain ⟨b, off, a', cap', rfl, hbl, hcell, _, hln⟩ := (HC.out.below HD.out.below').at (k := k) (by rw [HN.out]; exact hlt)
        have HF := hid (Cnf.flat_len cs k (by rw [HN.out]; exact hlt))
        have HQ2 := hid (HQ.out hs)
        generalize (cs.getD k []).length = l at hcell hln HF
        clear x1 HQ
        go_wp2
        go_roundw
        case rel => exact ⟨k + 1, m + l, by go_num, by omega, by go_num, by omega, hid (fun _ => by have := HQ2.out; have := HF.out; omega), HD⟩
        case measure => simp [intOf]; omega
      · have hs' : ¬ (m : Int) ≤ top := by omega
        clear x1
        by_cases h2 : (top : Int) + 1 < m
        · go_wp2
          go_ret
          exact ⟨⟨top + 1, rfl, Nat.le_refl _, fun h => by omega⟩, HB1.out.trans (HD.out.below'.mono HB1.out.size)⟩
        · go_wp2
          go_ret
          exact ⟨⟨m, rfl, by omega, fun h => by omega⟩, HB1.out.trans (HD.out.below'.mono HB1.out.size)⟩
    · have hlt' : ¬ (k : Int) < n := by omega
      have HQ2 := hid (show m ≤ top → cs.length + cs.flatten.length ≤ top from fun h => by
        have := HQ.out h
        rw [List.take_of_length_le (by rw [HN.out]; omega)] at this
        rw [HN.out]; omega)
      clear x1 HQ
      by_cases h2 : (top : Int) + 1 < m
      · go_wp2
        go_ret
        exact ⟨⟨top + 1, rfl, Nat.le_refl _, fun h => by omega⟩, HB1.out.trans (HD.out.below'.mono HB1.out.size)⟩
      · go_wp2
        go_ret
        exact ⟨⟨m, rfl, by omega, HQ2.out⟩, HB1.out.trans (HD.out.below'.mono HB1.out.size)⟩

/-- What Small tells. -/
def SmallOut (vars : Int) (cs : List (List Int)) (e : Ending) : Prop := ∃ b : Bool, e = .returned (.bool b) ∧ (b = true → vars ≤ 6 ∧ cs.length ≤ 12 ∧ cs.length + cs.flatten.length ≤ 72)
set_option maxHeartbeats 2000000 in
theorem small11 (vars : Int) (a : Option Addr) (n cap : Nat) (cs : List (List Int)) (w : World) (hn : cs.length = n) (hN : n ≤ 8796093022208) (hc : Cls w a cs) :
    Calls Try.prog 11 #[.agg #[.int .i64 vars, .slice a n cap], .int .i64 6, .int .i64 12, .int .i64 60] w fun e w' => SmallOut vars cs e ∧ Below w.heap.size w w' := by
  obtain ⟨W1, hW1⟩ : ∃ W1, w.alloc (.cells #[.int .i64 vars, .slice a n cap] 34) = W1 := ⟨_, rfl⟩
  have hB1 : Below w.heap.size w W1 := by rw [← hW1]; exact below_box _ _
  have x0 : W1.cell? ⟨w.heap.size, 0, none⟩ = some (.int .i64 vars) := by rw [← hW1]; exact row_cell (World.alloc_heap_new w _) 0
  have x1 : W1.cell? ⟨w.heap.size, 1, none⟩ = some (.slice a n cap) := by rw [← hW1]; exact row_cell (World.alloc_heap_new w _) 1
  have C := hid (size24 vars a n cap 72 cs W1 hn hN (by omega) (hc.below hB1))
  have HB1 := hid hB1
  have HN := hid hn
  clear hc hn hB1
  by_cases hv : vars ≤ 6
  · by_cases h12 : (n : Int) ≤ 12
    · go_enter Try.func11, Try.ntmps11
      go_wp2_with fail
      go_at_call 24
      refine C.out.mono ?_
      clear C
      rintro e w2 ⟨⟨z, rfl, hz1, hz2⟩, hb⟩
      have HB2 := hid (HB1.out.trans (hb.mono HB1.out.size))
      have HZ := hid hz2
      clear hb hz2
      go_wp2
      go_ret
      exact ⟨⟨decide ((z : Int) ≤ 72), rfl, fun h => ⟨hv, by rw [HN.out]; omega, HZ.out (by have := of_decide_eq_true h; omega)⟩⟩, HB2.out⟩
    · go_enter Try.func11, Try.ntmps11
      go_wp2
      go_ret
      exact ⟨⟨false, rfl, fun h => (by cases h)⟩, HB1.out⟩
  · go_enter Try.func11, Try.ntmps11
    go_wp2
    go_ret
    exact ⟨⟨false, rfl, fun h => (by cases h)⟩, HB1.out⟩

set_option maxHeartbeats 2000000 in
theorem right12 (a : Option Addr) (n cap N : Nat) (cs : List (List Int)) (w : World) (hn : cs.length = n) (hb : n ≤ 8796093022208) (hN : N ≤ 35184372088832) (hc : Cls w a cs) :
    Calls Try.prog 12 #[.slice a n cap, .int .i64 N] w fun e w' => e = .returned (.bool (Ext.okCs N cs)) ∧ Drawn w w' := by
  have HC := hid hc
  have HN := hid hn
  clear hc hn
  go_enter Try.func12, Try.ntmps12
  go_wp2
  go_loopw [5, 6] (fun i _ wr => ∃ k : Nat, k ≤ n ∧ i = .int .i64 k ∧ Hid (Ext.okCs N (cs.take k) = true) ∧ Hid (Drawn w wr)) (fun i _ _ => n - (intOf i).toNat)
  case atStart => exact ⟨0, Nat.zero_le _, rfl, hid rfl, hid (Drawn.refl _)⟩
  case round =>
    obtain ⟨k, hk, rfl, HV, HD⟩ := hrel
    by_cases hlt : k < n
    · have hlt' : (k : Int) < n := by omega
      obtain ⟨b, off, a', cap', rfl, hbl, hcell0, hL0, hln⟩ := HC.out.at (k := k) (by rw [HN.out]; exact hlt)
      have HT := hid (Ext.okCs_take N cs k (by rw [HN.out]; exact hlt))
      have HF := hid (Ext.okCs_false N cs k (by rw [HN.out]; exact hlt))
      generalize cs.getD k [] = xs at hcell0 hL0 hln HT HF
      obtain ⟨l, hl⟩ : ∃ l, xs.length = l := ⟨_, rfl⟩
      rw [hl] at hcell0 hln
      have HL := hid hl
      have HX := hid hL0
      have HCC := hid hcell0
      clear hl hL0 hcell0
      go_wp2
      obtain ⟨wo, hwo⟩ : ∃ wo, wo = wr := ⟨wr, rfl⟩
      subst hwo
      go_loopw [6] (fun q wr => ∃ j : Nat, j ≤ l ∧ q = .int .i64 j ∧ Hid (Ext.okC N (xs.take j) = true) ∧ Hid (Drawn w wr)) (fun q _ => l - (intOf q).toNat)
      case atStart => exact ⟨0, Nat.zero_le _, rfl, hid rfl, HD⟩
      case round =>
        clear HD
        obtain ⟨j, hj, rfl, HW, HD⟩ := hrel
        have hcell := (HD.out.cell _).trans HCC.out
        by_cases hjl : j < l
        · have hjl' : (j : Int) < l := by omega
          obtain ⟨b2, off2, rfl, hc, hx1, hx2⟩ := HX.out.at (k := j) (by rw [HL.out]; exact hjl)
          rw [← HD.out.cell] at hc
          have HS := hid (Ext.okC_take N xs j (by rw [HL.out]; exact hjl))
          have HG := hid (Ext.okC_false N xs j (by rw [HL.out]; exact hjl))
          generalize xs.getD j 0 = x at hc hx1 hx2 HS HG
          have hv0 := Cnf.vr_nonneg x
          have hv1 := Cnf.vr_le x hx1 hx2
          have HCV := hid (fun W => var25 x W hx1 hx2)
          have HI := hid (show Ext.inV N x = (decide (1 ≤ Cnf.vr x) && decide (Cnf.vr x ≤ (N : Int))) from rfl)
          have HZ := hid (show x = 0 ↔ Cnf.vr x = 0 by unfold Cnf.vr; split <;> omega)
          generalize Cnf.vr x = v at HCV HI HZ hv0 hv1
          by_cases hz : x = 0
          · have hz' : (x == 0) = true := by simp [hz]
            have hv := HZ.out.1 hz
            have HR := hid (HF.out (HG.out (by rw [HI.out]; simp; omega)))
            clear hz hv
            go_wp2_with (first | (go_at_call 25; refine (HCV.out _).mono ?_; rintro e w' ⟨rfl, hw'⟩; rw [hw']; clear hw'))
            go_ret
            exact ⟨ret_bool HR.out.symm, HD.out⟩
          · have hz' : (x == 0) = false := by simp [hz]
            have hv : ¬ v = 0 := fun h => hz (HZ.out.2 h)
            clear hz
            by_cases hhi : (N : Int) < v
            · have HR := hid (HF.out (HG.out (by rw [HI.out]; simp; omega)))
              go_wp2_with (first | (go_at_call 25; refine (HCV.out _).mono ?_; rintro e w' ⟨rfl, hw'⟩; rw [hw']; clear hw'))
              go_ret
              exact ⟨ret_bool HR.out.symm, HD.out⟩
            · have HR := hid (show Ext.inV N x = true by rw [HI.out]; simp; omega)
              clear HI
              go_wp2_with (first | (go_at_call 25; refine (HCV.out _).mono ?_; rintro e w' ⟨rfl, hw'⟩; rw [hw']; clear hw'))
              go_roundw
              case rel => exact ⟨j + 1, by omega, by go_num, hid (by rw [HS.out, HW.out, HR.out]; rfl), HD⟩
              case measure => simp [intOf]; omega
        · have hjl' : ¬ (j : Int) < l := by omega
          have HE := hid (show Ext.okC N xs = true by have h := HW.out; rwa [List.take_of_length_le (by rw [HL.out]; omega)] at h)
          go_wp2
          go_roundw
          case rel => exact ⟨k + 1, by omega, by go_num, hid (by rw [HT.out, HV.out, HE.out]; rfl), HD⟩
          case measure => simp [intOf]; omega
    · have hlt' : ¬ (k : Int) < n := by omega
      have HE := hid (show Ext.okCs N cs = true by have h := HV.out; rwa [List.take_of_length_le (by rw [HN.out]; omega)] at h)
      go_wp2
      go_ret
      exact ⟨ret_bool HE.out.symm, HD.out⟩

/-- What Pick tells. -/
def PickOut (n : Nat) (e : Ending) : Prop := ∃ t : Nat, t < n ∧ e = .returned (.int .i64 t)
set_option maxHeartbeats 2000000 in
theorem pick13 (i : Int) (n : Nat) (w : World) (hn : 0 < n) (hn2 : n ≤ 1000) (h1 : -9223372036854775808 ≤ i) (h2 : i ≤ 9223372036854775807) :
    Calls Try.prog 13 #[.int .i64 i, .int .i64 n] w fun e w' => PickOut n e ∧ w' = w := by
  have hn0 : ¬ (n : Int) ≤ 0 := by omega
  have hnz : ((n : Int) == 0) = false := by simp; omega
  have hnz' : ¬ (n : Int) = 0 := by omega
  obtain ⟨r, hr⟩ : ∃ r, i.tmod (n : Int) = r := ⟨_, rfl⟩
  have hr1 : -(n : Int) < r := by have h := Int.natAbs_tmod i (n : Int); rw [hr] at h; have := Nat.mod_lt i.natAbs (show 0 < (n : Int).natAbs by omega); omega
  have hr2 : r < n := by rw [← hr]; exact Int.tmod_lt_of_pos i (by omega)
  obtain ⟨t, ht⟩ : ∃ t : Nat, (r + n).tmod (n : Int) = (t : Int) := ⟨((r + n).tmod (n : Int)).toNat, by have := Int.tmod_nonneg (b := (n : Int)) (show 0 ≤ r + n by omega); omega⟩
  have htn : t < n := by have := Int.tmod_lt_of_pos (r + n) (b := (n : Int)) (by omega); omega
  go_enter Try.func13, Try.ntmps13
  go_wp2
  go_ret
  exact ⟨⟨t, htn, rfl⟩, rfl⟩

/-- A model in a row of its own. -/
def ModelOwn (w : World) (n k : Nat) (e : Ending) (w' : World) : Prop := ∃ a cap, e = .returned (.slice a n cap) ∧ MOwn w.heap.size w' a n (Tru.model n k)
set_option maxRecDepth 100000 in
set_option maxHeartbeats 4000000 in
theorem model15o (k n : Nat) (w : World) (hk : k < 65536) (hn : n ≤ 16) :
    Calls Try.prog 15 #[.int .i64 n, .int .i64 k] w fun e w' => ModelOwn w n k e w' ∧ Below w.heap.size w w' := by
  obtain ⟨i0, hi, hz⟩ := Option.map_eq_some_iff.1 info4
  simp only [Prod.mk.injEq] at hz
  obtain ⟨hz0, hz1, hz2⟩ := hz
  have HK := hid hk
  clear hk
  go_enter Try.func15, Try.ntmps15
  go_wp2
  go_loopw [5, 6] (fun m i wr => ∃ (j : Nat) (am : Option Addr) (capm : Nat), j ≤ n ∧ i = .int .i64 j ∧ m = .slice am j capm ∧ Hid (wr.ownsRow w.heap.size 4 1 (.slice am j capm) j ((Tru.model j k).map Value.bool)) ∧ Hid (Below w.heap.size w wr)) (fun _ i _ => n - (intOf i).toNat)
  case atStart => exact ⟨0, none, 0, Nat.zero_le _, rfl, rfl, hid (World.ownsRow_nil _ _ _ _), hid (Below.refl _ _)⟩
  case round =>
    obtain ⟨j, am, capm, hj, rfl, rfl, HR, HB⟩ := hrel
    by_cases hlt : j < n
    · have hlt' : (j : Int) < n := by omega
      have hj0 : (0 : Int) ≤ j := by omega
      have hbt := bit_at k j HK.out
      have hs := HB.out.size
      have HM := hid (Tru.model_on j k)
      generalize k.testBit j = b at hbt HM
      go_wp2_with (at_builtin; refine wpList_append_lies _ rfl _ _ 23 rfl w.heap.size 4 i0 (.bool false) 1 1 Try.underlying23 hi hz0 hz1 hz2 rfl (by decide) (.slice am j capm) j _ rfl (HR.out.alloc _) ⟨wr.heap.size, 0, none⟩ 1 1 [.bool b] rfl rfl news4 (by intro u hu; simp at hu; subst hu; rfl) (by decide) (by simp [maxLen]; omega) (by omega) (by simp; omega) (wr.heap.size + 1) (by simp) ?_)
      intro g8 cap8 w8 hown8 hgrow8 hat8 hlt8
      have B8 : Below w.heap.size wr w8 := ((Below.refl _ wr).alloc hs _).grown hgrow8 (by simp; omega) (fun q hq => (HR.out.lt q hq).1)
      have HB8 := hid (HB.out.trans B8)
      have HR8 := hid (show w8.ownsRow w.heap.size 4 1 (.slice (some ⟨g8, 0, none⟩) (j + 1) cap8) (j + 1) ((Tru.model (j + 1) k).map Value.bool) by rw [HM.out, List.map_append]; exact hown8)
      clear B8 hown8 hgrow8 hat8 hlt8 HR HB
      go_wp2
      go_roundw
      case rel => exact ⟨j + 1, _, _, by omega, by go_num, rfl, HR8, HB8⟩
      case measure => simp [intOf]; omega
    · have hge : ¬ (j : Int) < n := by omega
      obtain rfl : j = n := by omega
      go_wp2
      go_ret
      exact ⟨⟨_, _, rfl, own_mown (Tru.model_len _ _) HR.out⟩, HB.out⟩
end Go.Proofs.Ytjakfgpgcnbclaa
