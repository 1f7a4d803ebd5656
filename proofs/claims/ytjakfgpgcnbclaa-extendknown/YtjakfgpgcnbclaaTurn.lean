/- Whether a stack is right, how great it is; whether models are the same; a model of one's own, and its literals made true. -/
import Derived.Test.YtjakfgpgcnbclaaExt
import Derived.Laws.CopyOwn
import Derived.Laws.MakeOwn
namespace Ext
theorem getD_set (m : List Bool) (i t : Nat) (b : Bool) (h : i < m.length) : (m.set i b).getD t false = if t = i then b else m.getD t false := by
  by_cases e : t = i
  · subst e; simp [List.getD, h]
  · simp [List.getD, e, List.getElem?_set_ne (Ne.symm e)]
theorem same_take (xs ys : List Bool) (k : Nat) (h1 : k < xs.length) (h2 : k < ys.length) : (xs.take (k + 1) = ys.take (k + 1)) ↔ (xs.take k = ys.take k ∧ xs.getD k false = ys.getD k false) := by
  rw [List.take_succ_eq_append_getElem h1, List.take_succ_eq_append_getElem h2]
  simp only [List.getD, List.getElem?_eq_getElem h1, List.getElem?_eq_getElem h2, Option.getD_some]
  constructor
  · intro h
    have := List.append_inj' h rfl
    exact ⟨this.1, by simpa using this.2⟩
  · rintro ⟨a, b⟩
    rw [a, b]
end Ext
namespace Go.Proofs.Ytjakfgpgcnbclaa
open Go.RowKit
set_option linter.unusedVariables false

theorem row_frozen {W : World} {b : Nat} {cs : Array Value} {t : TypeId} (h : W.heap[b]? = some (.cells cs t (0, 0))) (k : Nat) : W.frozen? ⟨b, k, none⟩ = false := by
  simp [World.frozen?, h]
theorem heap_other (W : World) {b k x : Nat} (u : Value) (hne : x ≠ b) : (W.setCell ⟨b, k, none⟩ u).heap[x]? = W.heap[x]? := Below.heap_setCell W ⟨b, k, none⟩ u x hne
theorem heap_set_row {W : World} {b k : Nat} {cs : Array Value} {t : TypeId} {fr : Nat × Nat} (h : W.heap[b]? = some (.cells cs t fr)) (v : Value) : (W.setCell ⟨b, k, none⟩ v).heap[b]? = some (.cells (cs.setIfInBounds k v) t fr) := by
  simp [World.setCell, Array.getElem?_modify, h]

set_option maxHeartbeats 2000000 in
/-- The program's right. -/
theorem right17 (a : Option Addr) (n cap N : Nat) (s : List Ext.Wt) (w : World) (hn : s.length = n) (hb : n ≤ 8796093022208) (hN : N ≤ 35184372088832) (hs : Wits w a s) :
    Calls Try.prog 17 #[.slice a n cap, .int .i64 N] w fun e w' => e = .returned (.bool (Ext.okS N s)) ∧ Below w.heap.size w w' := by
  have HX := hid hs
  have HN := hid hn
  clear hs hn
  go_enter Try.func17, Try.ntmps17
  go_wp2
  go_loopw [6, 9] (fun _ i wr => ∃ k : Nat, k ≤ n ∧ i = .int .i64 k ∧ Hid (Ext.okS N (s.take k) = true) ∧ Hid (Below w.heap.size w wr)) (fun _ i _ => n - (intOf i).toNat)
  case atStart => exact ⟨0, Nat.zero_le _, rfl, hid rfl, hid (Below.refl _ _)⟩
  case round =>
    obtain ⟨k, hk, rfl, HV, HB⟩ := hrel
    by_cases hlt : k < n
    · have hlt' : (k : Int) < n := by omega
      obtain ⟨b, off, a1, c1, a2, c2, rfl, hw⟩ := (HX.out.below HB.out).at (j := k) (by rw [HN.out]; exact hlt)
      have HS := hid (Ext.okS_take N s k (by rw [HN.out]; exact hlt))
      have HF := hid (Ext.okS_false N s k (by rw [HN.out]; exact hlt))
      obtain ⟨x0, x1, hl, hc, hn1, hn2⟩ := hw
      generalize s.getD k ([], []) = p at x0 x1 hl hc hn1 hn2 HS HF
      obtain ⟨V, hV⟩ : ∃ V, wr.alloc (.cells #[.slice a1 p.1.length c1, .slice a2 p.2.length c2] 42) = V := ⟨_, rfl⟩
      have hbb : Below wr.heap.size wr V := by rw [← hV]; exact below_box wr _
      have y0 : V.cell? ⟨wr.heap.size, 0, none⟩ = some (.slice a1 p.1.length c1) := by rw [← hV]; exact row_cell (World.alloc_heap_new wr _) 0
      have y1 : V.cell? ⟨wr.heap.size, 1, none⟩ = some (.slice a2 p.2.length c2) := by rw [← hV]; exact row_cell (World.alloc_heap_new wr _) 1
      have HBX := hid (HB.out.trans (hbb.mono HB.out.size))
      have C1 := hid (within26 a1 p.1.length c1 N p.1 V rfl hn1 hN (hl.below hbb))
      have C2 := hid (within26 a2 p.2.length c2 N p.2 V rfl hn2 hN (hc.below hbb))
      generalize p.1.length = n1 at x0 C1 hV y0
      generalize p.2.length = n2 at x1 C2 hV y1
      clear hl hc hn1 hn2 hbb HB
      generalize Ext.okC N p.1 = r1 at C1 HS HF
      generalize Ext.okC N p.2 = r2 at C2 HS HF
      cases r1
      · go_wp2_with (go_at_call 26; refine C1.out.mono ?_; rintro e w' ⟨rfl, hw'⟩; rw [hw']; clear hw')
        go_ret
        exact ⟨ret_bool (HF.out (by simp)).symm, HBX.out⟩
      · cases r2
        · go_wp2_with (go_at_call 26; first | (refine C1.out.mono ?_; clear C1; rintro e w' ⟨rfl, hw'⟩; rw [hw']; clear hw') | (refine C2.out.mono ?_; clear C2; rintro e w' ⟨rfl, hw'⟩; rw [hw']; clear hw'))
          go_ret
          exact ⟨ret_bool (HF.out (by simp)).symm, HBX.out⟩
        · go_wp2_with (go_at_call 26; first | (refine C1.out.mono ?_; clear C1; rintro e w' ⟨rfl, hw'⟩; rw [hw']; clear hw') | (refine C2.out.mono ?_; clear C2; rintro e w' ⟨rfl, hw'⟩; rw [hw']; clear hw'))
          go_roundw
          case rel => exact ⟨k + 1, by omega, by go_num, hid (by rw [HS.out, HV.out]; rfl), hid (HBX.out)⟩
          case measure => simp [intOf]; omega
    · have hlt' : ¬ (k : Int) < n := by omega
      go_wp2
      go_ret
      exact ⟨ret_bool (by have h := HV.out; rw [List.take_of_length_le (by rw [HN.out]; omega)] at h; exact h.symm), HB.out⟩

/-- What few tells. -/
def FewOut (n : Nat) (s : List Ext.Wt) (e : Ending) : Prop := ∃ b : Bool, e = .returned (.bool b) ∧ (b = true → n ≤ 60 ∧ Ext.items s ≤ 600)
set_option maxHeartbeats 2000000 in
theorem few6 (a : Option Addr) (n cap : Nat) (s : List Ext.Wt) (w : World) (hn : s.length = n) (hb : n ≤ 8796093022208) (hs : Wits w a s) :
    Calls Try.prog 6 #[.slice a n cap] w fun e w' => FewOut n s e ∧ Drawn w w' := by
  have HX := hid hs
  have HN := hid hn
  clear hs hn
  go_enter Try.func6, Try.ntmps6
  go_wp2
  go_loopw [3, 4] (fun q i wr => ∃ (k m : Nat), q = .int .i64 m ∧ k ≤ n ∧ k ≤ 61 ∧ i = .int .i64 k ∧ Hid (m = Ext.items (s.take k)) ∧ m ≤ 70368744177664 * k ∧ Hid (Drawn w wr)) (fun _ i _ => n - (intOf i).toNat)
  case atStart => exact ⟨0, 0, rfl, Nat.zero_le _, Nat.zero_le _, rfl, hid rfl, Nat.zero_le _, hid (Drawn.refl _)⟩
  case round =>
    obtain ⟨k, m, rfl, hk, hk2, rfl, HQ, hq2, HD⟩ := hrel
    by_cases hlt : k < n
    · by_cases h60 : (k : Int) ≤ 60
      · have hlt' : (k : Int) < n := by omega
        obtain ⟨b, off, a1, c1, a2, c2, rfl, hw⟩ := (HD.out.wits HX.out).at (j := k) (by rw [HN.out]; exact hlt)
        have HT := hid (Ext.items_take s k (by rw [HN.out]; exact hlt))
        obtain ⟨x0, x1, _, _, hn1, hn2⟩ := hw
        generalize s.getD k ([], []) = p at x0 x1 hn1 hn2 HT
        generalize p.1.length = n1 at x0 hn1 HT
        generalize p.2.length = n2 at x1 hn2 HT
        go_wp2
        go_quiet (fail)
        go_wp2
        go_roundw
        case rel => exact ⟨k + 1, m + n1 + n2, by go_num, by omega, by omega, by go_num, hid (by rw [HT.out, HQ.out]; omega), by omega, hid (HD.out.drewN _)⟩
        case measure => simp [intOf]; omega
      · have h60' : ¬ (n : Int) ≤ 60 := by omega
        have hlt' : (k : Int) < n := by omega
        go_wp2
        go_ret
        exact ⟨⟨false, rfl, fun h => (by cases h)⟩, HD.out⟩
    · have hlt' : ¬ (k : Int) < n := by omega
      have HQ3 := hid (show m = Ext.items s by have h := HQ.out; rwa [List.take_of_length_le (by rw [HN.out]; omega)] at h)
      by_cases h60 : (n : Int) ≤ 60
      · by_cases h600 : (m : Int) ≤ 600
        · go_wp2
          go_ret
          exact ⟨⟨true, rfl, fun _ => ⟨by omega, by have := HQ3.out; omega⟩⟩, HD.out⟩
        · go_wp2
          go_ret
          exact ⟨⟨false, rfl, fun h => (by cases h)⟩, HD.out⟩
      · go_wp2
        go_ret
        exact ⟨⟨false, rfl, fun h => (by cases h)⟩, HD.out⟩

set_option maxHeartbeats 2000000 in
theorem sameModel9 (a b : Option Addr) (n m ca cb : Nat) (xs ys : List Bool) (w : World) (hn : xs.length = n) (hm : ys.length = m) (hN : n ≤ 35184372088832) (hM : m ≤ 35184372088832) (hx : Bools w a xs) (hy : Bools w b ys) :
    Calls Try.prog 9 #[.slice a n ca, .slice b m cb] w fun e w' => e = .returned (.bool (decide (xs = ys))) ∧ Drawn w w' := by
  have HX := hid hx
  have HY := hid hy
  have HN := hid hn
  have HM := hid hm
  clear hx hy hn hm
  by_cases hnm : n = m
  · subst hnm
    go_enter Try.func9, Try.ntmps9
    go_wp2
    go_loopw [5] (fun i wr => ∃ k : Nat, k ≤ n ∧ i = .int .i64 k ∧ Hid (xs.take k = ys.take k) ∧ Hid (Drawn w wr)) (fun i _ => n - (intOf i).toNat)
    case atStart => exact ⟨0, Nat.zero_le _, rfl, hid rfl, hid (Drawn.refl _)⟩
    case round =>
      obtain ⟨k, hk, rfl, HE, HD⟩ := hrel
      by_cases hlt : k < n
      · obtain ⟨b1, o1, rfl, hc1⟩ := HX.out.at (k := k) (by rw [HN.out]; exact hlt)
        obtain ⟨b2, o2, rfl, hc2⟩ := HY.out.at (k := k) (by rw [HM.out]; exact hlt)
        rw [← HD.out.cell] at hc1 hc2
        have hi1 : (k : Int) < (n : Int) := by omega
        have HS := hid (Ext.same_take xs ys k (by rw [HN.out]; exact hlt) (by rw [HM.out]; exact hlt))
        generalize xs.getD k false = x at hc1 HS
        generalize ys.getD k false = y at hc2 HS
        by_cases hxy : x = y
        · subst hxy
          have hh : (x != x) = false := by simp
          go_wp2
          go_quiet (fail)
          go_wp2
          go_roundw
          case rel => exact ⟨k + 1, by omega, by go_num, hid (HS.out.2 ⟨HE.out, by trivial⟩), hid (HD.out.drewN _)⟩
          case measure => simp [intOf]; omega
        · have hh : (x == y) = false := by simp [hxy]
          have HR := hid (show decide (xs = ys) = false by
            rw [decide_eq_false_iff_not]
            rintro rfl
            exact hxy (HS.out.1 rfl).2)
          clear hxy
          go_wp2
          go_quiet (fail)
          go_wp2
          go_ret
          exact ⟨ret_bool HR.out.symm, HD.out.drewN _⟩
      · have hi1 : ¬ (k : Int) < (n : Int) := by omega
        have HR := hid (show decide (xs = ys) = true by
          rw [decide_eq_true_eq]
          have h := HE.out
          rwa [List.take_of_length_le (by rw [HN.out]; omega), List.take_of_length_le (by rw [HM.out]; omega)] at h)
        go_wp2
        go_ret
        exact ⟨ret_bool HR.out.symm, HD.out⟩
  · have hnm' : ((n : Int) != (m : Int)) = true := by simp; omega
    have HR := hid (show decide (xs = ys) = false by
      rw [decide_eq_false_iff_not]
      rintro rfl
      exact hnm (HN.out.symm.trans HM.out))
    clear hnm
    go_enter Try.func9, Try.ntmps9
    go_wp2
    go_ret
    exact ⟨ret_bool HR.out.symm, Drawn.refl _⟩

/-- A model in a row of one's own, from block B on. -/
def MOwn (B : Nat) (w : World) (a : Option Addr) (n : Nat) (m : List Bool) : Prop :=
  m.length = n ∧ (n = 0 ∨ ∃ g A, a = some ⟨g, 0, none⟩ ∧ B ≤ g ∧ w.heap[g]? = some (.cells A 4 (0, 0)) ∧ n ≤ A.size ∧ ∀ t, t < n → A[t]? = some (.bool (m.getD t false)))
theorem MOwn.bools {B : Nat} {w : World} {a : Option Addr} {n : Nat} {m : List Bool} (h : MOwn B w a n m) : Bools w a m := by
  rcases h.2 with h0 | ⟨g, A, e, _, hg, hA, hc⟩
  · left; apply List.length_eq_zero_iff.1; rw [h.1, h0]
  · refine .inr ⟨g, 0, e, (Array.getElem?_eq_some_iff.1 hg).1, fun j hj => ?_⟩
    rw [Nat.zero_add, row_cell hg j]
    exact hc j (by rw [← h.1]; exact hj)
theorem MOwn.at {B : Nat} {w : World} {a : Option Addr} {n : Nat} {m : List Bool} (h : MOwn B w a n m) (hn : 0 < n) : ∃ g, a = some ⟨g, 0, none⟩ ∧ B ≤ g ∧ g < w.heap.size := by
  rcases h.2 with h0 | ⟨g, A, e, h1, hg, hA, hc⟩
  · omega
  · exact ⟨g, e, h1, (Array.getElem?_eq_some_iff.1 hg).1⟩
theorem MOwn.cell {B : Nat} {w : World} {g : Nat} {n : Nat} {m : List Bool} (h : MOwn B w (some ⟨g, 0, none⟩) n m) {t : Nat} (ht : t < n) : w.cell? ⟨g, t, none⟩ = some (.bool (m.getD t false)) ∧ w.frozen? ⟨g, t, none⟩ = false ∧ B ≤ g := by
  rcases h.2 with h0 | ⟨g', A, e, h1, hg, hA, hc⟩
  · omega
  · cases e
    exact ⟨(row_cell hg t).trans (hc t ht), row_frozen hg t, h1⟩
theorem MOwn.set {B : Nat} {w : World} {g : Nat} {n : Nat} {m : List Bool} (h : MOwn B w (some ⟨g, 0, none⟩) n m) {t : Nat} (ht : t < n) (b : Bool) : MOwn B (w.setCell ⟨g, t, none⟩ (.bool b)) (some ⟨g, 0, none⟩) n (m.set t b) := by
  rcases h.2 with h0 | ⟨g', A, e, h1, hg, hA, hc⟩
  · omega
  · cases e
    refine ⟨by simpa using h.1, .inr ⟨g, A.setIfInBounds t (.bool b), rfl, h1, heap_set_row hg _, by simpa using hA, fun j hj => ?_⟩⟩
    rw [Ext.getD_set m t j b (by rw [h.1]; exact ht)]
    by_cases e : j = t
    · subst e; rw [if_pos rfl, Array.getElem?_setIfInBounds_self_of_lt (by omega)]
    · rw [if_neg e, Array.getElem?_setIfInBounds_ne (Ne.symm e)]; exact hc j hj
theorem MOwn.below {B : Nat} {w w' : World} {a : Option Addr} {n : Nat} {m : List Bool} (h : MOwn B w a n m) (hb : Below w.heap.size w w') : MOwn B w' a n m := by
  refine ⟨h.1, h.2.imp id ?_⟩
  rintro ⟨g, A, e, h1, hg, hA, hc⟩
  exact ⟨g, A, e, h1, (hb.block g (Array.getElem?_eq_some_iff.1 hg).1).trans hg, hA, hc⟩
/-- Nothing turned but block g. -/
structure Only (g : Nat) (w w' : World) : Prop where
  os : w'.os = w.os
  tape : w'.tape = w.tape
  output : w'.output = w.output
  size : w'.heap.size = w.heap.size
  other : ∀ k, k ≠ g → w'.heap[k]? = w.heap[k]?
theorem setCell_size (W : World) (p : Addr) (v : Value) : (W.setCell p v).heap.size = W.heap.size := by
  unfold World.setCell
  split <;> simp
theorem Only.refl (g : Nat) (w : World) : Only g w w := ⟨rfl, rfl, rfl, rfl, fun _ _ => rfl⟩
theorem Only.set {g : Nat} {w w' : World} (h : Only g w w') (t : Nat) (v : Value) : Only g w (w'.setCell ⟨g, t, none⟩ v) := by
  have hb : Below 0 w' (w'.setCell ⟨g, t, none⟩ v) := (Below.refl 0 w').setCell (Nat.zero_le _) v
  refine ⟨hb.os.trans h.1, hb.tape.trans h.2, hb.output.trans h.3, (setCell_size _ _ _).trans h.4, fun k hk => ?_⟩
  rw [heap_other _ _ hk]
  exact h.5 k hk
theorem Only.below {B g : Nat} {w0 w w' : World} (h : Only g w w') (hb : Below B w0 w) (hg : B ≤ g) : Below B w0 w' :=
  ⟨h.1.trans hb.os, h.2.trans hb.tape, h.3.trans hb.output, by rw [h.4]; exact hb.size, fun k hk => (h.5 k (by omega)).trans (hb.block k hk)⟩
theorem Only.lits {B g : Nat} {w0 w w' : World} {a : Option Addr} {xs : List Int} (h : Only g w w') (hb : Below w0.heap.size w0 w) (hg : w0.heap.size ≤ g) (hx : Lits w0 a xs) : Lits w' a xs := hx.below (h.below hb hg)

/-- What making literals true leaves behind. -/
def TurnOut (B : Nat) (w : World) (a : Option Addr) (n : Nat) (m : List Bool) (w' : World) : Prop := MOwn B w' a n m ∧ ((n = 0 ∧ w' = w) ∨ ∃ g, a = some ⟨g, 0, none⟩ ∧ B ≤ g ∧ Only g w w')

set_option maxHeartbeats 2000000 in
theorem turn20 (a la : Option Addr) (n cap ln lcap : Nat) (m : List Bool) (ls : List Int) (w0 w : World) (hm : MOwn w0.heap.size w a n m) (hb : Below w0.heap.size w0 w) (hn : n ≤ 35184372088832) (hl : ls.length = ln) (hln : ln ≤ 35184372088832) (hok : Ext.okC n ls = true) (hx : Lits w0 la ls) :
    Calls Try.prog 20 #[.slice a n cap, .slice la ln lcap] w fun e w' => e = .returned (.tuple #[]) ∧ TurnOut w0.heap.size w a n (Ext.turn m ls) w' := by
  have HX := hid hx
  have HL := hid hl
  have HB := hid hb
  have HO := hid hok
  have HM := hid hm
  clear hx hl hb hok hm
  rcases Nat.eq_zero_or_pos ln with h0 | hpos
  · have hz : ls = [] := List.eq_nil_of_length_eq_zero (by rw [HL.out, h0])
    subst hz
    subst h0
    go_enter Try.func20, Try.ntmps20
    go_wp2
    go_loopw [8] (fun i wr => i = .int .i64 0 ∧ wr = w) (fun _ _ => 0)
    case atStart => exact ⟨rfl, rfl⟩
    case round =>
      obtain ⟨rfl, rfl⟩ := hrel
      go_wp2
      refine bodyPost_end (results_none rfl _ _ _) rfl ?_
      refine ⟨rfl, HM.out, ?_⟩
      rcases Nat.eq_zero_or_pos n with h0 | hp
      · exact .inl ⟨h0, rfl⟩
      · obtain ⟨g, e, h1, _⟩ := HM.out.at hp
        exact .inr ⟨g, e, h1, Only.refl _ _⟩
  · have hn0 : 0 < n := by
      have := Ext.okC_at HO.out (k := 0) (by rw [HL.out]; exact hpos)
      omega
    obtain ⟨g, rfl, hg, _⟩ := HM.out.at hn0
    go_enter Try.func20, Try.ntmps20
    go_wp2
    go_loopw [8] (fun i wr => ∃ k : Nat, k ≤ ln ∧ i = .int .i64 k ∧ Hid (MOwn w0.heap.size wr (some ⟨g, 0, none⟩) n (Ext.turn m (ls.take k))) ∧ Hid (Only g w wr)) (fun i _ => ln - (intOf i).toNat)
    case atStart => exact ⟨0, Nat.zero_le _, rfl, HM, hid (Only.refl _ _)⟩
    case round =>
      clear HM
      obtain ⟨k, hk, rfl, HM, HW⟩ := hrel
      by_cases hlt : k < ln
      · have hlt' : (k : Int) < ln := by omega
        have hks : k < ls.length := by rw [HL.out]; exact hlt
        obtain ⟨b, off, rfl, hc, hx1, hx2⟩ := (HX.out.below (HW.out.below HB.out hg)).at (k := k) hks
        have HT := hid (Ext.turn_take m ls k hks)
        obtain ⟨hv0, hv1⟩ := Ext.okC_at HO.out hks
        unfold Ext.put at HT
        generalize ls.getD k 0 = x at hc hx1 hx2 HT hv0 hv1
        have HC := hid (var25 x wr hx1 hx2)
        generalize Cnf.vr x = v at HC HT hv0 hv1
        obtain ⟨j, hj⟩ : ∃ j : Nat, v = (j : Int) + 1 := ⟨(v - 1).toNat, by omega⟩
        subst hj
        rw [show ((j : Int) + 1 - 1).toNat = j by omega] at HT
        have hjn : j < n := by omega
        have hjn' : (j : Int) < n := by omega
        obtain ⟨y0, y1, _⟩ := HM.out.cell hjn
        have HMS := hid (fun b => HM.out.set hjn b)
        have HWS := hid (fun b => HW.out.set j (.bool b))
        clear HM HW hv0 hv1
        generalize (Ext.turn m (ls.take k)).getD j false = old at y0
        go_wp2_with (go_at_call 25; refine HC.out.mono ?_; rintro e w' ⟨rfl, hw'⟩; rw [hw']; clear hw')
        go_roundw
        case rel => exact ⟨k + 1, by omega, by go_num, hid (by rw [HT.out]; exact HMS.out _), hid (HWS.out _)⟩
        case measure => simp [intOf]; omega
      · have hlt' : ¬ (k : Int) < ln := by omega
        have HE := hid (show ls.take k = ls from List.take_of_length_le (by rw [HL.out]; omega))
        go_wp2
        refine bodyPost_end (results_none rfl _ _ _) rfl ?_
        have h := HM.out
        rw [HE.out] at h
        exact ⟨rfl, h, .inr ⟨g, rfl, hg, HW.out⟩⟩
end Go.Proofs.Ytjakfgpgcnbclaa
