/- Whether a clause follows, by the document's own function. -/
import Derived.Test.YtccncojidkdddaaRefCount
namespace Tru
def goodC (u : Nat) (c : List Int) : Bool := c.all (fun l => decide (1 ≤ Cnf.vr l) && decide (Cnf.vr l ≤ u))
/-- Whether each of the first j models that makes the clauses true makes the clause true. -/
def impTo (cs : List (List Int)) (u : Nat) (c : List Int) : Nat → Bool
  | 0 => true
  | j + 1 => impTo cs u c j && (!sat cs u j || Cnf.val c (model u j))
theorem impTo_false (cs : List (List Int)) (u : Nat) (c : List Int) (j : Nat) (h : (!sat cs u j || Cnf.val c (model u j)) = false) : ∀ N, j < N → impTo cs u c N = false := by
  intro N
  induction N with
  | zero => intro h; omega
  | succ N ih =>
    intro hN
    rw [impTo]
    by_cases hj : j = N
    · subst hj; rw [h, Bool.and_false]
    · rw [ih (by omega)]; rfl
theorem goodC_true (u : Nat) (c : List Int) : goodC u c = true ↔ ∀ l ∈ c, 1 ≤ Cnf.vr l ∧ Cnf.vr l ≤ u := by
  unfold goodC; rw [List.all_eq_true]; simp
theorem goodC_at (u : Nat) (c : List Int) (k : Nat) (h : k < c.length) (hb : Cnf.vr (c.getD k 0) < 1 ∨ (u : Int) < Cnf.vr (c.getD k 0)) : goodC u c = false := by
  cases e : goodC u c
  · rfl
  · have := (goodC_true u c).1 e _ (Cnf.getD_mem c k h); omega
theorem vr_zero (x : Int) : Cnf.vr x < 1 ↔ x = 0 := by unfold Cnf.vr; split <;> omega
end Tru
namespace Go.Proofs.Ytccncojidkdddaa
open Go.RowKit
set_option linter.unusedVariables false

/-- Whether the clause follows, told. -/
def ImpOut (u : Nat) (cs : List (List Int)) (c : List Int) (e : Ending) : Prop := e = .returned (.tuple #[.bool (Tru.goodC u c && Tru.impTo cs u c (2 ^ u)), .int .i64 (if Tru.goodC u c then 0 else 4)])
theorem ImpOut.bad {u : Nat} {cs : List (List Int)} {c : List Int} (h : Tru.goodC u c = false) : ImpOut u cs c (.returned (.tuple #[.bool false, .int .i64 4])) := by
  unfold ImpOut; rw [h]; rfl
theorem ImpOut.good {u : Nat} {cs : List (List Int)} {c : List Int} {b : Bool} (h : Tru.goodC u c = true) (hb : Tru.impTo cs u c (2 ^ u) = b) : ImpOut u cs c (.returned (.tuple #[.bool b, .int .i64 0])) := by
  unfold ImpOut; rw [h, hb]; rfl
theorem Far.drewN {w : World} {v0 v1 : Value} {W : World} (h : Far w v0 v1 W) (q : Nat) : Far w v0 v1 (W.drewN q) := ((Drawn.refl W).drewN q).below h

set_option maxHeartbeats 2000000 in
theorem implies15_err (vars : Int) (a ac : Option Addr) (n cap m capc : Nat) (cs : List (List Int)) (w : World) (hn : cs.length = n) (hc : Cls w a cs) (ht : ¬ Tru.taken vars cs = 0) :
    Calls Try.prog 15 #[.agg #[.int .i64 vars, .slice a n cap], .slice ac m capc] w fun e w' => e = .returned (.tuple #[.bool false, .int .i64 (Tru.taken vars cs)]) ∧ Below w.heap.size w w' := by
  have C := hid (taken24 vars a n cap cs (w.alloc (.cells #[.int .i64 vars, .slice a n cap] 24)) hn (hc.below (below_box _ _)))
  generalize Tru.taken vars cs = t at ht C
  clear hc hn
  go_enter Try.func15, Try.ntmps15
  go_wp2_with (go_at_call 24; refine C.out.mono ?_; clear C; rintro e W2 ⟨rfl, hb⟩; have far := hid (show Far w (.int .i64 vars) (.slice a n cap) W2 from hb); clear hb)
  go_ret2
  exact ⟨rfl, far.out.below⟩

set_option maxRecDepth 100000 in
set_option maxHeartbeats 8000000 in
theorem implies15 (u : Nat) (a ac : Option Addr) (n cap m capc : Nat) (cs : List (List Int)) (c : List Int) (w : World) (hn : cs.length = n) (hc : Cls w a cs) (hm : c.length = m) (hM : m ≤ 1099511627776) (hcl : Lits w ac c) (ht : Tru.taken u cs = 0) (hu : u ≤ 16) (hN : n ≤ 1048576) (hL : cs.flatten.length ≤ 16777216) :
    Calls Try.prog 15 #[.agg #[.int .i64 u, .slice a n cap], .slice ac m capc] w fun e w' => ImpOut u cs c e ∧ Below w.heap.size w w' := by
  have C := hid (taken24 u a n cap cs (w.alloc (.cells #[.int .i64 u, .slice a n cap] 24)) hn (hc.below (below_box _ _)))
  rw [ht] at C
  obtain ⟨hpw, hp2⟩ := pow16 u hu
  have HL := hid (clause_bnd (w := w) (a := a) hL)
  have HC := hid hc
  have HN := hid hn
  have HNN := hid hN
  have HU := hid hu
  have HCL := hid hcl
  have HM := hid hm
  have HMM := hid hM
  generalize hP : 2 ^ u = P at hpw hp2
  have HP := hid hP
  clear hc hn ht hN hL hu hP hcl hm
  go_enter Try.func15, Try.ntmps15
  go_wp2_with (go_at_call 24; refine C.out.mono ?_; clear C; rintro e W2 ⟨rfl, hb⟩; have far := hid (show Far w (.int .i64 u) (.slice a n cap) W2 from hb); clear hb)
  go_loopw [7] (fun i wr => ∃ j : Nat, j ≤ m ∧ i = .int .i64 j ∧ Hid (∀ t, t < j → 1 ≤ Cnf.vr (c.getD t 0) ∧ Cnf.vr (c.getD t 0) ≤ u) ∧ Hid (Far w (.int .i64 u) (.slice a n cap) wr)) (fun i _ => m - (intOf i).toNat)
  case atStart => exact ⟨0, Nat.zero_le _, rfl, hid (fun t ht => absurd ht (Nat.not_lt_zero t)), far⟩
  case round =>
    clear far
    obtain ⟨j, hj, rfl, HG, far⟩ := hrel
    have x0 := far.out.c0
    have x1 := far.out.c1
    by_cases hlt : j < m
    · have hlt' : (j : Int) < m := by omega
      obtain ⟨b1, o1, rfl, hc1, hx1, hx2⟩ := HCL.out.at (k := j) (by rw [HM.out]; exact hlt)
      have hcc := (far.out.below.cell (p := ⟨b1, o1 + j, none⟩) (World.block_lt_of_cell? w _ hc1)).trans hc1
      have HB := hid (fun h => Tru.goodC_at u c j (by rw [HM.out]; exact hlt) h)
      generalize hxx : c.getD j 0 = x at hcc hx1 hx2 HB
      have HXX := hid hxx
      clear hc1 hxx
      have CX := hid (fun (W : World) => var30 x W hx1 hx2)
      have HZ := hid (Tru.vr_zero x)
      generalize hv0 : Cnf.vr x = v at CX HB HZ
      by_cases hv1 : v < 1
      · have hx0 : (x == 0) = true := by simp; exact HZ.out.1 hv1
        have HF := hid (HB.out (.inl hv1))
        clear HB HZ hv1
        go_wp2_with fail
        go_quiet ((go_at_call 30; exact Calls.quiet_of_same (CX.out _)))
        go_wp2_with fail
        go_ret2
        exact ⟨ImpOut.bad HF.out, (far.out.drewN _).below⟩
      · have hx0 : (x == 0) = false := by simp; exact fun h => hv1 (HZ.out.2 h)
        by_cases hv2 : (u : Int) < v
        · have HF := hid (HB.out (.inr hv2))
          clear HB HZ hv1
          go_wp2_with fail
          go_quiet ((go_at_call 30; exact Calls.quiet_of_same (CX.out _)))
          go_wp2_with fail
          go_ret2
          exact ⟨ImpOut.bad HF.out, (far.out.drewN _).below⟩
        · have hv2' : ¬ (u : Int) < v := hv2
          have HVB := hid (show 1 ≤ v ∧ v ≤ (u : Int) by omega)
          have HVV := hid hv0
          clear HB HZ hv1 hv2 hv0
          go_wp2_with fail
          go_quiet ((go_at_call 30; exact Calls.quiet_of_same (CX.out _)))
          go_wp2_with fail
          go_roundw
          case rel =>
            refine ⟨j + 1, by omega, by go_num, hid (fun t ht => ?_), hid (far.out.drewN _)⟩
            rcases Nat.lt_succ_iff_lt_or_eq.1 ht with h | rfl
            · exact HG.out t h
            · rw [HXX.out, HVV.out]; exact HVB.out
          case measure => simp [intOf]; omega
    · have hge : ¬ (j : Int) < m := by omega
      obtain rfl : j = m := by omega
      have HGC := hid (show Tru.goodC u c = true by
        rw [Tru.goodC_true]
        intro l hl
        obtain ⟨t, ht, rfl⟩ := List.getElem_of_mem hl
        have := HG.out t (by rw [← HM.out]; exact ht)
        simpa [List.getD, List.getElem?_eq_getElem ht] using this)
      rename World => wm
      go_wp2
      go_loopw [8] (fun i wr => ∃ k : Nat, k ≤ P ∧ i = .int .i64 k ∧ Hid (Tru.impTo cs u c k = true) ∧ Hid (Far w (.int .i64 u) (.slice a n cap) wr)) (fun i _ => P - (intOf i).toNat)
      case atStart => exact ⟨0, Nat.zero_le _, rfl, hid rfl, far⟩
      case round =>
        clear far x0 x1
        obtain ⟨k, hk, rfl, HI, far⟩ := hrel
        have x0 := far.out.c0
        have x1 := far.out.c1
        by_cases hkp : k < P
        · have hkp' : (k : Int) < P := by omega
          have C25 := hid (model25 k u wr (by omega) HU.out)
          cases hs : Tru.sat cs u k
          · have HSJ := hid (show (!Tru.sat cs u k || Cnf.val c (Tru.model u k)) = true by rw [hs]; rfl)
            go_wp2_with (first
            | (go_at_call 25; refine C25.out.mono ?_; clear C25; rintro e W4 ⟨⟨a4, cap4, rfl, hb4⟩, hw4⟩
               have far4 := far.out.on hw4
               have y0 := far4.c0
               have y1 := far4.c1
               have C26 := hid (holds26 u a a4 n cap u cap4 cs (Tru.model u k) W4 HN.out (by have := HNN.out; omega) (Tru.model_len u k) (by have := HU.out; omega) HL.out (HC.out.below far4.below) hb4)
               rw [show Cnf.holds cs (Tru.model u k) = false from hs] at C26
               replace far4 := hid far4
               replace hb4 := hid hb4
               clear hw4)
            | (go_at_call 26; refine C26.out.mono ?_; clear C26; rintro e W5 ⟨rfl, hw5⟩
               have far5 := far4.out.on hw5
               replace far5 := hid far5
               clear hw5))
            go_roundw
            case rel => exact ⟨k + 1, by omega, by go_num, hid (by rw [Tru.impTo, HI.out, HSJ.out]; rfl), far5⟩
            case measure => simp [intOf]; omega
          · cases hv : Cnf.val c (Tru.model u k)
            · have HSJ := hid (show (!Tru.sat cs u k || Cnf.val c (Tru.model u k)) = false by rw [hs, hv]; rfl)
              go_wp2_with (first
              | (go_at_call 25; refine C25.out.mono ?_; clear C25; rintro e W4 ⟨⟨a4, cap4, rfl, hb4⟩, hw4⟩
                 have far4 := far.out.on hw4
                 have y0 := far4.c0
                 have y1 := far4.c1
                 have C26 := hid (holds26 u a a4 n cap u cap4 cs (Tru.model u k) W4 HN.out (by have := HNN.out; omega) (Tru.model_len u k) (by have := HU.out; omega) HL.out (HC.out.below far4.below) hb4)
                 rw [show Cnf.holds cs (Tru.model u k) = true from hs] at C26
                 replace far4 := hid far4
                 replace hb4 := hid hb4
                 clear hw4)
              | (go_at_call 26; refine C26.out.mono ?_; clear C26; rintro e W5 ⟨rfl, hw5⟩
                 have far5 := far4.out.on hw5
                 have C31 := hid (value31 ac a4 j capc u cap4 c (Tru.model u k) W5 HM.out HMM.out (Tru.model_len u k) (by have := HU.out; omega) (HCL.out.below far5.below) (hb4.out.below hw5))
                 rw [hv] at C31
                 replace far5 := hid far5
                 clear hw5)
              | (go_at_call 31; refine C31.out.mono ?_; clear C31; rintro e W6 ⟨rfl, rfl⟩))
              go_ret2
              exact ⟨ImpOut.good HGC.out (by rw [HP.out]; exact Tru.impTo_false cs u c k HSJ.out P hkp), far5.out.below⟩
            · have HSJ := hid (show (!Tru.sat cs u k || Cnf.val c (Tru.model u k)) = true by rw [hs, hv]; rfl)
              go_wp2_with (first
              | (go_at_call 25; refine C25.out.mono ?_; clear C25; rintro e W4 ⟨⟨a4, cap4, rfl, hb4⟩, hw4⟩
                 have far4 := far.out.on hw4
                 have y0 := far4.c0
                 have y1 := far4.c1
                 have C26 := hid (holds26 u a a4 n cap u cap4 cs (Tru.model u k) W4 HN.out (by have := HNN.out; omega) (Tru.model_len u k) (by have := HU.out; omega) HL.out (HC.out.below far4.below) hb4)
                 rw [show Cnf.holds cs (Tru.model u k) = true from hs] at C26
                 replace far4 := hid far4
                 replace hb4 := hid hb4
                 clear hw4)
              | (go_at_call 26; refine C26.out.mono ?_; clear C26; rintro e W5 ⟨rfl, hw5⟩
                 have far5 := far4.out.on hw5
                 have C31 := hid (value31 ac a4 j capc u cap4 c (Tru.model u k) W5 HM.out HMM.out (Tru.model_len u k) (by have := HU.out; omega) (HCL.out.below far5.below) (hb4.out.below hw5))
                 rw [hv] at C31
                 replace far5 := hid far5
                 clear hw5)
              | (go_at_call 31; refine C31.out.mono ?_; clear C31; rintro e W6 ⟨rfl, rfl⟩))
              go_roundw
              case rel => exact ⟨k + 1, by omega, by go_num, hid (by rw [Tru.impTo, HI.out, HSJ.out]; rfl), far5⟩
              case measure => simp [intOf]; omega
        · have hgp : ¬ (k : Int) < P := by omega
          obtain rfl : k = P := by omega
          go_wp2
          go_ret2
          exact ⟨ImpOut.good HGC.out (by rw [HP.out]; exact HI.out), far.out.below⟩
end Go.Proofs.Ytccncojidkdddaa
