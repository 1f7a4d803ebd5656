/- The program's Extend: the stack gone through backward, by a loop over a function. -/
import Derived.Test.YtjakfgpgcnbclaaDoc
import Derived.RangeFuncNested
import Derived.RangeFuncLeaves
import Derived.RangeFuncWrites
import Derived.RangeFuncBox
import Derived.OwnWalkIn
import Derived.TacticsInMore
import Derived.LoopNIn
import Derived.LoopIn
namespace Go.Proofs.Ytjakfgpgcnbclaa
open Go.RowKit
set_option linter.unusedVariables false
set_option linter.unusedSimpArgs false

theorem backward18 (a : Option Addr) (n c : Nat) (w : World) : Calls Try.prog 18 #[.slice a n c] w fun e w' => e = .returned (.func (.func 27) #[] #[.pointer (some ⟨w.heap.size, 0, none⟩)]) ∧ w' = w.alloc (.cells #[.slice a n c] 24) := by
  go_enter Try.func18, Try.ntmps18
  go_wp2
  go_ret
  exact ⟨rfl, rfl⟩

/-- A witness as it is handed out. -/
structure Qw (w : World) (n : Nat) where
  p : Ext.Wt
  a1 : Option Addr
  c1 : Nat
  a2 : Option Addr
  c2 : Nat
  h1 : Lits w a1 p.1
  h2 : Lits w a2 p.2
  n1 : p.1.length ≤ 35184372088832
  n2 : p.2.length ≤ 35184372088832
  o1 : Ext.okC n p.1 = true
  o2 : Ext.okC n p.2 = true
def Qw.v {w : World} {n : Nat} (q : Qw w n) : Value := .agg #[.slice q.a1 q.p.1.length q.c1, .slice q.a2 q.p.2.length q.c2]
def Qw.none (w : World) (n : Nat) : Qw w n := ⟨([], []), Option.none, 0, Option.none, 0, ⟨(fun x h => by cases h), .inl rfl⟩, ⟨(fun x h => by cases h), .inl rfl⟩, Nat.zero_le _, Nat.zero_le _, rfl, rfl⟩
theorem qs_of {w : World} {n : Nat} {a : Option Addr} {s : List Ext.Wt} (h : Wits w a s) (hok : Ext.okS n s = true) :
    ∃ f : Nat → Qw w n, ∀ j, j < s.length → (f j).p = s.getD j ([], []) ∧ ∃ b off, a = some ⟨b, off, Option.none⟩ ∧ b < w.heap.size ∧ w.cell? ⟨b, off + j * 2, Option.none⟩ = some (.slice (f j).a1 (f j).p.1.length (f j).c1) ∧ w.cell? ⟨b, off + j * 2 + 1, Option.none⟩ = some (.slice (f j).a2 (f j).p.2.length (f j).c2) := by
  have each : ∀ j, ∃ q : Qw w n, j < s.length → q.p = s.getD j ([], []) ∧ ∃ b off, a = some ⟨b, off, Option.none⟩ ∧ b < w.heap.size ∧ w.cell? ⟨b, off + j * 2, Option.none⟩ = some (.slice q.a1 q.p.1.length q.c1) ∧ w.cell? ⟨b, off + j * 2 + 1, Option.none⟩ = some (.slice q.a2 q.p.2.length q.c2) := by
    intro j
    by_cases hj : j < s.length
    · obtain ⟨b, off, a1, c1, a2, c2, e, hw⟩ := h.at hj
      have ho := Ext.okS_at hok hj
      exact ⟨⟨s.getD j ([], []), a1, c1, a2, c2, hw.hl, hw.hc, hw.n1, hw.n2, ho.1, ho.2⟩, fun _ => ⟨rfl, b, off, e, cell_lt hw.l, hw.l, hw.c⟩⟩
    · exact ⟨Qw.none w n, fun h => absurd h hj⟩
  exact ⟨fun j => (each j).choose, fun j hj => (each j).choose_spec hj⟩

/-- What the loop's body must keep: what lies below n₀, and the box that the iterator reads. -/
structure Kb (n₀ Bs : Nat) (W W' : World) : Prop where
  below : Below n₀ W W'
  box : ∀ o, W.heap[Bs]? = some o → W'.heap[Bs]? = some o
theorem Kb.refl (n₀ Bs : Nat) (W : World) : Kb n₀ Bs W W := ⟨Below.refl _ _, fun _ h => h⟩
theorem Kb.trans {n₀ Bs : Nat} {A B C : World} (h : Kb n₀ Bs A B) (k : Kb n₀ Bs B C) : Kb n₀ Bs A C := ⟨h.below.trans k.below, fun o ho => k.box o (h.box o ho)⟩
/-- What was handed out after t rounds. -/
def pref {w : World} {n : Nat} (f : Nat → Qw w n) (N t : Nat) : List (Qw w n) := (List.range t).map (fun i => f (N - 1 - i))
theorem pref_succ {w : World} {n : Nat} (f : Nat → Qw w n) (N t : Nat) : pref f N (t + 1) = pref f N t ++ [f (N - 1 - t)] := by simp [pref, List.range_succ]
theorem pref_len {w : World} {n : Nat} (f : Nat → Qw w n) (N t : Nat) : (pref f N t).length = t := by simp [pref]
theorem pref_all {w : World} {n : Nat} (f : Nat → Qw w n) (s : List Ext.Wt) (hf : ∀ j, j < s.length → (f j).p = s.getD j ([], [])) : (pref f s.length s.length).map (·.p) = s.reverse := by
  apply List.ext_getElem
  · simp [pref]
  · intro i h1 h2
    have hi : i < s.length := by simpa [pref] using h1
    simp only [pref, List.map_map, List.getElem_map, List.getElem_range, Function.comp_apply, List.getElem_reverse]
    rw [hf _ (by omega)]
    simp [List.getD, List.getElem?_eq_getElem (show s.length - 1 - i < s.length by omega)]

set_option maxRecDepth 100000 in
set_option maxHeartbeats 2000000 in
theorem seq27 (m : Nat) (hm : 1 ≤ m) (Bs n : Nat) (a : Option Addr) (cap : Nat) (s : List Ext.Wt) (N : Nat) (hN : s.length = N) (w0 w : World) (hb : Below w0.heap.size w0 w) (f : Nat → Qw w0 n)
    (hf : ∀ j, j < s.length → (f j).p = s.getD j ([], []) ∧ ∃ b off, a = some ⟨b, off, Option.none⟩ ∧ b < w0.heap.size ∧ w0.cell? ⟨b, off + j * 2, Option.none⟩ = some (.slice (f j).a1 (f j).p.1.length (f j).c1) ∧ w0.cell? ⟨b, off + j * 2 + 1, Option.none⟩ = some (.slice (f j).a2 (f j).p.2.length (f j).c2))
    (hBs : w.heap[Bs]? = some (.cells #[.slice a N cap] 24 (0, 0))) (hl : N ≤ 8796093022208) :
    SeqStopsK Fence.wide m Try.prog 27 #[.pointer (some ⟨Bs, 0, none⟩)] (fun q : Qw w0 n => #[q.v]) (Kb w0.heap.size Bs) (fun ys => ys = pref f N N) (fun _ => True) N w := fun l J Jx W hW _ _ hY h0 => by
  have hbx : W.heap[Bs]? = some (.cells #[.slice a N cap] 24 (0, 0)) := (hW.block Bs (Array.getElem?_eq_some_iff.1 hBs).1).trans hBs
  have c0 : W.cell? ⟨Bs, 0, none⟩ = some (.slice a N cap) := row_cell hbx 0
  have HWB := hid (show Below w0.heap.size w0 W from hb.trans (hW.mono hb.size))
  have HF := hid hf
  have HN := hid hN
  have HBX := hid hbx
  clear hf hb hW hBs hN hbx
  refine callsIn_of_wp Try.func27 rfl trivial ?_ rfl
  simp only [Try.ntmps27, List.size_toArray, List.length_cons, List.length_nil, Nat.reduceAdd, Nat.reduceSub, Array.replicate_succ, Array.replicate_zero, List.push_toArray, List.append_toArray, List.nil_append, List.cons_append]
  gi_wp2
  clear c0
  gi_loopw [3] (fun i wr => ∃ k : Nat, k ≤ N ∧ i = .int .i64 ((k : Int) - 1) ∧ J (pref f N (N - k)) wr ∧ Hid (Kb w0.heap.size Bs W wr)) (fun i _ => (intOf i + 1).toNat)
  case atStart => exact ⟨N, Nat.le_refl _, rfl, by rw [Nat.sub_self]; exact h0, hid (Kb.refl _ _ _)⟩
  case round =>
    obtain ⟨k, hk, rfl, hJs, HK⟩ := hrel
    have hbx := HK.out.box _ HBX.out
    have c0 : wr.cell? ⟨Bs, 0, none⟩ = some (.slice a N cap) := row_cell hbx 0
    clear hbx
    rcases Nat.eq_zero_or_pos k with hk0 | hkp
    · have hge : ¬ (0 : Int) ≤ (k : Int) - 1 := by omega
      clear c0
      gi_wp2
      go_end0
      rw [hk0, Nat.sub_zero] at hJs
      exact ⟨⟨_, rfl⟩, .inl hJs⟩
    · obtain ⟨j, rfl⟩ : ∃ j, k = j + 1 := ⟨k - 1, by omega⟩
      rw [show ((j + 1 : Nat) : Int) - 1 = (j : Int) by omega]
      have hj0 : (0 : Int) ≤ (j : Int) := by omega
      have hjN : (j : Int) < N := by omega
      obtain ⟨_, b, off, rfl, hbl, x0, x1⟩ := HF.out j (by rw [HN.out]; omega)
      have y0 := ((HWB.out.trans HK.out.below).cell (p := ⟨b, off + j * 2, none⟩) hbl).trans x0
      have y1 := ((HWB.out.trans HK.out.below).cell (p := ⟨b, off + j * 2 + 1, none⟩) hbl).trans x1
      clear x0 x1
      obtain ⟨fn, tmps, assign, body, hy, hR⟩ := hY _ (f j) wr hJs (by rw [pref_len]; omega)
      have HT := hid (show pref f N (N - j) = pref f N (N - (j + 1)) ++ [f j] by
        rw [show N - j = (N - (j + 1)) + 1 by omega, pref_succ, show N - 1 - (N - (j + 1)) = j by omega])
      unfold Qw.v at hy
      generalize (f j).p.1.length = l1 at y0 hy
      generalize (f j).p.2.length = l2 at y1 hy
      generalize (f j).a1 = z1 at y0 hy
      generalize (f j).a2 = z2 at y1 hy
      generalize (f j).c1 = d1 at y0 hy
      generalize (f j).c2 = d2 at y1 hy
      gi_wp2
      refine hR.mono ?_
      rintro e W3 (⟨rfl, hJ3, hk3⟩ | ⟨rfl, hJx3⟩)
      · have HJ3 := hid hJ3
        have HK3 := hid hk3
        clear hJ3 hk3 hJs hy hR
        gi_wp2
        go_roundw
        case rel => exact ⟨j, by omega, by go_num, by rw [HT.out]; exact HJ3.out, hid (HK.out.trans HK3.out)⟩
        case measure => simp [intOf] <;> omega
      · gi_wp2
        refine bodyPost_ret (results_none rfl _ _ _) rfl ?_
        exact ⟨⟨_, rfl⟩, .inr ⟨_, trivial, hJx3⟩⟩
end Go.Proofs.Ytjakfgpgcnbclaa
