/- Back: what goes, told backward by a loop over a function. -/
import Derived.Test.YtckpahdlcdgbpaaLst
import Derived.RangeFuncNested
import Derived.RangeFuncLeaves
import Derived.RangeFuncWrites
import Derived.RangeFuncBox
import Derived.OwnWalkIn
import Derived.TacticsInMore
import Derived.LoopNIn
import Derived.LoopIn
import Derived.Stop.RegionWithIn
namespace Go.Proofs.Ytckpahdlcdgbpaa
open Go.RowKit Go.Maps
set_option linter.unusedVariables false
set_option linter.unusedSimpArgs false

theorem backward41 (a : Option Addr) (n c : Nat) (w : World) : Calls Try.prog 41 #[.slice a n c] w fun e w' => e = .returned (.func (.func 55) #[] #[.pointer (some ⟨w.heap.size, 0, none⟩)]) ∧ w' = w.alloc (.cells #[.slice a n c] 40) := by
  go_enter Try.func41, Try.ntmps41
  go_wp2
  go_ret
  exact ⟨rfl, rfl⟩
/-- What the loop's body must keep: the box that the iterator reads, and the row. -/
def Kb (Bs gl : Nat) (W W' : World) : Prop := ∀ g o, (g = Bs ∨ g = gl) → W.heap[g]? = some o → W'.heap[g]? = some o
theorem Kb.refl (Bs gl : Nat) (W : World) : Kb Bs gl W W := fun _ _ _ h => h
theorem Kb.trans {Bs gl : Nat} {A B C : World} (h : Kb Bs gl A B) (k : Kb Bs gl B C) : Kb Bs gl A C := fun g o hg ho => k g o hg (h g o hg ho)
/-- What was handed out after t rounds: places on the trail. -/
def pref (off N t : Nat) : List Nat := (List.range t).map (fun i => off + (N - 1 - i))
theorem pref_succ (off N t : Nat) : pref off N (t + 1) = pref off N t ++ [off + (N - 1 - t)] := by simp [pref, List.range_succ]
theorem pref_len (off N t : Nat) : (pref off N t).length = t := by simp [pref]
set_option maxRecDepth 100000 in
set_option maxHeartbeats 2000000 in
theorem seq55 (m : Nat) (hm : 1 ≤ m) (Bs gl off cap : Nat) (enc : Nat → Int) (N : Nat) (w : World) (cur : Array Value) (hgl : w.heap[gl]? = some (.cells cur 33 (0, 0))) (hc : ∀ j, j < N → cur[off + j]? = some (.int .i32 (enc (off + j))))
    (hBs : w.heap[Bs]? = some (.cells #[.slice (some ⟨gl, off, none⟩) N cap] 40 (0, 0))) (hl : N ≤ 1048576) :
    SeqStopsK Fence.wide m Try.prog 55 #[.pointer (some ⟨Bs, 0, none⟩)] (fun q : Nat => #[.int .i32 (enc q)]) (Kb Bs gl) (fun ys => ys = pref off N N) (fun _ => True) N w := fun l J Jx W hW _ _ hY h0 => by
  have hbx : W.heap[Bs]? = some (.cells #[.slice (some ⟨gl, off, none⟩) N cap] 40 (0, 0)) := (hW.block Bs (lt_of_blk hBs)).trans hBs
  have hgx : W.heap[gl]? = some (.cells cur 33 (0, 0)) := (hW.block gl (lt_of_blk hgl)).trans hgl
  have c0 : W.cell? ⟨Bs, 0, none⟩ = some (.slice (some ⟨gl, off, none⟩) N cap) := row_cell hbx 0
  have HC := hid hc
  have HBX := hid hbx
  have HGX := hid hgx
  clear hc hW hBs hgl hbx hgx
  refine callsIn_of_wp Try.func55 rfl trivial ?_ rfl
  simp only [Try.ntmps55, List.size_toArray, List.length_cons, List.length_nil, Nat.reduceAdd, Nat.reduceSub, Array.replicate_succ, Array.replicate_zero, List.push_toArray, List.append_toArray, List.nil_append, List.cons_append]
  gi_wp2
  clear c0
  gi_loopw [3] (fun i wr => ∃ k : Nat, k ≤ N ∧ i = .int .i64 ((k : Int) - 1) ∧ J (pref off N (N - k)) wr ∧ Hid (Kb Bs gl W wr)) (fun i _ => (intOf i + 1).toNat)
  case atStart => exact ⟨N, Nat.le_refl _, rfl, by rw [Nat.sub_self]; exact h0, hid (Kb.refl _ _ _)⟩
  case round =>
    obtain ⟨k, hk, rfl, hJs, HK⟩ := hrel
    have hbx := HK.out _ _ (.inl rfl) HBX.out
    have hgx := HK.out _ _ (.inr rfl) HGX.out
    have c0 : wr.cell? ⟨Bs, 0, none⟩ = some (.slice (some ⟨gl, off, none⟩) N cap) := row_cell hbx 0
    clear hbx
    rcases Nat.eq_zero_or_pos k with hk0 | hkp
    · have hge : ¬ (0 : Int) ≤ (k : Int) - 1 := by omega
      clear c0 hgx
      gi_wp2
      go_end0
      rw [hk0, Nat.sub_zero] at hJs
      exact ⟨⟨_, rfl⟩, .inl hJs⟩
    · obtain ⟨j, rfl⟩ : ∃ j, k = j + 1 := ⟨k - 1, by omega⟩
      rw [show ((j + 1 : Nat) : Int) - 1 = (j : Int) by omega]
      have hj0 : (0 : Int) ≤ (j : Int) := by omega
      have hjN : (j : Int) < N := by omega
      have y0 : wr.cell? ⟨gl, off + j, none⟩ = some (.int .i32 (enc (off + j))) := (row_cell hgx _).trans (HC.out j (by omega))
      clear hgx
      obtain ⟨fn, tmps, assign, body, hy, hR⟩ := hY _ (off + j) wr hJs (by rw [pref_len]; omega)
      have HT := hid (show pref off N (N - j) = pref off N (N - (j + 1)) ++ [off + j] by
        rw [show N - j = (N - (j + 1)) + 1 by omega, pref_succ, show N - 1 - (N - (j + 1)) = j by omega])
      generalize enc (off + j) = x at *
      gi_wp2
      refine hR.mono ?_
      rintro e W3 (⟨rfl, hJ3, hk3⟩ | ⟨rfl, hJx3⟩)
      · have HJ3 := hid hJ3
        have HK3 := hid hk3
        clear hJ3 hk3 hJs hy hR
        gi_wp2
        go_roundw
        case rel => exact ⟨j, by omega, by go_num, by rw [HT.out]; exact HJ3.out, hid (HK.out.trans HK3.out)⟩
        case measure => simp [intOf] <;> omega
      · gi_wp2
        refine bodyPost_ret (results_none rfl _ _ _) rfl ?_
        exact ⟨⟨_, rfl⟩, .inr ⟨_, trivial, hJx3⟩⟩
end Go.Proofs.Ytckpahdlcdgbpaa
