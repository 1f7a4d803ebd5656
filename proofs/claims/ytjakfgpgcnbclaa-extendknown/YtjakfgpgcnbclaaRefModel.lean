/- The k-th model, by the document's own function. -/
import Derived.Test.YtjakfgpgcnbclaaNumb
import Derived.Deep.AppendLies
import Derived.OwnWalk
namespace Tru
theorem model_on (j k : Nat) : model (j + 1) k = model j k ++ [k.testBit j] := by
  unfold model
  rw [List.range_succ, List.map_append]
  rfl
end Tru
namespace Go.Proofs.Ytjakfgpgcnbclaa
open Go.RowKit
set_option linter.unusedVariables false

theorem own_bools {base : Nat} {W : World} {a : Option Addr} {cap n : Nat} {bs : List Bool} (hn : bs.length = n) (h : W.ownsRow base 4 1 (.slice a n cap) n (bs.map Value.bool)) : Bools W a bs := by
  rcases h.2 with ⟨e, h0⟩ | ⟨g, cap', cur, e, h1, h2, h3, h4, h5, h6⟩
  · left; apply List.length_eq_zero_iff.1; omega
  · injection e with e1 e2 e3
    subst e1
    right
    refine ⟨g, 0, rfl, (Array.getElem?_eq_some_iff.1 h2).1, fun j hj => ?_⟩
    rw [Nat.zero_add, row_cell h2 j, ← Array.getElem?_toList]
    have := congrArg (fun l : List Value => l[j]?) h6
    simp only [Nat.mul_one] at this
    rw [List.getElem?_take_of_lt (by omega)] at this
    rw [this]
    simp [List.getD, List.getElem?_eq_getElem hj]
theorem news4 {X : World} {u : Value} : ∀ j v, [u][j]? = some v → (X.alloc (.cells #[u] 4)).cell? ((⟨X.heap.size, 0, none⟩ : Addr).add j) = some v :=
  World.news_of_block (World.alloc_heap_new X (.cells #[u] 4))

set_option maxRecDepth 100000 in
set_option maxHeartbeats 4000000 in
theorem model15 (k n : Nat) (w : World) (hk : k < 65536) (hn : n ≤ 16) :
    Calls Try.prog 15 #[.int .i64 n, .int .i64 k] w fun e w' => ModelOut n k e w' ∧ Below w.heap.size w w' := by
  obtain ⟨i0, hi, hz⟩ := Option.map_eq_some_iff.1 info4
  simp only [Prod.mk.injEq] at hz
  obtain ⟨hz0, hz1, hz2⟩ := hz
  have HK := hid hk
  clear hk
  go_enter Try.func15, Try.ntmps15
  go_wp2
  go_loopw [5, 6] (fun m i wr => ∃ (j : Nat) (am : Option Addr) (capm : Nat), j ≤ n ∧ i = .int .i64 j ∧ m = .slice am j capm ∧ Hid (wr.ownsRow w.heap.size 4 1 (.slice am j capm) j ((Tru.model j k).map Value.bool)) ∧ Hid (Below w.heap.size w wr)) (fun _ i _ => n - (intOf i).toNat)
  case atStart => exact ⟨0, none, 0, Nat.zero_le _, rfl, rfl, hid (World.ownsRow_nil _ _ _ _), hid (Below.refl _ _)⟩
  case round =>
    obtain ⟨j, am, capm, hj, rfl, rfl, HR, HB⟩ := hrel
    by_cases hlt : j < n
    · have hlt' : (j : Int) < n := by omega
      have hj0 : (0 : Int) ≤ j := by omega
      have hbt := bit_at k j HK.out
      have hs := HB.out.size
      have HM := hid (Tru.model_on j k)
      generalize k.testBit j = b at hbt HM
      go_wp2_with (at_builtin; refine wpList_append_lies _ rfl _ _ 23 rfl w.heap.size 4 i0 (.bool false) 1 1 Try.underlying23 hi hz0 hz1 hz2 rfl (by decide) (.slice am j capm) j _ rfl (HR.out.alloc _) ⟨wr.heap.size, 0, none⟩ 1 1 [.bool b] rfl rfl news4 (by intro u hu; simp at hu; subst hu; rfl) (by decide) (by simp [maxLen]; omega) (by omega) (by simp; omega) (wr.heap.size + 1) (by simp) ?_)
      intro g8 cap8 w8 hown8 hgrow8 hat8 hlt8
      have B8 : Below w.heap.size wr w8 := ((Below.refl _ wr).alloc hs _).grown hgrow8 (by simp; omega) (fun q hq => (HR.out.lt q hq).1)
      have HB8 := hid (HB.out.trans B8)
      have HR8 := hid (show w8.ownsRow w.heap.size 4 1 (.slice (some ⟨g8, 0, none⟩) (j + 1) cap8) (j + 1) ((Tru.model (j + 1) k).map Value.bool) by rw [HM.out, List.map_append]; exact hown8)
      clear B8 hown8 hgrow8 hat8 hlt8 HR HB
      go_wp2
      go_roundw
      case rel => exact ⟨j + 1, _, _, by omega, by go_num, rfl, HR8, HB8⟩
      case measure => simp [intOf]; omega
    · have hge : ¬ (j : Int) < n := by omega
      obtain rfl : j = n := by omega
      go_wp2
      go_ret
      exact ⟨⟨_, _, rfl, own_bools (Tru.model_len _ _) HR.out⟩, HB.out⟩
end Go.Proofs.Ytjakfgpgcnbclaa
