/- without: a row without a number. -/
import Derived.Test.YtjbnkkjihcoojaaPlc
namespace Hpp
def wot (L : List Nat) (v : Int) : List Nat := L.filter (fun u => decide ((u : Int) + 1 ≠ v))
theorem wot_take {L : List Nat} {v : Int} {k : Nat} (hk : k < L.length) : wot (L.take (k + 1)) v = if ((L.getD k 0 : Nat) : Int) + 1 = v then wot (L.take k) v else wot (L.take k) v ++ [L.getD k 0] := by
  unfold wot
  rw [List.take_succ_eq_append_getElem hk, List.filter_append, getD_el L hk]
  by_cases h : ((L[k] : Nat) : Int) + 1 = v
  · simp [h]
  · simp [h]
theorem wot_len (L : List Nat) (v : Int) : (wot L v).length ≤ L.length := List.length_filter_le _ _
end Hpp
namespace Go.Proofs.Ytjbnkkjihcoojaa
open Go.RowKit Go.Maps
set_option linter.unusedVariables false
set_option maxRecDepth 100000

/-- A variable more at a row of one's own. -/
theorem app3 {W : World} {base n : Nat} {va : Value} {L : List Nat} (h : W.ownsRow base 3 1 va n (ivs L)) (hbs : base ≤ W.heap.size) (u : Nat) (hn : n ≤ 1048576) :
    ∃ g c X, (Builtin.append_ #[42, 42] 42 #[va, .slice (some ⟨W.heap.size, 0, none⟩) 1 1]).run Try.prog (W.alloc (.cells #[.int .i64 ((u : Int) + 1)] 3)) = .ok (.slice (some ⟨g, 0, none⟩) (n + 1) c) X ∧ X.ownsRow base 3 1 (.slice (some ⟨g, 0, none⟩) (n + 1) c) (n + 1) (ivs (L ++ [u])) ∧ Below base W X := by
  obtain ⟨i0, hi, hz⟩ := Option.map_eq_some_iff.1 info3
  simp only [Prod.mk.injEq] at hz
  have hal := below_box W (.cells #[.int .i64 ((u : Int) + 1)] 3)
  have hsz : (W.alloc (.cells #[.int .i64 ((u : Int) + 1)] 3)).heap.size = W.heap.size + 1 := by simp
  obtain ⟨g, c, X, hr, hown, hgr, hat, hlt⟩ := run_append_lies (P := Try.prog) (W.alloc (.cells #[.int .i64 ((u : Int) + 1)] 3)) 42 42 base 3 i0 _ 1 8 Try.underlying42 hi hz.1 hz.2.1 hz.2.2 rfl (by decide) va n _ (own_below h hal)
    ⟨W.heap.size, 0, none⟩ 1 1 [.int .i64 ((u : Int) + 1)] rfl (World.news_of_block (heap_alloc_new W (.cells #[.int .i64 ((u : Int) + 1)] 3))) (by intro u hu; rw [List.mem_singleton.1 hu]; rfl) (by decide) (by unfold maxLen; omega) (by omega) (by rw [hsz]; omega) _ hsz
  refine ⟨g, c, X, hr, by rw [show ivs (L ++ [u]) = ivs L ++ [.int .i64 ((u : Int) + 1)] by simp [ivs]]; exact hown, (hal.mono hbs).trans ⟨hgr.os, hgr.tape, hgr.output, hgr.size, fun q hq => hgr.block q (by omega) (fun e => ?_)⟩⟩
  have := (own_blk h e.symm).1
  omega
def WotOut (W : World) (K : List Nat) (e : Ending) (w' : World) : Prop := ∃ o c, e = .returned (.slice o K.length c) ∧ w'.ownsRow W.heap.size 3 1 (.slice o K.length c) K.length (ivs K) ∧ Below W.heap.size W w'
set_option maxHeartbeats 2000000 in
theorem without26 {W : World} {o : Option Addr} {n c : Nat} {L : List Nat} (h : W.ownsRow 0 3 1 (.slice o n c) n (ivs L)) (hn : n ≤ 1048576) (v : Int) :
    Calls Try.prog 26 #[.slice o n c, .int .i64 v] W fun e w' => WotOut W (Hpp.wot L v) e w' := by
  have hl := ivs_len h
  have HL := hid hl
  rcases Nat.eq_zero_or_pos n with h0 | h0
  · subst h0
    have HE := hid (show Hpp.wot L v = [] by rw [List.eq_nil_of_length_eq_zero hl]; rfl)
    have HO := hid (show WotOut W [] (.returned (.slice none 0 0)) W from ⟨none, 0, rfl, World.ownsRow_nil _ _ _ _, Below.refl _ _⟩)
    rw [HE.out]
    clear h hl
    go_enter Try.func26, Try.ntmps26
    go_wp2
    go_loopw [5, 6] (fun ov i wr => ov = .slice none 0 0 ∧ i = .int .i64 0 ∧ wr = W) (fun _ _ _ => 0)
    case atStart => exact ⟨rfl, rfl, rfl⟩
    case round =>
      obtain ⟨rfl, rfl, hw⟩ := hrel
      rw [hw]
      clear hw
      go_wp2
      go_ret
      exact HO.out
  · have hOwn := h
    obtain ⟨g1, d1, e1, q1⟩ := own_at h h0
    cases e1
    have HQ := hid (fun (w : World) (hb : Below W.heap.size W w) (k : Nat) (hk : k < n) => show w.cell? ⟨g1, k, none⟩ = some (.int .i64 ((L.getD k 0 : Nat) + 1 : Int)) from (hb.cell (p := ⟨g1, k, none⟩) (cell_lt (q1 k hk))).trans (q1 k hk))
    clear h hl q1 hOwn
    go_enter Try.func26, Try.ntmps26
    go_wp2
    go_loopw [5, 6] (fun ov i wr => ∃ (k x : Nat), k ≤ n ∧ x ≤ k ∧ i = .int .i64 (k : Nat) ∧ Hid (wr.ownsRow W.heap.size 3 1 ov x (ivs (Hpp.wot (L.take k) v)) ∧ Below W.heap.size W wr)) (fun _ i _ => n - (intOf i).toNat)
    case atStart => exact ⟨0, 0, Nat.zero_le _, Nat.le_refl _, rfl, hid ⟨World.ownsRow_nil _ _ _ _, Below.refl _ _⟩⟩
    case round =>
      obtain ⟨k, x, hk, hx, rfl, HR⟩ := hrel
      by_cases hlt : k < n
      · have hlt' : (k : Int) < n := by omega
        have x1 := HQ.out _ HR.out.2 k hlt
        have HT := hid (Hpp.wot_take (v := v) (by rw [HL.out]; exact hlt))
        obtain ⟨oo, cc, hoo⟩ := own_slc HR.out.1
        by_cases hv : ((L.getD k 0 : Nat) : Int) + 1 = v
        · have HN := hid (show wr.ownsRow W.heap.size 3 1 (.slice oo x cc) x (ivs (Hpp.wot (L.take (k + 1)) v)) ∧ Below W.heap.size W wr from by rw [HT.out, if_pos hv, ← hoo]; exact HR.out)
          have hb : ((((L.getD k 0 : Nat) : Int) + 1) != v) = false := by simpa using hv
          generalize ((L.getD k 0 : Nat) : Int) + 1 = z at x1 hb
          clear hv HT HR
          subst hoo
          go_wp2
          go_roundw
          case rel => exact ⟨k + 1, x, by omega, by omega, by go_num, HN⟩
          case measure => simp only [intOf]; omega
        · obtain ⟨g, c9, X, hr, ho, hbl⟩ := app3 HR.out.1 HR.out.2.size (L.getD k 0) (by omega)
          have HN := hid (show X.ownsRow W.heap.size 3 1 (.slice (some ⟨g, 0, none⟩) (x + 1) c9) (x + 1) (ivs (Hpp.wot (L.take (k + 1)) v)) ∧ Below W.heap.size W X from ⟨by rw [HT.out, if_neg hv]; exact ho, HR.out.2.trans hbl⟩)
          have hb : ((((L.getD k 0 : Nat) : Int) + 1) != v) = true := by simpa using hv
          rw [hoo] at hr
          have HRN := hid hr
          generalize ((L.getD k 0 : Nat) : Int) + 1 = z at x1 hb HRN
          clear hv HT HR hr ho hbl
          subst hoo
          go_wp2_with (at_builtin; refine wpList_append_run rfl (.tmp 19) (.tmp 24) 42 42 rfl rfl rfl HRN.out ?_)
          go_roundw
          case rel => exact ⟨k + 1, x + 1, by omega, by omega, by go_num, HN⟩
          case measure => simp only [intOf]; omega
      · have hge : ¬ (k : Int) < n := by omega
        obtain ⟨oo, cc, hoo⟩ := own_slc HR.out.1
        have HO := hid (show WotOut W (Hpp.wot L v) (.returned (.slice oo x cc)) wr from by
          have h1 := HR.out.1
          rw [hoo, List.take_of_length_le (by rw [HL.out]; omega)] at h1
          have hx := ivs_len h1
          rw [← hx] at h1 ⊢
          exact ⟨oo, cc, rfl, h1, HR.out.2⟩)
        subst hoo
        go_wp2
        go_ret
        exact HO.out
end Go.Proofs.Ytjbnkkjihcoojaa
