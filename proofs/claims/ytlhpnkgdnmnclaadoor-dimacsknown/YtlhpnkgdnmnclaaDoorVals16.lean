/- Values, walked. -/
import Derived.Test.YtlhpnkgdnmnclaaDoorVals
namespace Go.Proofs.YtlhpnkgdnmnclaaDoor
open Go.RowKit
set_option linter.unusedVariables false

set_option maxRecDepth 100000 in
set_option maxHeartbeats 4000000 in
theorem values16 (a : Option Addr) (n cap : Nat) (m : List Bool) (w : World) (hn : m.length = n) (hN : n ≤ 4294967296) (hm : Bools w a m)
    (htab : Lib.TabBelow Tryd.prog w.heap.size w "internal/strconv.uint64pow10" .u64 Lib.pow10Tab) :
    Calls Tryd.prog 16 #[.slice a n cap] w fun e w' => e = .returned (.string ⟨(Dim.valuesB m).toArray⟩) ∧ Below w.heap.size w w' := by
  obtain ⟨W2, hW2⟩ : ∃ W2, (w.alloc (.cells #[.int .u8 118] 5)).alloc (.cells #[.slice (some ⟨w.heap.size, 0, none⟩) 1 1, .int .i64 0] 76) = W2 := ⟨_, rfl⟩
  have hB2 : Below w.heap.size w W2 := by rw [← hW2]; exact ((Below.refl _ w).alloc (Nat.le_refl _) _).alloc (by simp) _
  have hS2 : W2.heap.size = w.heap.size + 2 := by rw [← hW2]; simp
  have hP2 : Pg w.heap.size (w.heap.size + 1) W2 (.slice (some ⟨w.heap.size, 0, none⟩) 1 1) [118] 0 := by
    refine ⟨?_, by omega, rfl, .inr ⟨w.heap.size, 1, #[.int .u8 118], rfl, Nat.le_refl _, ?_, Nat.le_refl _, by simp [maxLen], rfl, rfl⟩⟩
    · rw [← hW2]
      have := World.alloc_heap_new (w.alloc (.cells #[.int .u8 118] 5)) (.cells #[.slice (some ⟨w.heap.size, 0, none⟩) 1 1, .int .i64 0] 76)
      simpa using this
    · rw [← hW2, Below.heap_alloc _ _ _ (by simp)]
      exact World.alloc_heap_new w _
  have HM := hid hm
  have HN := hid hn
  have HT := hid htab
  have HW := hid hW2
  have HP2 := hid hP2
  have HB2 := hid hB2
  have HIN := hid (fun k hk => Dim.pages_inv m k hk (by rw [hn]; exact hN))
  clear hm htab hW2 hP2 hB2 hn
  obtain ⟨i0, hi, hz0, hz1, hz2⟩ := info_parts info5'
  go_enter Tryd.func16, Tryd.ntmps16
  go_wp2
  rw [HW.out]
  clear HW
  go_loopw [11] (fun i wr => ∃ (k : Nat) (bv : Value), k ≤ n ∧ i = .int .i64 k ∧ Hid (Pg w.heap.size (w.heap.size + 1) wr bv (Dim.pages ([118], 0) ((Dim.valInts m).take k)).1 (Dim.pages ([118], 0) ((Dim.valInts m).take k)).2) ∧ Hid (Below w.heap.size w wr)) (fun i _ => n - (intOf i).toNat)
  case atStart => exact ⟨0, _, Nat.zero_le _, rfl, by simpa [Dim.pages] using HP2, HB2⟩
  case round =>
    obtain ⟨k, bv, hk, rfl, HP, HB⟩ := hrel
    obtain ⟨q1, q2, q3⟩ := HIN.out k (by rw [HN.out]; exact hk)
    have hsz : w.heap.size ≤ wr.heap.size := HB.out.size
    by_cases hlt : k < n
    · obtain ⟨b, o, rfl, hc⟩ := HM.out.at (k := k) (by rw [HN.out]; exact hlt)
      have hlt' : (k : Int) < n := by omega
      have hb : b < w.heap.size := by
        rcases HM.out with h | ⟨b', o', e, hl, _⟩
        · rw [h] at HN; have := HN.out; simp at this; omega
        · cases e; exact hl
      have hc2 : wr.cell? ⟨b, o + k, none⟩ = some (.bool (m.getD k false)) := (HB.out.cell (p := ⟨b, o + k, none⟩) hb).trans hc
      have hv : -9223372036854775808 ≤ Dim.valI m k ∧ Dim.valI m k ≤ 9223372036854775807 := by unfold Dim.valI; split <;> omega
      have C34 := hid (put34 w.heap.size (w.heap.size + 1) _ (Dim.valI m k) bv _ wr hsz q1 q2 (by omega) hv.1 hv.2 HP.out (HT.out wr HB.out))
      rw [show (Dim.putX (Dim.pages ([118], 0) ((Dim.valInts m).take k)).1 (Dim.pages ([118], 0) ((Dim.valInts m).take k)).2 (Dim.valI m k)) = (Dim.pages ([118], 0) ((Dim.valInts m).take (k + 1))).1 by rw [Dim.valInts_take m k (by rw [HN.out]; exact hlt), Dim.pages_snoc],
        show (Dim.putL (Dim.pages ([118], 0) ((Dim.valInts m).take k)).1 (Dim.pages ([118], 0) ((Dim.valInts m).take k)).2 (Dim.valI m k)) = (Dim.pages ([118], 0) ((Dim.valInts m).take (k + 1))).2 by rw [Dim.valInts_take m k (by rw [HN.out]; exact hlt), Dim.pages_snoc]] at C34
      have hvi : Dim.valI m k = if m.getD k false then (k : Int) + 1 else -((k : Int) + 1) := rfl
      clear hc q1 q2 q3 hv HP
      cases hmk : m.getD k false
      · rw [hmk] at hc2 hvi
        rw [hvi] at C34
        simp only [Bool.false_eq_true, if_false] at C34
        clear hvi hmk
        go_wp2_with (go_at_call 34; refine C34.out.mono ?_; clear C34; rintro e W3 ⟨⟨v, rfl⟩, ⟨bv', hp3⟩, hb3⟩; replace hp3 := hid hp3; replace hb3 := hid hb3)
        go_roundw
        case rel => exact ⟨k + 1, bv', by omega, by go_num, hp3, hid (HB.out.trans hb3.out)⟩
        case measure => simp [intOf]; omega
      · rw [hmk] at hc2 hvi
        rw [hvi] at C34
        simp only [if_true] at C34
        clear hvi hmk
        go_wp2_with (go_at_call 34; refine C34.out.mono ?_; clear C34; rintro e W3 ⟨⟨v, rfl⟩, ⟨bv', hp3⟩, hb3⟩; replace hp3 := hid hp3; replace hb3 := hid hb3)
        go_roundw
        case rel => exact ⟨k + 1, bv', by omega, by go_num, hp3, hid (HB.out.trans hb3.out)⟩
        case measure => simp [intOf]; omega
    · have hlt' : ¬ (k : Int) < n := by omega
      obtain rfl : k = n := by omega
      have htk : (Dim.valInts m).take k = Dim.valInts m := List.take_of_length_le (by simp [Dim.valInts, HN.out])
      rw [htk] at q1 q2 q3 HP
      have C34 := hid (put34 w.heap.size (w.heap.size + 1) _ 0 bv _ wr hsz q1 q2 (by omega) (by omega) (by omega) HP.out (HT.out wr HB.out))
      have hpx := Dim.putX_len (Dim.pages ([118], 0) (Dim.valInts m)).1 (Dim.pages ([118], 0) (Dim.valInts m)).2 0 (by omega) (by omega)
      have hpg := Dim.pages_snoc ([118], 0) (Dim.valInts m) 0
      rw [show (Dim.putX (Dim.pages ([118], 0) (Dim.valInts m)).1 (Dim.pages ([118], 0) (Dim.valInts m)).2 0) = (Dim.pages ([118], 0) (Dim.valInts m ++ [0])).1 by rw [hpg],
        show (Dim.putL (Dim.pages ([118], 0) (Dim.valInts m)).1 (Dim.pages ([118], 0) (Dim.valInts m)).2 0) = (Dim.pages ([118], 0) (Dim.valInts m ++ [0])).2 by rw [hpg]] at C34
      rw [show (Dim.putX (Dim.pages ([118], 0) (Dim.valInts m)).1 (Dim.pages ([118], 0) (Dim.valInts m)).2 0) = (Dim.pages ([118], 0) (Dim.valInts m ++ [0])).1 by rw [hpg]] at hpx
      have hvb : Dim.valuesB m = (Dim.pages ([118], 0) (Dim.valInts m ++ [0])).1 ++ [10] := rfl
      have HVB := hid hvb
      generalize hX : (Dim.pages ([118], 0) (Dim.valInts m ++ [0])).1 = X at C34 hpx HVB
      generalize (Dim.pages ([118], 0) (Dim.valInts m ++ [0])).2 = L at C34
      have hX0 : 0 < X.length := by omega
      have hX1 : X.length ≤ 1 + 24 * k + 24 := by omega
      clear hpx hpg hvb q1 q2 q3 HP htk hX
      go_wp2_with (first
        | (go_at_call 34; refine C34.out.mono ?_; clear C34; rintro e W3 ⟨⟨v, rfl⟩, ⟨bv', hp3⟩, hb3⟩
           obtain ⟨g, cp, rfl⟩ := hp3.form hX0
           have c0 := row_cell hp3.blk 0
           simp only [List.getElem?_toArray, List.getElem?_cons_zero] at c0
           have hs3 : w.heap.size ≤ W3.heap.size := Nat.le_trans hsz hb3.size
           replace hp3 := hid hp3
           replace hb3 := hid hb3)
        | (at_builtin; refine wpList_append_lies _ rfl _ _ 22 rfl w.heap.size 5 i0 (.int .u8 0) 1 1 Tryd.underlying22 hi hz0 hz1 hz2 rfl (by decide) _ X.length (Lib.byteCells X) rfl (hp3.out.row.alloc _) ⟨W3.heap.size, 0, none⟩ 1 1 [.int .u8 10] rfl rfl (news5 rfl) ?c2 (by decide) ?c3 ?c4 ?c5 (W3.heap.size + 1) ?c6 ?_))
      case c2 => intro u hu; simp at hu; subst hu; rfl
      case c3 => simp [maxLen]; omega
      case c4 => omega
      case c5 => simp; omega
      case c6 => simp
      intro g1 cap1 w1 hown1 hgrow1 hat1 hlt1
      have hown2 : w1.ownsRow w.heap.size 5 1 (.slice (some ⟨g1, 0, none⟩) (X.length + 1) cap1) (X.length + 1) (Lib.byteCells (X ++ [10])) := by rw [Lib.byteCells_append]; exact hown1
      have cv := row_string hown2 (by omega)
      have hBel : Below w.heap.size w w1 := by
        refine (HB.out.trans hb3.out).trans (((Below.refl _ W3).alloc hs3 _).grown hgrow1 (by simp; omega) (fun q hq => ?_))
        rcases hp3.out.row.2 with ⟨e, _⟩ | ⟨g', cap', cur, e, h1, _⟩
        · cases e
        · cases e; simp [Value.ownBlock] at hq; omega
      have HBel := hid hBel
      clear hBel hown1 hown2 hgrow1 hat1 hlt1
      go_wp2
      go_ret
      exact ⟨by rw [HVB.out]; rfl, HBel.out⟩
end Go.Proofs.YtlhpnkgdnmnclaaDoor
