/- slices.Clone; Order; Copy. -/
import Derived.Test.YtjbnkkjihcoojaaOrd
namespace Go.Proofs.Ytjbnkkjihcoojaa
open Go.RowKit Go.Maps
set_option linter.unusedVariables false
set_option maxRecDepth 100000

def CloneOut (el : TypeId) (w : World) (xs : List Value) (n : Nat) (e : Ending) (w' : World) : Prop :=
  ∃ o k, e = .returned (.slice o n k) ∧ w'.ownsRow w.heap.size el 1 (.slice o n k) n xs ∧ Below w.heap.size w w'

set_option maxHeartbeats 2000000 in
theorem clone30 (a : Option Addr) (n c : Nat) (xs : List Value) (w : World) (hb : n ≤ 16777216) (hx : w.ownsRow 0 3 1 (.slice a n c) n xs) (h1 : ∀ u ∈ xs, u.oneCell' = true) :
    Calls Try.prog 30 #[.slice a n c] w fun e w' => CloneOut 3 w xs n e w' := by
  have hn : xs.length = n := by have := hx.1; omega
  cases a with
  | none =>
    obtain rfl : n = 0 := by
      rcases hx.2 with ⟨_, h0⟩ | ⟨g, c', cur, e1, _⟩
      · exact h0
      · cases e1
    obtain rfl : xs = [] := List.eq_nil_of_length_eq_zero hn
    have HF : Hid (CloneOut 3 w [] 0 (.returned (.slice none 0 0)) w) := ⟨none, 0, rfl, World.ownsRow_nil _ _ _ _, Below.refl _ _⟩
    clear hx hn
    have hnil : ∀ W, (binOp .eql 42 (.slice none 0 c) (.slice none 0 0)).run Try.prog W = .ok (.bool true) W := fun W => by kernel_rfl
    go_enter Try.func30, Try.ntmps30
    go_wp2
    go_ret
    exact HF.out
  | some ad =>
    obtain ⟨i0, hi, hz⟩ := Option.map_eq_some_iff.1 info3
    simp only [Prod.mk.injEq] at hz
    have hB1 := below_box w (.cells #[] 3)
    have hx1 : (w.alloc (.cells #[] 3)).heap[w.heap.size]? = some (.cells #[] 3 (0, 0)) := heap_alloc_new _ _
    have hl1 := own_below hx hB1
    have hs1 : w.heap.size ≤ (w.alloc (.cells #[] 3)).heap.size := by simp
    generalize hW1 : w.alloc (.cells #[] 3) = W1 at hB1 hx1 hl1 hs1
    have ho1 : W1.ownsRow w.heap.size 3 1 (.slice (some ⟨w.heap.size, 0, none⟩) 0 0) 0 [] := ⟨rfl, .inr ⟨w.heap.size, 0, #[], rfl, Nat.le_refl _, hx1, Nat.le_refl _, Nat.zero_le _, rfl, rfl⟩⟩
    obtain ⟨v2, B, hr, ho2, hgb, _, _⟩ := run_append_own_at (P := Try.prog) W1 w.heap.size 42 42 3 i0 _ 1 8 Try.underlying42 hi hz.1 hz.2.1 hz.2.2 rfl (by decide) (.slice (some ⟨w.heap.size, 0, none⟩) 0 0) 0 [] ho1 ad n c xs (by omega) (fun j u hu => by
      have hj : j < xs.length := by
        rcases Nat.lt_or_ge j xs.length with h' | h'
        · exact h'
        · rw [List.getElem?_eq_none h'] at hu; cases hu
      obtain ⟨g, c', cur, e1, _⟩ := own_some hl1 (by omega)
      cases e1
      have := World.ownsRow.cellAt hl1 j (by omega)
      rw [show (⟨g, 0, none⟩ : Addr).add j = ⟨g, j, none⟩ by simp [Addr.add]; omega, this]
      exact hu) h1 (by simp [maxLen]; omega) (by omega) (by omega)
    obtain ⟨o, k, rfl⟩ := own_slc ho2
    rw [Nat.zero_add] at hr ho2
    rw [List.nil_append] at ho2
    have HR := hid hr
    have HF : Hid (CloneOut 3 w xs n (.returned (.slice o n k)) B) := ⟨o, k, rfl, ho2, by
      refine hB1.trans ?_
      exact ⟨hgb.os, hgb.tape, hgb.output, hgb.size, fun q hq => hgb.block q (by omega) (by show some q ≠ some w.heap.size; intro e; injection e with e; omega)⟩⟩
    clear hi hz hB1 hx1 hl1 hs1 ho1 hr ho2 hgb hx hn
    have hnil : ∀ W, (binOp .eql 42 (.slice (some ad) n c) (.slice none 0 0)).run Try.prog W = .ok (.bool false) W := fun W => by kernel_rfl
    go_enter Try.func30, Try.ntmps30
    go_wp2_with (at_builtin; refine wpList_append_run rfl (.tmp 5) (.tmp 6) 42 42 rfl rfl rfl HR.out ?_)
    go_ret
    exact HF.out

set_option maxHeartbeats 2000000 in
theorem clone31 (a : Option Addr) (n c : Nat) (xs : List Value) (w : World) (hb : n ≤ 16777216) (hx : w.ownsRow 0 2 1 (.slice a n c) n xs) (h1 : ∀ u ∈ xs, u.oneCell' = true) :
    Calls Try.prog 31 #[.slice a n c] w fun e w' => CloneOut 2 w xs n e w' := by
  have hn : xs.length = n := by have := hx.1; omega
  cases a with
  | none =>
    obtain rfl : n = 0 := by
      rcases hx.2 with ⟨_, h0⟩ | ⟨g, c', cur, e1, _⟩
      · exact h0
      · cases e1
    obtain rfl : xs = [] := List.eq_nil_of_length_eq_zero hn
    have HF : Hid (CloneOut 2 w [] 0 (.returned (.slice none 0 0)) w) := ⟨none, 0, rfl, World.ownsRow_nil _ _ _ _, Below.refl _ _⟩
    clear hx hn
    have hnil : ∀ W, (binOp .eql 54 (.slice none 0 c) (.slice none 0 0)).run Try.prog W = .ok (.bool true) W := fun W => by kernel_rfl
    go_enter Try.func31, Try.ntmps31
    go_wp2
    go_ret
    exact HF.out
  | some ad =>
    obtain ⟨i0, hi, hz⟩ := Option.map_eq_some_iff.1 info2
    simp only [Prod.mk.injEq] at hz
    have hB1 := below_box w (.cells #[] 2)
    have hx1 : (w.alloc (.cells #[] 2)).heap[w.heap.size]? = some (.cells #[] 2 (0, 0)) := heap_alloc_new _ _
    have hl1 := own_below hx hB1
    have hs1 : w.heap.size ≤ (w.alloc (.cells #[] 2)).heap.size := by simp
    generalize hW1 : w.alloc (.cells #[] 2) = W1 at hB1 hx1 hl1 hs1
    have ho1 : W1.ownsRow w.heap.size 2 1 (.slice (some ⟨w.heap.size, 0, none⟩) 0 0) 0 [] := ⟨rfl, .inr ⟨w.heap.size, 0, #[], rfl, Nat.le_refl _, hx1, Nat.le_refl _, Nat.zero_le _, rfl, rfl⟩⟩
    obtain ⟨v2, B, hr, ho2, hgb, _, _⟩ := run_append_own_at (P := Try.prog) W1 w.heap.size 54 54 2 i0 _ 1 8 Try.underlying54 hi hz.1 hz.2.1 hz.2.2 rfl (by decide) (.slice (some ⟨w.heap.size, 0, none⟩) 0 0) 0 [] ho1 ad n c xs (by omega) (fun j u hu => by
      have hj : j < xs.length := by
        rcases Nat.lt_or_ge j xs.length with h' | h'
        · exact h'
        · rw [List.getElem?_eq_none h'] at hu; cases hu
      obtain ⟨g, c', cur, e1, _⟩ := own_some hl1 (by omega)
      cases e1
      have := World.ownsRow.cellAt hl1 j (by omega)
      rw [show (⟨g, 0, none⟩ : Addr).add j = ⟨g, j, none⟩ by simp [Addr.add]; omega, this]
      exact hu) h1 (by simp [maxLen]; omega) (by omega) (by omega)
    obtain ⟨o, k, rfl⟩ := own_slc ho2
    rw [Nat.zero_add] at hr ho2
    rw [List.nil_append] at ho2
    have HR := hid hr
    have HF : Hid (CloneOut 2 w xs n (.returned (.slice o n k)) B) := ⟨o, k, rfl, ho2, by
      refine hB1.trans ?_
      exact ⟨hgb.os, hgb.tape, hgb.output, hgb.size, fun q hq => hgb.block q (by omega) (by show some q ≠ some w.heap.size; intro e; injection e with e; omega)⟩⟩
    clear hi hz hB1 hx1 hl1 hs1 ho1 hr ho2 hgb hx hn
    have hnil : ∀ W, (binOp .eql 54 (.slice (some ad) n c) (.slice none 0 0)).run Try.prog W = .ok (.bool false) W := fun W => by kernel_rfl
    go_enter Try.func31, Try.ntmps31
    go_wp2_with (at_builtin; refine wpList_append_run rfl (.tmp 5) (.tmp 6) 54 54 rfl rfl rfl HR.out ?_)
    go_ret
    exact HF.out

theorem ivs_one (vs : List Nat) : ∀ u ∈ ivs vs, u.oneCell' = true := by
  intro u hu; obtain ⟨x, _, rfl⟩ := List.mem_map.1 hu; rfl
theorem iss_one (sc : List Int) : ∀ u ∈ iss sc, u.oneCell' = true := by
  intro u hu; obtain ⟨x, _, rfl⟩ := List.mem_map.1 hu; rfl
set_option maxHeartbeats 1000000 in
theorem ins61_none (o : Option Addr) (cap : Nat) (cv : Value) (W : World) :
    Calls Try.prog 61 #[.slice o 0 cap, .int .i64 0, .int .i64 0, cv] W fun e w' => e = .returned (.tuple #[]) ∧ w' = W := by
  go_enter Try.func61, Try.ntmps61
  go_wp2
  go_loopw [8] (fun iv wr => iv = .int .i64 1 ∧ wr = W) (fun _ _ => 0)
  case atStart => exact ⟨rfl, rfl⟩
  case round =>
    obtain ⟨rfl, hw⟩ := hrel
    rw [hw]
    clear hw
    go_wp2
    go_end0
    exact ⟨rfl, rfl⟩
set_option maxHeartbeats 1000000 in
theorem pdq54_none (o : Option Addr) (cap : Nat) (lm : Int) (cv : Value) (W : World) :
    Calls Try.prog 54 #[.slice o 0 cap, .int .i64 0, .int .i64 0, .int .i64 lm, cv] W fun e w' => e = .returned (.tuple #[]) ∧ w' = W := by
  have C := hid (ins61_none o cap cv W)
  go_enter Try.func54, Try.ntmps54
  go_wp2
  go_loopw [1, 2] (fun av bv wr => av = .int .i64 0 ∧ bv = .int .i64 0 ∧ wr = W) (fun _ _ _ => 0)
  case atStart => exact ⟨rfl, rfl, rfl⟩
  case round =>
    obtain ⟨rfl, rfl, hw⟩ := hrel
    rw [hw]
    clear hw
    go_wp2_with (go_at_call 61; refine C.out.mono ?_; rintro e w4 ⟨rfl, hw4⟩; rw [hw4]; clear hw4)
    refine bodyPost_ret (results_none rfl _ _ _) rfl ?_
    exact ⟨rfl, rfl⟩
set_option maxHeartbeats 1000000 in
theorem sort45_none (o : Option Addr) (cap : Nat) (cv : Value) (W : World) :
    Calls Try.prog 45 #[.slice o 0 cap, cv] W fun e w' => e = .returned (.tuple #[]) ∧ w' = W := by
  have CL := hid (len55 0 W (by omega))
  have C := hid (pdq54_none o cap (Lib.bitLen 0 : Nat) cv W)
  rw [show ((0 : Nat) : Int) = 0 from rfl] at CL
  generalize ((Lib.bitLen 0 : Nat) : Int) = lm at *
  go_enter Try.func45, Try.ntmps45
  go_wp2_with (first
    | (go_at_call 55; refine CL.out.mono ?_; rintro e w4 ⟨rfl, hw4⟩; rw [hw4]; clear hw4)
    | (go_at_call 54; refine C.out.mono ?_; rintro e w4 ⟨rfl, hw4⟩; rw [hw4]; clear hw4))
  go_end0
  exact ⟨rfl, rfl⟩
def OrdOut (W : World) (L : List Nat) (e : Ending) (w' : World) : Prop := ∃ o c, e = .returned (.slice o L.length c) ∧ w'.ownsRow W.heap.size 3 1 (.slice o L.length c) L.length (ivs L) ∧ Below W.heap.size W w'
/-- Sorting, of so many. -/
def Sorts (k : Nat) : Prop := ∀ {B : World} {blk cap : Nat} {sv : Value} {n : Nat} {sc : List Int} {ds : List Nat} {W : World}, So B blk cap sv n sc ds W → n ≤ 1048576 → ds.length = k →
    Calls Try.prog 45 #[.slice (some ⟨blk, 0, none⟩) k cap, cmpv sv] W fun e w' => e = .returned (.tuple #[]) ∧ InsOut B blk cap sv n sc ds 0 k w'
theorem sorts_few {k : Nat} (h : k ≤ 12) : Sorts k := fun hs hn hk => sort45_few hs hn hk h
set_option maxHeartbeats 1000000 in
theorem order20_of {M : Nat → Prop} {hb n : Nat} {sc : List Int} {L : List Nat} {W : World} (H : Hx M hb n sc L W) (hst : Sorts L.length) :
    Calls Try.prog 20 #[.pointer (some ⟨hb, 0, none⟩)] W fun e w' => OrdOut W L e w' := by
  obtain ⟨sv, pv, lv, vs, pl, h1, h2⟩ := H
  obtain ⟨o, c, rfl⟩ := own_slc h1.row
  have hln := h2.len
  have hmx := h2.mx
  have hpl := h2.pm.length_eq
  have C1 := hid (clone30 o vs.length c (ivs vs) W (by omega) h1.row (ivs_one _))
  have c1 := row_cell h1.blk 1
  have c0 := row_cell h1.blk 0
  obtain ⟨o1, k1, rfl⟩ := own_slc h1.scs
  have HSort := hid (fun (w2 : World) (o2 : Option Addr) (k2 : Nat) (ho : w2.ownsRow W.heap.size 3 1 (.slice o2 vs.length k2) vs.length (ivs vs)) (hb2 : Below W.heap.size W w2) => show Calls Try.prog 45 #[.slice o2 vs.length k2, cmpv (.slice o1 n k1)] w2 fun e w' => e = .returned (.tuple #[]) ∧ OrdOut W L (.returned (.slice o2 vs.length k2)) w' from by
    rcases Nat.eq_zero_or_pos vs.length with h0 | h0
    · rw [h0] at ho ⊢
      refine (sort45_none o2 k2 _ w2).mono ?_
      rintro e w' ⟨rfl, rfl⟩
      obtain rfl : L = [] := List.eq_nil_of_length_eq_zero (by omega)
      obtain rfl : vs = [] := List.eq_nil_of_length_eq_zero h0
      exact ⟨rfl, o2, k2, rfl, ho, hb2⟩
    · obtain ⟨g, c', cur, e1, hg1, hg2, _⟩ := own_some ho h0
      cases e1
      have hso : So w2 g k2 (.slice o1 n k1) n sc vs w2 := ⟨own_base ho (Nat.zero_le _), Sc.below (W := W) h1.scs hb2, fun e => by have := h1.lts.2.1 g e; omega, Fq.refl _ _, fun u hu => h2.pls.lt hu, h2.pls.nodup⟩
      have hS := hst hso h2.mx hpl
      rw [← hpl] at hS
      refine hS.mono ?_
      rintro e w' ⟨rfl, ds', k1', k2', k3'⟩
      obtain rfl : ds' = L := Hpp.srt_uniq (by rw [← k2'.len] at k3'; exact k3'.srt) h2.srt (k2'.1.trans h2.pm)
      refine ⟨rfl, some ⟨g, 0, none⟩, k2, by rw [hpl], ?_, ?_⟩
      · have hr := k1'.row
        refine ⟨hr.1, .inr ?_⟩
        rcases hr.2 with ⟨e2, _⟩ | ⟨g3, c3, cur3, e3, _, h4⟩
        · cases e2
        · cases e3; exact ⟨g, _, cur3, rfl, hg1, h4⟩
      · exact hb2.trans (k1'.fr.below (by have := hb2.size; omega) (fun q hq => by omega)))
  clear h1 h2 hpl hln
  generalize vs.length = m at *
  go_enter Try.func20, Try.ntmps20
  go_wp2_with (fail)
  go_at_call 30
  refine C1.out.mono ?_
  rintro e w2 ⟨o2, k2, rfl, ho2, hb2⟩
  have HB2 := hid hb2
  have C2 := hid (HSort.out w2 o2 k2 ho2 hb2)
  have d0 : w2.cell? ⟨hb, 0, none⟩ = some (.slice o1 n k1) := (hb2.cell (p := ⟨hb, 0, none⟩) (cell_lt c0)).trans c0
  clear ho2 hb2 C1 HSort
  go_wp2_with (fail)
  go_at_call 45
  refine C2.out.mono ?_
  rintro e w3 ⟨rfl, h3⟩
  have H3 := hid h3
  clear h3 C2
  go_wp2
  go_ret
  exact H3.out
end Go.Proofs.Ytjbnkkjihcoojaa
