/- The statements' own trial. -/
import Derived.Test.YtblogmelmpkfhaaCol4
import Derived.Test.YtblogmelmpkfhaaPut3
namespace Go.Proofs.Ytblogmelmpkfhaa
open Go.RowKit Go.Maps
set_option linter.unusedVariables false

theorem put13 {n ab lim : Nat} {M : List Arn.It} {W : World} (hA : Arx n ab lim M W) (id : Int) (a : Option Addr) (k cap : Nat) (c : List Int) (red : Bool) (lbd : Int) (hk : c.length = k) (hK : k ≤ 35184372088832) (hst : Stays n W a c) :
    Calls Try.prog 13 #[.pointer (some ⟨ab, 0, none⟩), .int .i64 id, .slice a k cap, .bool red, .int .i64 lbd] W fun e w' => PutOut n ab lim W M id c red lbd e w' := by
  by_cases h1 : id < 1 ∨ 4611686018427387903 < id ∨ Arn.small lbd = false
  · exact put13_arg hA id a k cap c red lbd h1
  · by_cases h2 : (0 : Int) ∈ c
    · exact put13_lit hA id a k cap c red lbd h1 hk hK hst.here h2
    · by_cases h3 : lim < Arn.size M + 4 + c.length
      · exact put13_full hA id a k cap c red lbd h1 hk hK hst.here h2 h3
      · exact put13_ok hA id a k cap c red lbd h1 hk hst h2 h3
/-- A row of literals in a block of its own. -/
theorem lits_blk {W : World} {g : Nat} {xs : List Int} {cs : Array Value} {t : TypeId} {fr : Nat × Nat} (hb : W.heap[g]? = some (.cells cs t fr)) (hc : ∀ j, j < xs.length → cs[j]? = some (.int .i32 (xs.getD j 0))) (hx : ∀ x ∈ xs, -2147483648 ≤ x ∧ x ≤ 2147483647) : Lits W (some ⟨g, 0, none⟩) xs :=
  ⟨hx, .inr ⟨g, 0, rfl, lt_of_blk hb, fun j hj => by rw [Nat.zero_add, row_cell hb]; exact hc j hj⟩⟩
theorem stays_blk {n : Nat} {W : World} {g : Nat} {xs : List Int} {cs : Array Value} (hb : W.heap[g]? = some (.cells cs 48 (0, 0))) (hc : ∀ j, j < xs.length → cs[j]? = some (.int .i32 (xs.getD j 0))) (hx : ∀ x ∈ xs, -2147483648 ≤ x ∧ x ≤ 2147483647) : Stays n W (some ⟨g, 0, none⟩) xs :=
  fun w' hf => lits_blk (hf.block g _ hb (.inr (by rintro (h | h) <;> cases h))) hc hx
theorem put_ok {M : List Arn.It} {lim : Nat} {id : Int} {c : List Int} {red : Bool} {lbd : Int} (h : Arn.putE M lim id c lbd = 0) : Arn.put M lim id c red lbd = M ++ [Arn.newIt id c red lbd] ∧ Arn.putR M lim id c lbd = Arn.size M := by
  unfold Arn.put Arn.putR
  rw [if_pos h, if_pos h]
  exact ⟨rfl, rfl⟩
def W1 : List Arn.It := [Arn.newIt 7 [1, -2, 3] true 2]
def W2 : List Arn.It := [Arn.newIt 7 [1, -2, 3] true 2, Arn.newIt 8 [4, 5] false 0]
def W3 : List Arn.It := [{ Arn.newIt 7 [1, -2, 3] true 2 with dead := true }, Arn.newIt 8 [4, 5] false 0]
def W4 : List Arn.It := [Arn.newIt 8 [4, 5] false 0]
theorem Did.arx {n ab lim : Nat} {W w' : World} {M : List Arn.It} (h : Did n ab lim W M w') : Arx n ab lim M w' := h.1

set_option maxRecDepth 100000 in
set_option maxHeartbeats 4000000 in
theorem works12 (W : World) : Calls Try.prog 12 #[] W fun e w' => e = .returned (.bool true) ∧ Below W.heap.size W w' := by
  have C8 := hid (new8 100 W)
  go_enter Try.func12, Try.ntmps12
  go_wp2_with (fail)
  go_at_call 8
  refine C8.out.mono ?_
  rintro e w1 ⟨⟨ab, rfl, hA1⟩, hb1⟩
  rw [show Arn.limOf 100 = 100 by decide] at hA1
  have hA1' : Arx W.heap.size ab 100 [] (w1.alloc (.cells #[.int .i32 1, .int .i32 (-2), .int .i32 3] 48)) := hA1.below (below_box _ _)
  have C13 := hid (put13 hA1' 7 (some ⟨w1.heap.size, 0, none⟩) 3 3 [1, -2, 3] true 2 rfl (by decide) (stays_blk (heap_alloc_new w1 _) (by intro j hj; match j, hj with | 0, _ => rfl | 1, _ => rfl | 2, _ => rfl) (by decide)))
  have HB1 := hid (hb1.trans ((Below.refl W.heap.size w1).alloc hb1.size (.cells #[.int .i32 1, .int .i32 (-2), .int .i32 3] 48)))
  have hns := hid hb1.size
  clear C8 hA1 hA1' hb1
  go_wp2_with (fail)
  go_at_call 13
  refine C13.out.mono ?_
  rintro e w2 ⟨rfl, hA2, hF2⟩
  rw [(put_ok (red := true) (show Arn.putE [] 100 7 [1, -2, 3] 2 = 0 by decide)).1, show [] ++ [Arn.newIt 7 [1, -2, 3] true 2] = W1 from rfl] at hA2
  rw [show Arn.putR [] 100 7 [1, -2, 3] 2 = 0 by decide, show Arn.putE [] 100 7 [1, -2, 3] 2 = 0 by decide]
  have HB2 := hid (HB1.out.trans (hF2.below (by simp; exact Nat.le_trans hns.out (Nat.le_succ _))))
  have hA2' : Arx W.heap.size ab 100 W1 (w2.alloc (.cells #[.int .i32 4, .int .i32 5] 48)) := hA2.below (below_box _ _)
  have C13b := hid (put13 hA2' 8 (some ⟨w2.heap.size, 0, none⟩) 2 2 [4, 5] false 0 rfl (by decide) (stays_blk (heap_alloc_new w2 _) (by intro j hj; match j, hj with | 0, _ => rfl | 1, _ => rfl) (by decide)))
  have HB3 := hid (HB2.out.trans ((Below.refl W.heap.size w2).alloc HB2.out.size (.cells #[.int .i32 4, .int .i32 5] 48)))
  clear C13 HB1 hA2 hA2' hF2
  go_wp2_with (fail)
  go_at_call 13
  refine C13b.out.mono ?_
  rintro e w3 ⟨rfl, hA3, hF3⟩
  rw [(put_ok (red := false) (show Arn.putE W1 100 8 [4, 5] 0 = 0 by decide)).1, show W1 ++ [Arn.newIt 8 [4, 5] false 0] = W2 from rfl] at hA3
  rw [show Arn.putR W1 100 8 [4, 5] 0 = 7 by decide, show Arn.putE W1 100 8 [4, 5] 0 = 0 by decide]
  have HB4 := hid (HB3.out.trans (hF3.below (by simp; exact Nat.le_trans HB2.out.size (Nat.le_succ _))))
  have C16 := hid (kill16 hA3 0 ⟨by decide, by decide⟩)
  clear C13b HB3 HB2 hA3 hF3
  go_wp2_with (fail)
  go_at_call 16
  refine C16.out.mono ?_
  rintro e w4 ⟨rfl, hA4, hF4⟩
  rw [show Arn.kill W2 0 = W3 from rfl] at hA4
  rw [show Arn.errR (Arn.find W2 0) = 0 by decide]
  have HB5 := hid (HB4.out.trans (hF4.below HB4.out.size))
  have C26 := hid (collect26 hA4)
  clear C16 HB4 hA4 hF4
  go_wp2_with (fail)
  go_at_call 26
  refine C26.out.mono ?_
  rintro e w5 ⟨⟨v, rfl, hv⟩, hA5, hF5⟩
  rw [show Arn.collect W3 = W4 from rfl] at hA5 hv
  rw [show Arn.refs W3 0 = [7] from rfl, show Arn.refs W4 0 = [0] from rfl] at hv
  have HB6 := hid (HB5.out.trans (hF5.below HB5.out.size))
  obtain ⟨av, bm, hA⟩ := hA5
  obtain ⟨gm, cm, hcv, _, _⟩ := hv.form (by decide)
  subst hcv
  have m0 := hv.cellAt 0 (by decide)
  have m1 := hv.cellAt 1 (by decide)
  have mm0 : w5.cell? ⟨gm, 0, none⟩ = some (.int .i64 7) := m0
  have mm1 : w5.cell? ⟨gm, 1, none⟩ = some (.int .i64 0) := m1
  have C21 := hid (len21 hA 0 ⟨by decide, by decide⟩)
  have C22 := hid (fun (w' : World) (hb : Below w5.heap.size w5 w') => lit22 (hA.below hb) 0 ⟨by decide, by decide⟩ 1 ⟨by decide, by decide⟩)
  have C23 := hid (fun (w' : World) (hb : Below w5.heap.size w5 w') => id23 (hA.below hb) 0 ⟨by decide, by decide⟩)
  rw [show Arn.lenOf (Arn.find W4 0) = 2 from rfl] at C21
  rw [show Arn.litOf (Arn.find W4 0) 1 = 5 by decide] at C22
  rw [show Arn.idOf (Arn.find W4 0) = 8 from rfl] at C23
  clear C26 HB5 hA hF5 m0 m1 hv
  go_wp2_with (first
    | (go_at_call 21; refine C21.out.mono ?_; rintro e w6 ⟨rfl, hb6⟩)
    | (go_at_call 22; refine (C22.out _ hb6).mono ?_; rintro e w7 ⟨rfl, hb7⟩)
    | (go_at_call 23; refine (C23.out _ (hb6.trans (hb7.mono hb6.size))).mono ?_; rintro e w8 ⟨rfl, hb8⟩))
  go_ret
  exact ⟨rfl, HB6.out.trans ((hb6.mono HB6.out.size).trans ((hb7.mono (Nat.le_trans HB6.out.size hb6.size)).trans (hb8.mono (Nat.le_trans HB6.out.size (Nat.le_trans hb6.size hb7.size)))))⟩
end Go.Proofs.Ytblogmelmpkfhaa
