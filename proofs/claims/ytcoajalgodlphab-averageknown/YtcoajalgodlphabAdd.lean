/- An average in memory, the program's and the document's: New, Add, Value, Count. -/
import Derived.Test.YtcoajalgodlphabNum
namespace Go.Proofs.Ytcoajalgodlphab
open Go.RowKit Go.Maps Av
set_option linter.unusedVariables false
set_option linter.unusedSimpArgs false
set_option maxRecDepth 100000

/-- An average in memory (57: the program's; 34: the document's). -/
structure Am (t b : Nat) (s : Nat) (v : Int) (k : Nat) (W : World) : Prop where
  blk : W.heap[b]? = some (.cells #[.int .i64 (s : Int), .int .i64 v, .int .i64 (k : Int)] t (0, 0))
/-- Its numbers lie within bounds. -/
structure Ok (s : Nat) (v : Int) (k : Nat) : Prop where
  s30 : s ≤ 30
  v0 : 0 ≤ v
  v62 : v ≤ 4611686018427387904
  k62 : k ≤ 1048576
theorem Am.below {t b s : Nat} {v : Int} {k : Nat} {W W' : World} (H : Am t b s v k W) (h : Below W.heap.size W W') : Am t b s v k W' :=
  ⟨(h.block b (lt_of_blk H.blk)).trans H.blk⟩
theorem Am.keep {t b s : Nat} {v : Int} {k : Nat} {W W' : World} {c : Nat} (H : Am t b s v k W) (h : Fq (fun g => g ≠ c) W W') (hc : b ≠ c) : Am t b s v k W' :=
  ⟨h.block _ _ H.blk hc⟩
theorem Am.setN {t b s : Nat} {v : Int} {k : Nat} {W : World} (H : Am t b s v k W) (k' : Nat) : Am t b s v k' (W.setCell ⟨b, 2, none⟩ (.int .i64 (k' : Int))) ∧ Fq (fun g => g ≠ b) W (W.setCell ⟨b, 2, none⟩ (.int .i64 (k' : Int))) :=
  ⟨⟨by rw [heap_set_row H.blk]; rfl⟩, Fq.set W _ (fun h => h rfl)⟩
theorem Am.setV {t b s : Nat} {v : Int} {k : Nat} {W : World} (H : Am t b s v k W) (v' : Int) : Am t b s v' k (W.setCell ⟨b, 1, none⟩ (.int .i64 v')) ∧ Fq (fun g => g ≠ b) W (W.setCell ⟨b, 1, none⟩ (.int .i64 v')) :=
  ⟨⟨by rw [heap_set_row H.blk]; rfl⟩, Fq.set W _ (fun h => h rfl)⟩
theorem value14 {b s : Nat} {v : Int} {k : Nat} {W : World} (H : Am 39 b s v k W) :
    Calls Try.prog 5 #[.pointer (some ⟨b, 0, none⟩)] W fun e w' => e = .returned (.int .i64 v) ∧ w' = W := by
  have c1 := row_cell H.blk 1
  clear H
  go_enter Try.func5, Try.ntmps5
  go_wp2
  go_ret
  exact ⟨rfl, rfl⟩
theorem count15 {b s : Nat} {v : Int} {k : Nat} {W : World} (H : Am 39 b s v k W) :
    Calls Try.prog 7 #[.pointer (some ⟨b, 0, none⟩)] W fun e w' => e = .returned (.int .i64 (k : Int)) ∧ w' = W := by
  have c1 := row_cell H.blk 2
  clear H
  go_enter Try.func7, Try.ntmps7
  go_wp2
  go_ret
  exact ⟨rfl, rfl⟩
def newE (s : Int) : Int := if s < 0 ∨ 30 < s then 2 else 0
theorem new10_no (s : Int) (W : World) (h : s < 0 ∨ 30 < s) :
    Calls Try.prog 12 #[.int .i64 s] W fun e w' => e = .returned (.tuple #[.pointer none, .int .i64 2]) ∧ w' = W := by
  by_cases h1 : s < 0
  · clear h
    go_enter Try.func12, Try.ntmps12
    go_wp2
    go_ret2
    exact ⟨rfl, rfl⟩
  · have h2 : 30 < s := by omega
    clear h
    go_enter Try.func12, Try.ntmps12
    go_wp2
    go_ret2
    exact ⟨rfl, rfl⟩
theorem new10_ok (s : Nat) (W : World) (h : s ≤ 30) :
    Calls Try.prog 12 #[.int .i64 (s : Int)] W fun e w' => e = .returned (.tuple #[.pointer (some ⟨W.heap.size, 0, none⟩), .int .i64 0]) ∧ Am 39 W.heap.size s 0 0 w' ∧ Below W.heap.size W w' := by
  obtain ⟨z, hz⟩ : ∃ z : Int, (s : Int) = z := ⟨_, rfl⟩
  have HA := hid (show Am 39 W.heap.size s 0 0 (W.alloc (.cells #[.int .i64 z, .int .i64 0, .int .i64 0] 39)) from ⟨by rw [← hz]; exact heap_alloc_new W _⟩)
  have h1 : ¬ z < 0 := by omega
  have h2 : ¬ 30 < z := by omega
  rw [hz]
  clear h hz
  go_enter Try.func12, Try.ntmps12
  go_wp2
  go_ret2
  exact ⟨rfl, HA.out, below_box _ _⟩
theorem min_cast (a b : Nat) : min (a : Int) (b : Int) = ((min a b : Nat) : Int) := by omega
theorem weight27 {b s : Nat} {v : Int} {k : Nat} {W : World} (H : Am 39 b s v k W) (hk : 1 ≤ k) (hk2 : k ≤ 1048577) :
    Calls Try.prog 15 #[.pointer (some ⟨b, 0, none⟩)] W fun e w' => e = .returned (.int .i64 ((min s (Nat.log2 k) : Nat) : Int)) ∧ Drawn W w' := by
  have c0 := row_cell H.blk 0
  have c2 := row_cell H.blk 2
  have C := hid (fun (w : World) => log36 k w hk (by omega))
  have HM := hid (min_cast s (Nat.log2 k))
  generalize Nat.log2 k = l at *
  clear H hk hk2
  go_enter Try.func15, Try.ntmps15
  go_wp2_with (fail)
  go_quiet ((go_at_call 20; exact Calls.quiet_of_same (C.out _)))
  all_goals
    go_wp2
    go_ret
    exact ⟨by rw [← HM.out]; rfl, (Drawn.refl W).drewN _⟩
end Go.Proofs.Ytcoajalgodlphab
