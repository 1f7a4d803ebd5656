/- The table's masks are sorted: the same masks, in some order. -/
import Derived.Test.YtccncojidkdddaaCmp
import Derived.Test.YtccncojidkdddaaShelf
namespace Go.Proofs.Ytccncojidkdddaa
open Go.RowKit Go.Lib Go.Sort Go.Shelf
set_option linter.unusedVariables false

def encM (p : Nat × Nat) : List Value := [.int .u32 p.1, .int .u32 p.2]
theorem cmpM_neg (p q : Nat × Nat) : Tru.cmpM p q < 0 ↔ p.1 < q.1 ∨ (p.1 = q.1 ∧ p.2 < q.2) := by
  unfold Tru.cmpM Tru.or2 Tru.cmp1
  by_cases h1 : (p.1 : Int) < q.1
  · rw [if_pos h1, if_neg (by decide)]; omega
  · rw [if_neg h1]
    by_cases h2 : (q.1 : Int) < p.1
    · rw [if_pos h2, if_neg (by decide)]; omega
    · rw [if_neg h2, if_pos rfl]
      by_cases h3 : (p.2 : Int) < q.2
      · rw [if_pos h3]; omega
      · rw [if_neg h3]
        by_cases h4 : (q.2 : Int) < p.2
        · rw [if_pos h4]; omega
        · rw [if_neg h4]; omega
theorem swoM : SWO (ltOf Tru.cmpM) where
  irrefl x := by unfold ltOf; rw [decide_eq_false_iff_not, cmpM_neg]; omega
  trans x y z h1 h2 := by unfold ltOf at *; rw [decide_eq_true_eq, cmpM_neg] at *; omega
  ntrans x y z h1 h2 := by unfold ltOf at *; rw [decide_eq_false_iff_not, cmpM_neg] at *; omega

theorem lays38 (blk off size : Nat) (w : World) : CmpLays Try.prog 38 #[] encM 2 Tru.cmpM blk off size w := fun m os dk hs x y => by
  refine (less38 x y _).mono ?_
  rintro e w' ⟨he, hw⟩
  rw [alloc_eq_grow, alloc_eq_grow, alloc_eq_grow, grow_grow, grow_grow] at hw
  exact ⟨he, 1, _, hw⟩

set_option maxHeartbeats 1000000 in
theorem sort37 (blk off cap : Nat) (d : Array (Nat × Nat)) (w : World) (hH : HoldsK encM 2 w blk off d) (hblk : blk < w.heap.size) (hsz : d.size < 4611686018427387904) :
    Calls Try.prog 37 #[.slice (some ⟨blk, off, none⟩) d.size cap, .func (.func 38) #[] #[]] w fun e w' => e = .returned (.tuple #[]) ∧ ∃ d' n os, (d'.size = d.size ∧ ∀ p, p ∈ d' ↔ p ∈ d) ∧ w' = sortWorldK encM 2 w blk off n d' os := by
  have eg : ∀ args w, (callFunc 38 args).run Try.prog w = .ok (.enter 38 args) w := enters_of Try.func38 (by kernel_rfl) rfl
  have hcon := AnyQ.slices_SortFunc Try.sortL 2 (fun w => by kernel_rfl) (fun w => by kernel_rfl) encM (fun _ => rfl) (fun x v hv => by simp [encM] at hv; rcases hv with rfl | rfl <;> rfl) Tru.cmpM swoM 38 #[] blk off cap d w eg (lays38 blk off d.size w) hH hblk hsz
  refine Calls.mono hcon ?_
  rintro e w' ⟨he, d', n, os, hp, _, hw⟩
  refine ⟨he, d', n, os, ⟨hp.1, fun p => ?_⟩, hw⟩
  have h1 := hp.2.2
  have e1 : d'.extract 0 d.size = d' := by rw [← hp.1]; simp
  have e2 : d.extract 0 d.size = d := by simp
  rw [e1, e2] at h1
  rw [← Array.mem_toList_iff, ← Array.mem_toList_iff]
  exact h1.mem_iff
end Go.Proofs.Ytccncojidkdddaa
