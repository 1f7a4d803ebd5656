/- The records that may go, sorted. -/
import Derived.Test.YtekkbpaelojmeaaCm2
import Derived.Test.YtekkbpaelojmeaaShelf
namespace Go.Proofs.Ytekkbpaelojmeaa
open Go.RowKit Go.Maps Go.Lib Go.Sort Go.Shelf
set_option linter.unusedVariables false
set_option maxRecDepth 100000

def toRc (x : K4) : Rc := ⟨x, false⟩
theorem rec_toRc (x : K4) : rec5 (toRc x) = enc5 x := rfl
theorem flatK_flat (xs : List K4) : (flatK enc5 5 xs.toArray).toList = flat (xs.map toRc) := by
  apply List.ext_getElem?
  intro t
  by_cases ht : t < xs.length * 5
  · have hj : t / 5 < xs.length := by omega
    have h1 := flat_at (rs := xs.map toRc) (j := t / 5) (by simpa using hj) (t := t % 5) (Nat.mod_lt _ (by decide))
    rw [show t / 5 * 5 + t % 5 = t by omega] at h1
    rw [h1, List.getElem_map, rec_toRc, Array.getElem?_toList, getElem?_pos _ t (by simpa using ht)]
    have h2 := get_flatK enc5 5 xs.toArray t (by simpa using ht)
    rw [getElem!_pos _ t (by simpa using ht)] at h2
    rw [h2, getElem!_pos _ (t / 5) (by simpa using hj), getElem?_pos _ (t % 5) (by simp [enc5]; omega), getElem!_pos _ (t % 5) (by simp [enc5]; omega)]
    simp
  · rw [List.getElem?_eq_none (by simp; omega), List.getElem?_eq_none (by rw [flat_len]; simp; omega)]
theorem sortK_other (w : World) (blk m : Nat) (dk : Array K4) (os : Array Obj) {b : Nat} (hb : b ≠ blk) (hl : b < w.heap.size) : (sortWorldK enc5 5 w blk 0 m dk os).heap[b]? = w.heap[b]? := by
  unfold sortWorldK putRowK
  rw [heap_grow_old _ _ (by simpa [putRow, mapBlock, Sort.ahead] using hl)]
  simp [putRow, mapBlock, Sort.ahead, Array.getElem?_modify, Ne.symm hb]
theorem sortK_at (w : World) (blk m : Nat) (dk : Array K4) (os : Array Obj) {cs : Array Value} {t : Nat} {fr : Nat × Nat} (h : w.heap[blk]? = some (.cells cs t fr)) : (sortWorldK enc5 5 w blk 0 m dk os).heap[blk]? = some (.cells (putCells id 0 (flatK enc5 5 dk) cs) t fr) := by
  unfold sortWorldK putRowK
  rw [heap_grow_old _ _ (by simpa [putRow, mapBlock, Sort.ahead] using lt_of_blk h)]
  simp [putRow, mapBlock, Sort.ahead, Array.getElem?_modify, h, onCells]
theorem sortK_below (w : World) (blk m base : Nat) (dk : Array K4) (os : Array Obj) (hb : base ≤ blk) (hl : base ≤ w.heap.size) : Below base w (sortWorldK enc5 5 w blk 0 m dk os) := by
  refine ⟨rfl, rfl, rfl, ?_, fun b hb' => sortK_other w blk m dk os (by omega) (by omega)⟩
  simp [sortWorldK, putRowK, Sort.grow, putRow, mapBlock, Sort.ahead]
theorem putC_take (F : Array Value) (cs : Array Value) (h : F.size ≤ cs.size) : (putCells id 0 F cs).size = cs.size ∧ (putCells id 0 F cs).toList.take F.size = F.toList := by
  refine ⟨by simp [putCells], ?_⟩
  apply List.ext_getElem?
  intro k
  by_cases hk : k < F.size
  · rw [List.getElem?_take_of_lt hk, Array.getElem?_toList, Array.getElem?_toList]
    simp only [putCells, Array.getElem?_mapIdx]
    rw [Array.getElem?_eq_getElem (show k < cs.size by omega), Array.getElem?_eq_getElem hk]
    simp [hk]
  · rw [List.getElem?_eq_none (by simp; omega), List.getElem?_eq_none (by simp; omega)]
theorem lays19 (blk off size : Nat) (w : World) : CmpLays Try.prog 19 #[] enc5 5 cf blk off size w := fun m os dk hs x y => by
  refine (compare19 x y _).mono ?_
  rintro e w' ⟨he, hw⟩
  rw [alloc_eq_grow, alloc_eq_grow, alloc_eq_grow, grow_grow, grow_grow] at hw
  exact ⟨he, 1, _, hw⟩
theorem ltc_eq : ltOf cf = ltc := rfl
def srt (xs : List K4) : List K4 := xs.mergeSort fun x y => !ltc y x
theorem srt_len (xs : List K4) : (srt xs).length = xs.length := List.length_mergeSort _
set_option maxHeartbeats 2000000 in
theorem sort18 {W : World} {base n c : Nat} {o : Option Addr} {xs : List K4} (h : W.ownsRow base 29 5 (.slice o n c) n (flat (xs.map toRc))) (hn : xs.length = n) (hN : n ≤ 1000000000) (hb : base ≤ W.heap.size) :
    Calls Try.prog 18 #[.slice o n c, .func (.func 19) #[] #[]] W fun e w' => e = .returned (.tuple #[]) ∧ w'.ownsRow base 29 5 (.slice o n c) n (flat ((srt xs).map toRc)) ∧ Below base W w' := by
  rcases Nat.eq_zero_or_pos n with h0 | hp
  · subst h0
    have hx : xs = [] := List.eq_nil_of_length_eq_zero hn
    subst hx
    have hS := AnyF.slices_SortFunc_none (P := Try.prog) (ρ := Try.sortR_ren) Try.sortR o c (.func (.func 19) #[] #[]) W
    change Calls Try.prog 18 _ _ _ at hS
    refine hS.mono ?_
    rintro e w' ⟨rfl, rfl⟩
    exact ⟨rfl, by rw [show srt [] = [] from by simp [srt]]; exact h, Below.refl _ _⟩
  · rcases h.2 with ⟨_, h0⟩ | ⟨g, c', cur, e1, h1, h2, h3, h4, h5, h6⟩
    · omega
    · cases e1
      have hds : xs.toArray.size = n := by simpa using hn
      have hH : HoldsK enc5 5 W g 0 xs.toArray := by
        intro t ht
        rw [size_flatK, hds] at ht
        rw [Nat.zero_add]
        refine ⟨?_, row_frozen h2 t⟩
        have : (cur.toList.take (n * 5))[t]? = (flat (xs.map toRc))[t]? := by rw [h6]
        rw [List.getElem?_take_of_lt ht, Array.getElem?_toList, ← flatK_flat, Array.getElem?_toList] at this
        rw [row_cell h2, this, getElem!_pos _ t (by rw [size_flatK, hds]; exact ht)]
        rw [getElem?_pos _ t (by rw [size_flatK, hds]; exact ht)]
        rfl
      have hS := AnyQ.slices_SortFunc_total (P := Try.prog) (ρ := Try.sortR_ren) Try.sortR 5 (fun w => by kernel_rfl) (fun w => by kernel_rfl) enc5 (fun _ => rfl) (fun x v hv => one5 (toRc x) v hv) cf (ltc_eq ▸ swo) 19 #[] g 0 c xs.toArray W (enters_of Try.func19 (by kernel_rfl) rfl) (lays19 g 0 _ W) hH (lt_of_blk h2) (by rw [hds]; omega) (fun x y => tot x y)
      change Calls Try.prog 18 _ _ _ at hS
      rw [hds] at hS
      refine hS.mono ?_
      rintro e w' ⟨rfl, q, os, rfl⟩
      change _ ∧ (sortWorldK enc5 5 W g 0 q (srt xs).toArray os).ownsRow _ _ _ _ _ _ ∧ Below base W (sortWorldK enc5 5 W g 0 q (srt xs).toArray os)
      have hsz : (flatK enc5 5 (srt xs).toArray).size = n * 5 := by rw [size_flatK]; simp [srt_len, hn]
      obtain ⟨p1, p2⟩ := putC_take (flatK enc5 5 (srt xs).toArray) cur (by rw [hsz, h5]; exact Nat.mul_le_mul_right _ h3)
      rw [hsz, flatK_flat] at p2
      refine ⟨rfl, ⟨?_, .inr ⟨g, c, _, rfl, h1, sortK_at W g q _ os h2, h3, h4, by rw [p1, h5], p2⟩⟩, sortK_below W g q base _ os h1 hb⟩
      rw [flat_len, List.length_map, srt_len, hn]
end Go.Proofs.Ytekkbpaelojmeaa
