/- The masks sorted, then each once: as one row, in the words of the table. -/
import Derived.Test.YtccncojidkdddaaCompact
import Derived.Test.YtccncojidkdddaaRefModel
namespace Go.Proofs.Ytccncojidkdddaa
open Go.RowKit Go.Lib Go.Sort Go.Shelf
set_option linter.unusedVariables false

theorem below_grown {B : Nat} {w0 w : World} (h : Below B w0 w) (hB : B ≤ w.heap.size) (os : Array Obj) : Below B w0 (grow w os) :=
  h.trans ⟨rfl, rfl, rfl, by simp, fun k hk => heap_grow_old w os (by omega)⟩
theorem below_row {B : Nat} {w0 w : World} (h : Below B w0 w) {blk : Nat} (hB : B ≤ blk) (q off : Nat) (F : Array Value) : Below B w0 (putRow id (Sort.ahead w q) blk off F) :=
  h.trans ⟨rfl, rfl, rfl, by simp [putRow, mapBlock, Sort.ahead], fun k hk => by
    simp only [putRow, mapBlock, Sort.ahead, Array.getElem?_modify]
    rw [if_neg (by omega)]⟩

/-- The cells of masks, one behind the other. -/
def flatM (ms : List (Nat × Nat)) : List Value := ms.flatMap encM
theorem flatM_len (ms : List (Nat × Nat)) : (flatM ms).length = ms.length * 2 := by
  induction ms with
  | nil => rfl
  | cons p ms ih => rw [flatM, List.flatMap_cons, List.length_append, ← flatM, ih]; simp [encM]; omega
theorem flatM_at (ms : List (Nat × Nat)) : ∀ t, t < ms.length * 2 → (flatM ms)[t]? = some (encM ms.toArray[t / 2]!)[t % 2]! := by
  induction ms with
  | nil => intro t h; simp at h
  | cons p ms ih =>
    intro t h
    rw [flatM, List.flatMap_cons, ← flatM]
    by_cases h2 : t < 2
    · rw [List.getElem?_append_left (by simpa [encM] using h2)]
      have : t = 0 ∨ t = 1 := by omega
      rcases this with rfl | rfl <;> simp [encM]
    · rw [List.getElem?_append_right (by simp [encM]; omega)]
      have := ih (t - 2) (by simp at h; omega)
      have e1 : t / 2 = (t - 2) / 2 + 1 := by omega
      have e2 : t % 2 = (t - 2) % 2 := by omega
      rw [show (encM p).length = 2 from rfl, this, e1, e2]
      simp
theorem own_masks {base : Nat} {W : World} {g cap n : Nat} {ms : List (Nat × Nat)} (hn : ms.length = n) (h : W.ownsRow base 56 2 (.slice (some ⟨g, 0, none⟩) n cap) n (flatM ms)) : HoldsK encM 2 W g 0 ms.toArray ∧ g < W.heap.size ∧ base ≤ g ∧ n ≤ cap := by
  rcases h.2 with ⟨e, h0⟩ | ⟨g', cap', cur, e, h1, h2, h3, h4, h5, h6⟩
  · cases e
  · injection e with e1 e2 e3
    injection e1 with e1
    injection e1 with e1
    subst e1 e3
    refine ⟨fun t ht => ?_, (Array.getElem?_eq_some_iff.1 h2).1, h1, h3⟩
    have ht' : t < ms.length * 2 := by simpa using ht
    rw [get_flatK _ _ _ t (by simpa using ht'), Nat.zero_add]
    refine ⟨?_, row_frozen h2 t⟩
    rw [row_cell h2 t, ← Array.getElem?_toList]
    have : (List.take (n * 2) cur.toList)[t]? = (flatM ms)[t]? := by rw [h6]
    rw [List.getElem?_take_of_lt (by omega), flatM_at ms t ht'] at this
    exact this

/-- What the sort leaves. -/
def SortedM (base g : Nat) (ms : List (Nat × Nat)) (w w' : World) : Prop := ∃ d' : Array (Nat × Nat), d'.size = ms.length ∧ (∀ p, p ∈ d' ↔ p ∈ ms) ∧ HoldsK encM 2 w' g 0 d' ∧ g < w'.heap.size ∧ Below base w w'
theorem sortM (base g cap n : Nat) (ms : List (Nat × Nat)) (w : World) (hn : ms.length = n) (hN : n ≤ 1048576) (hb : base ≤ w.heap.size) (h : w.ownsRow base 56 2 (.slice (some ⟨g, 0, none⟩) n cap) n (flatM ms)) :
    Calls Try.prog 37 #[.slice (some ⟨g, 0, none⟩) n cap, .func (.func 38) #[] #[]] w fun e w' => e = .returned (.tuple #[]) ∧ SortedM base g ms w w' := by
  obtain ⟨hH, hlt, hbg, hcap⟩ := own_masks hn h
  have hc := sort37 g 0 cap ms.toArray w hH hlt (by simp; omega)
  rw [show ms.toArray.size = n by simpa using hn] at hc
  refine hc.mono ?_
  rintro e w' ⟨he, d', m, os, ⟨h1, h2⟩, rfl⟩
  refine ⟨he, d', by rw [h1, hn], fun p => by rw [h2]; simp, ?_, ?_, ?_⟩
  · exact holdsK_grow encM 2 _ os g 0 d' (by simpa [putRowK, putRow, mapBlock, Sort.ahead] using hlt) (holdsK_putRowK encM 2 _ g 0 ms.toArray d' (holdsK_ahead encM 2 w m g 0 _ hH) (by rw [h1]; simpa using hn.symm))
  · simp [sortWorldK, putRowK, putRow, mapBlock, Sort.ahead, grow]; omega
  · exact below_grown (below_row (Below.refl _ _) hbg m 0 _) (by simpa [putRow, mapBlock, Sort.ahead] using hb) os
/-- What is left of them, each once. -/
def OnceM (base g cap : Nat) (ms : List (Nat × Nat)) (w : World) (e : Ending) (w' : World) : Prop := ∃ ns : List (Nat × Nat), e = .returned (.slice (some ⟨g, 0, none⟩) ns.length cap) ∧ (∀ p, p ∈ ns ↔ p ∈ ms) ∧ ns.length ≤ ms.length ∧ HoldsK encM 2 w' g 0 ns.toArray ∧ g < w'.heap.size ∧ Below base w w'
theorem onceM (base g cap n : Nat) (ms : List (Nat × Nat)) (w0 w : World) (hn : ms.length = n) (hN : n ≤ 1048576) (hcap : n ≤ cap) (hbg : base ≤ g) (h : SortedM base g ms w0 w) :
    Calls Try.prog 41 #[.slice (some ⟨g, 0, none⟩) n cap] w fun e w' => OnceM base g cap ms w0 e w' := by
  obtain ⟨d', h1, h2, h3, h4, h5⟩ := h
  have hc := compact41 g 0 cap d' w h3 (by omega) (by omega)
  rw [h1, hn] at hc
  refine hc.mono ?_
  rintro e w' ⟨ns, q, F, he, k1, k2, k3, k4, k5⟩
  refine ⟨ns, he, fun p => by rw [k1, h2], by omega, k5, ?_, ?_⟩
  · rw [k4]; simpa [putRow, mapBlock, Sort.ahead] using h4
  · rw [k4]; exact below_row h5 hbg q 0 F
end Go.Proofs.Ytccncojidkdddaa
