/- Heaps while a law goes on: what is told of them stays, whatever is done to them. -/
import Derived.Test.YtjbnkkjihcoojaaWrk
import Derived.Test.YtjbnkkjihcoojaaPdq
import Derived.Test.YtjbnkkjihcoojaaPlc
import Derived.Test.YtjbnkkjihcoojaaWot
namespace Go.Proofs.Ytjbnkkjihcoojaa
open Go.RowKit Go.Maps
set_option linter.unusedVariables false
set_option maxRecDepth 100000

theorem Hx.sharp {M : Nat → Prop} {hb n : Nat} {sc : List Int} {L : List Nat} {W W' : World} (h : Hx M hb n sc L W) (hb' : Below W.heap.size W W') : Hx (fun g => M g ∧ g < W.heap.size) hb n sc L W' := by
  obtain ⟨sv, pv, lv, vs, pl, h1, h2⟩ := h
  refine ⟨sv, pv, lv, vs, pl, (h1.below hb').more W.heap.size (fun g hq => ?_) h1.lts, h2⟩
  rcases Nat.lt_or_ge g W.heap.size with k | k
  · exact .inl ⟨k, fun hm => hq.2 ⟨hm, k⟩⟩
  · exact .inr ⟨k, hq.1⟩
theorem Hx.srt {M : Nat → Prop} {hb n : Nat} {sc : List Int} {L : List Nat} {W : World} (h : Hx M hb n sc L W) : Hpp.Srt sc L := by
  obtain ⟨sv, pv, lv, vs, pl, h1, h2⟩ := h
  exact h2.srt
theorem Hx.len {M : Nat → Prop} {hb n : Nat} {sc : List Int} {L : List Nat} {W : World} (h : Hx M hb n sc L W) : L.length ≤ n ∧ n ≤ 1048576 ∧ sc.length = n := by
  obtain ⟨sv, pv, lv, vs, pl, h1, h2⟩ := h
  exact ⟨by rw [← h2.pm.length_eq]; exact h2.len, h2.mx, iss_len h1.scs⟩
theorem Hx.lt {M : Nat → Prop} {hb n : Nat} {sc : List Int} {L : List Nat} {W : World} (h : Hx M hb n sc L W) {u : Nat} (hu : u ∈ L) : u < n := by
  obtain ⟨sv, pv, lv, vs, pl, h1, h2⟩ := h
  exact h2.pls.lt (h2.pm.mem_iff.2 hu)
theorem Hx.bd {M : Nat → Prop} {hb n : Nat} {sc : List Int} {L : List Nat} {W : World} (h : Hx M hb n sc L W) : ∀ u, u < n → 0 ≤ sc.getD u 0 ∧ sc.getD u 0 ≤ 1152921504606846976 := by
  obtain ⟨sv, pv, lv, vs, pl, h1, h2⟩ := h
  exact h2.bd
theorem HxO.next {M : Nat → Prop} {hb n : Nat} {sc sc' : List Int} {L L' : List Nat} {B w w' : World} (h : HxO M hb n sc L B w) (k : HxO (fun g => M g ∨ B.heap.size ≤ g) hb n sc' L' w w') : HxO M hb n sc' L' B w' := by
  have hs := h.2.size
  refine ⟨k.1.more (fun g hg => hg.elim id (fun h => .inr (Nat.le_trans hs h))), h.2.trans (k.2.mono fun g hg => ⟨by have := hg.1; omega, fun h => h.elim hg.2 (fun h => by have := hg.1; omega)⟩)⟩
theorem HxO.bel {M : Nat → Prop} {hb n : Nat} {sc : List Int} {L : List Nat} {B w w' : World} (h : HxO M hb n sc L B w) (hb' : Below w.heap.size w w') : HxO M hb n sc L B w' := h.next (h.1.below hb')
/-- A row that is not the heap's is kept. -/
theorem HxO.row {M : Nat → Prop} {hb n base e k : Nat} {v : Value} {xs : List Value} {sc : List Int} {L : List Nat} {B w : World} (h : HxO M hb n sc L B w) (ho : B.ownsRow base e 1 v k xs) (hm : ∀ g, M g → g < base) : w.ownsRow base e 1 v k xs :=
  own_fq ho h.2 (fun g e => by
    obtain ⟨h1, c, h2⟩ := own_blk ho e
    exact ⟨lt_of_blk h2, fun hg => by have := hm g hg; omega⟩)
theorem HxO.order {M : Nat → Prop} {hb n : Nat} {sc : List Int} {L : List Nat} {B w : World} (h : HxO M hb n sc L B w) :
    Calls Try.prog 20 #[.pointer (some ⟨hb, 0, none⟩)] w fun e w' => ∃ o c, e = .returned (.slice o L.length c) ∧ w'.ownsRow w.heap.size 3 1 (.slice o L.length c) L.length (ivs L) ∧ HxO M hb n sc L B w' ∧ Below w.heap.size w w' :=
  (order20_of h.1 (sorts_all _ (by have := h.1.len; omega))).mono fun e w' ⟨o, c, he, ho, hb'⟩ => ⟨o, c, he, ho, h.bel hb', hb'⟩
/-- A bump of any kind. -/
def BmpOut (W0 : World) (hb n : Nat) (L : List Nat) (e : Ending) (w' : World) : Prop := ∃ (r1 : Bool) (r2 : Int) (sc' : List Int) (L' : List Nat), e = .returned (.tuple #[.bool r1, .int .i64 r2]) ∧ L'.Perm L ∧ HxN W0 hb n sc' L' w'
theorem HxN.bumpAny {W0 : World} {hb n : Nat} {sc : List Int} {L : List Nat} {w : World} (h : HxN W0 hb n sc L w) {u : Nat} (hu : u < n) (by_ : Int) :
    Calls Try.prog 19 #[.pointer (some ⟨hb, 0, none⟩), .int .i64 ((u : Int) + 1), .int .i64 by_] w fun e w' => BmpOut W0 hb n L e w' := by
  by_cases h1 : by_ < 0 ∨ 1152921504606846976 < by_
  · exact (bump19_by h.1 hu by_ h1).mono fun e w' ⟨he, hw⟩ => ⟨_, _, sc, L, he, .refl _, by rw [hw]; exact h⟩
  · by_cases h3 : sc.getD u 0 + by_ ≤ 1152921504606846976
    · exact (h.bump hu by_ (by omega) (by omega) h3 _ _ rfl rfl).mono fun e w' ⟨he, hw⟩ => ⟨_, _, _, _, he, Hpp.srt_perm _ _, hw⟩
    · exact (h.bumpH hu by_ (by omega) (by omega) (by omega) _ _ rfl rfl).mono fun e w' ⟨he, hw⟩ => ⟨_, _, _, _, he, Hpp.srt_perm _ _, hw⟩
/-- The first so many. -/
theorem fst_more {sc : List Int} {L : List Nat} {k : Nat} (h : L.Perm (List.range k)) : (Hpp.ins sc k L).Perm (List.range (k + 1)) := by
  rw [List.range_succ]
  exact ((Hpp.ins_perm sc k L).trans (List.Perm.cons _ h)).trans (List.perm_append_singleton _ _).symm
theorem fst_out {L : List Nat} {k : Nat} (h : L.Perm (List.range k)) : k ∉ L := fun hm => by
  have := List.mem_range.1 (h.mem_iff.1 hm)
  omega
theorem fst_in {L : List Nat} {n u : Nat} (h : L.Perm (List.range n)) (hu : u < n) : u ∈ L := h.mem_iff.2 (List.mem_range.2 hu)
theorem fst_len {L : List Nat} {n : Nat} (h : L.Perm (List.range n)) : L.length = n := by rw [h.length_eq, List.length_range]
/-- Taken out and put in again. -/
theorem ins_erase {sc : List Int} {L : List Nat} {u : Nat} (h : Hpp.Srt sc L) (hu : u ∈ L) : Hpp.ins sc u (L.erase u) = L :=
  Hpp.srt_uniq (Hpp.ins_srt (h.erase u) (fun hm => (h.nodup.mem_erase_iff.1 hm).1 rfl)) h ((Hpp.ins_perm _ _ _).trans (List.perm_cons_erase hu).symm)
theorem wot_erase {L : List Nat} (h : L.Nodup) (u : Nat) : Hpp.wot L ((u : Int) + 1) = L.erase u := by
  rw [h.erase_eq_filter]
  unfold Hpp.wot
  refine List.filter_congr fun x _ => ?_
  by_cases e : x = u
  · subst e; simp
  · have : ¬ (x : Int) + 1 = u + 1 := by omega
    simp [e, this]
/-- A row of numbers that was handed in. -/
def Rw (W : World) (a : Option Addr) (xs : List Int) : Prop :=
  (∀ x ∈ xs, I64 x) ∧ (xs = [] ∨ ∃ b off, a = some ⟨b, off, none⟩ ∧ b < W.heap.size ∧ ∀ j, j < xs.length → W.cell? ⟨b, off + j, none⟩ = some (.int .i64 (xs.getD j 0)))
theorem Rw.below {w w' : World} {a : Option Addr} {xs : List Int} (h : Rw w a xs) (hb : Below w.heap.size w w') : Rw w' a xs := by
  refine ⟨h.1, ?_⟩
  rcases h.2 with h | ⟨b, off, e, hl, hc⟩
  · exact .inl h
  · exact .inr ⟨b, off, e, Nat.lt_of_lt_of_le hl hb.size, fun j hj => (hb.cell (p := ⟨b, off + j, none⟩) hl).trans (hc j hj)⟩
theorem Rw.shape {w : World} {a : Option Addr} {xs : List Int} (h : Rw w a xs) : xs.length = 0 ∨ ∃ b off, a = some ⟨b, off, none⟩ := by
  rcases h.2 with h' | ⟨b, off, e, _⟩
  · left; rw [h']; rfl
  · exact .inr ⟨b, off, e⟩
theorem Rw.at {w : World} {b off : Nat} {xs : List Int} (h : Rw w (some ⟨b, off, none⟩) xs) {j : Nat} (hj : j < xs.length) : w.cell? ⟨b, off + j, none⟩ = some (.int .i64 (xs.getD j 0)) ∧ I64 (xs.getD j 0) := by
  rcases h.2 with h' | ⟨b', off', e, hl, hc⟩
  · rw [h'] at hj; simp at hj
  · cases e
    refine ⟨hc j hj, h.1 _ ?_⟩
    rw [List.getD_eq_getElem?_getD, List.getElem?_eq_getElem hj]
    exact List.getElem_mem hj
end Go.Proofs.Ytjbnkkjihcoojaa
