/- The keys of the base's map, in order. -/
import Derived.Test.YthpebfojkpnojaaEtr
import Derived.Test.YthpebfojkpnojaaShelf
namespace Go.Proofs.Ythpebfojkpnojaa
open Go.RowKit Go.Maps Go.Sort Go.Shelf
set_option linter.unusedVariables false
def srt (zs : List Int) : List Int := zs.mergeSort (fun x y => decide (x ≤ y))
theorem sortsA (m : Nat) : AnyZI.SortsIn Try.prog Try.sortedA_ren Fence.wide m :=
  ⟨fun blk off cap ss W hH hblk hsz => callsIn_wide.2 (AnyM.slices_Sort_int Try.sortA blk off cap ss W hH hblk hsz),
   fun p cap W => callsIn_wide.2 (AnyM.slices_Sort_int_none Try.sortA p cap W)⟩
theorem has_i64 {w : World} {b n : Nat} {D : DataW Value} (hown : w.ownsMap Try.prog 2 raw b n D) {x : Int} (h : Maps.has D (.int .i64 x) = true) : I64 x := by
  obtain ⟨es, rfl, hko⟩ := hown.keysOf
  rw [has_eq, List.any_eq_true] at h
  obtain ⟨p, hp, hs⟩ := h
  obtain ⟨v, hv⟩ := hko p hp
  obtain ⟨y, _, hy, hl⟩ := Maps.keyOf_i64 Try.underlying2 hv
  rw [hy] at hs
  obtain rfl : x = y := by simpa [Lit.sameKey, eq_comm] using hs
  simp [Lit.wf, IntKind.min, IntKind.max, IntKind.signed, IntKind.bits] at hl
  exact ⟨by omega, by omega⟩
theorem mem_look {s : Bas.S} (hg : Bas.Good s) {id : Int} : id ∈ s.live.map (·.id) ↔ (Bas.look s.live id).isSome = true := by
  constructor
  · intro h
    obtain ⟨e, he, rfl⟩ := List.mem_map.1 h
    rw [Bas.look_of_mem hg.sorted he]
    rfl
  · intro h
    cases hl : Bas.look s.live id with
    | none => rw [hl] at h; cases h
    | some e => obtain ⟨h1, h2⟩ := Bas.look_mem hl; exact List.mem_map.2 ⟨e, h1, h2⟩
theorem keys_perm {M : Nat → Prop} {bb K : Nat} {s : Bas.S} {W : World} (h : Bs M bb K s W) (hg : Bas.Good s) (hL : s.last ≤ 1000000000) :
    ∃ bm k D, W.cell? ⟨bb, 3, none⟩ = some (.map (some bm)) ∧ k ≤ K ∧ W.ownsMap Try.prog 2 raw bm k D ∧ Maps.size D = s.live.length ∧ ∀ ss : List Int, ss.Perm (intKeys D) → srt ss = s.live.map (·.id) := by
  obtain ⟨hv, bm, br, k, k2, f, g, rv, sv, tv, R, Z, rw', ids, iv, hb, m1, m2, m3, hne, ⟨⟨D, hown, hD⟩, a2, a3⟩, _⟩ := h
  have hnd : (s.live.map (·.id)).Pairwise (· < ·) := List.pairwise_map.2 hg.sorted
  have hfs : ∀ id, I64 id → (f id).isSome = (Bas.look s.live id).isSome := fun id hi => by
    have := a3 id hi
    cases he : Bas.look s.live id with
    | none => rw [he] at this; simp only [EntAt] at this; rw [this]; rfl
    | some e => rw [he] at this; obtain ⟨_, _, hf, _⟩ := this; rw [hf]; rfl
  have hc : CollectedI D (fun _ => false) (s.live.map (·.id)) := by
    refine ⟨hnd.imp (fun h e => by omega), fun x => ?_⟩
    rw [mem_look hg]
    constructor
    · intro h
      have hi : I64 x := by
        obtain ⟨p, hp, rfl⟩ := List.mem_map.1 ((mem_look hg).2 h)
        have := hg.ids p hp
        exact ⟨by omega, by omega⟩
      exact ⟨by rw [(hD x hi).1, hfs x hi]; exact h, rfl⟩
    · rintro ⟨h, _⟩
      have hi := has_i64 hown h
      rw [(hD x hi).1, hfs x hi] at h
      exact h
  have hp := hc.perm hown klawMp Try.underlying2 (fun _ => rfl)
  refine ⟨bm, k, D, row_cell hb 3, a2, hown, ?_, fun ss hs => ?_⟩
  · have := hp.length_eq
    rw [List.length_map] at this
    rw [this]
    obtain ⟨es, rfl, _⟩ := hown.keysOf
    rw [Maps.size_eq]
    simp [intKeys]
  have h1 : srt ss = srt (s.live.map (·.id)) := mergeSort_of_perm_i (hs.trans hp.symm)
  rw [h1]
  unfold srt
  refine List.Perm.eq_of_pairwise (le := fun a b => a ≤ b) (fun a b _ _ h1 h2 => by omega) ?_ (hnd.imp (fun h => by omega)) (List.mergeSort_perm _ _)
  have h2 := List.pairwise_mergeSort (le := fun x y : Int => decide (x ≤ y)) (fun a b c h1 h2 => by simp at *; omega) (fun a b => by simp; omega) (s.live.map (·.id))
  exact h2.imp (fun h => by simpa using h)
set_option maxHeartbeats 1000000 in
theorem keysC {bm k : Nat} {W : World} {D : DataW Value} (hown0 : W.ownsMap Try.prog 2 raw bm k D) (hk : k ≤ 100000000) (ids : List Int) (hD : ∀ ss : List Int, ss.Perm (intKeys D) → srt ss = ids) : KeysC W bm ids := by
  refine ⟨fun X => (callsIn_wide (n := 5)).1 (AnyZI.keys_in Try.keysA Fence.wide 5 trivial rfl (some bm) X), fun X hX => ?_⟩
  have hown : X.ownsMap Try.prog 2 raw bm k D := by
    obtain ⟨es, clock, hb, Ft, hs, hD⟩ := hown0
    exact ⟨es, clock, (hX.block bm (lt_of_blk hb)).trans hb, Ft, hs, hD⟩
  have hbl := hown.lt
  have hsz := hown.size_le
  have hseq : SeqGives Fence.wide 2 Try.prog 57 #[.pointer (some ⟨X.heap.size, 0, none⟩)] encZ (fun ss => ss.Perm (intKeys D)) (Maps.size D) (X.alloc (.cells #[.map (some bm)] 75)) :=
    AnyZI.keys_gives (ρ := Try.keysA_ren) { Try.keysA with } Fence.wide _ trivial rfl (by omega) X.heap.size bm k D _ (by simp) (by simp) (by
      obtain ⟨es, clock, hb, Ft, hs, hD⟩ := hown
      exact ⟨es, clock, (Below.heap_alloc _ _ bm hbl).trans hb, Ft, hs, hD⟩)
  have cS := AnyZI.sorted_in Try.sortedA Fence.wide 5 trivial trivial trivial trivial rfl (by omega) (sortsA _) (enters_of Try.func56 (by kernel_rfl) rfl) 57 #[.pointer (some ⟨X.heap.size, 0, none⟩)] trivial (enters_of Try.func57 (by kernel_rfl) rfl) _ _ (by unfold maxLen; omega) (by omega) _ hseq
  change CallsIn _ _ Try.prog 39 _ _ _ at cS
  refine ((callsIn_wide (n := 5)).1 cS).mono ?_
  rintro e w' ⟨v, ss, rfl, hS, hrow, hnil, hb⟩
  have e := hD ss hS
  have hl : ss.length = ids.length := by rw [← e]; exact (List.length_mergeSort _).symm
  rw [hl] at hrow
  obtain ⟨a, c, rfl⟩ := own_slc hrow
  refine ⟨a, c, rfl, ?_, ((Below.refl _ X).alloc (Nat.le_refl _) _).trans (hb.mono (by simp))⟩
  have h2 := own_base (base' := X.heap.size) hrow (by simp)
  rw [← e]
  rw [← e] at h2
  exact h2
end Go.Proofs.Ythpebfojkpnojaa
