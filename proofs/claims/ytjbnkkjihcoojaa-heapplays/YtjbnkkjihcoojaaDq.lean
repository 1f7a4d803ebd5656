/- The document's heap: new, copy; the program's copy. -/
import Derived.Test.YtjbnkkjihcoojaaDo
import Derived.Laws.EntriesVeiled
namespace Go.Proofs.Ytjbnkkjihcoojaa
open Go.RowKit Go.Maps
set_option linter.unusedVariables false
set_option maxRecDepth 100000

def NewD (W : World) (n : Nat) (e : Ending) (w' : World) : Prop := ∃ mb, e = .returned (.tuple #[.pointer (some ⟨mb, 0, none⟩), .int .i64 0]) ∧ Dx (fun g => W.heap.size ≤ g) mb n (zer n) [] w' ∧ Below W.heap.size W w'
theorem new11_no (n : Int) (W : World) (hn : n < 0 ∨ 1048576 < n) : Calls Try.prog 11 #[.int .i64 n] W fun e w' => e = .returned (.tuple #[.pointer none, .int .i64 2]) ∧ w' = W := by
  by_cases h1 : n < 0
  · clear hn
    go_enter Try.func11, Try.ntmps11
    go_wp2
    go_ret2
    exact ⟨rfl, rfl⟩
  · have h2 : 1048576 < n := by omega
    clear hn
    go_enter Try.func11, Try.ntmps11
    go_wp2
    go_ret2
    exact ⟨rfl, rfl⟩
set_option maxHeartbeats 4000000 in
theorem new11 (n : Nat) (W : World) (hn : n ≤ 1048576) : Calls Try.prog 11 #[.int .i64 n] W fun e w' => NewD W n e w' := by
  obtain ⟨m, hm⟩ : ∃ m : Nat, (m : Int) = (n : Int) + 1 := ⟨n + 1, by omega⟩
  have hmn : m = n + 1 := by omega
  obtain ⟨i0, hi, hz⟩ := Option.map_eq_some_iff.1 info2
  simp only [Prod.mk.injEq] at hz
  have hmk := fun W => run_makeSlice (P := Try.prog) W 48 2 i0 _ Try.underlying48 hi hz.1 .i64 .i64 (m : Int) (m : Int) (by omega) (Int.le_refl _) (by rw [hz.2.1]; omega) (by rw [hz.2.2]; omega) (by omega)
  simp only [hz.2.1, Int.toNat_natCast, Nat.mul_one, made_zer] at hmk
  have h1 : ¬ (n : Int) < 0 := by omega
  have h2 : ¬ 1048576 < (n : Int) := by omega
  have hw : wrap64 ((n : Int) + 1) = m := by unfold wrap64; omega
  have hw2 : IntKind.i64.wrap ((n : Int) + 1) = m := by simp [IntKind.wrap, IntKind.bits, IntKind.signed]; omega
  have HO := hid (fun (q : Nat) => show NewD W n (.returned (.tuple #[.pointer (some ⟨W.heap.size + 1, 0, none⟩), .int .i64 0])) (((W.drewN q).alloc (.cells (iss (zer m)).toArray 2)).alloc (.cells #[.slice (some ⟨W.heap.size, 0, none⟩) m m, .slice none 0 0] 59)) from by
    have hb0 : Below W.heap.size W (W.drewN q) := Drawn.below ⟨q, rfl⟩
    have hb1 := hb0.trans (below_box (W.drewN q) (.cells (iss (zer m)).toArray 2))
    have hb2 := hb1.trans ((below_box ((W.drewN q).alloc (.cells (iss (zer m)).toArray 2)) (.cells #[.slice (some ⟨W.heap.size, 0, none⟩) m m, .slice none 0 0] 59)).mono (by simp))
    have hA : (((W.drewN q).alloc (.cells (iss (zer m)).toArray 2)).alloc (.cells #[.slice (some ⟨W.heap.size, 0, none⟩) m m, .slice none 0 0] 59)).heap[W.heap.size]? = some (.cells (iss (zer m)).toArray 2 (0, 0)) := (Below.heap_alloc _ _ _ (by simp)).trans (heap_alloc_new (W.drewN q) _)
    have hB : (((W.drewN q).alloc (.cells (iss (zer m)).toArray 2)).alloc (.cells #[.slice (some ⟨W.heap.size, 0, none⟩) m m, .slice none 0 0] 59)).heap[W.heap.size + 1]? = some (.cells #[.slice (some ⟨W.heap.size, 0, none⟩) m m, .slice none 0 0] 59 (0, 0)) := by
      have := heap_alloc_new ((W.drewN q).alloc (.cells (iss (zer m)).toArray 2)) (.cells #[.slice (some ⟨W.heap.size, 0, none⟩) m m, .slice none 0 0] 59)
      rw [show ((W.drewN q).alloc (.cells (iss (zer m)).toArray 2)).heap.size = W.heap.size + 1 by simp] at this
      exact this
    refine ⟨_, rfl, ⟨.slice (some ⟨W.heap.size, 0, none⟩) m m, .slice none 0 0, ⟨fun g hg => hg.1, fun h => h.2 (by omega), fun g e h => ?_, (fun g e => by cases e), hB, ?_, World.ownsRow_nil _ _ _ _, fun _ => rfl⟩, ⟨hn, by simp [zer], .nil, (fun u h => by cases h), fun u hu => ?_⟩⟩, hb2⟩
    · cases e; exact h.2 (Nat.le_refl _)
    · rw [← hmn, show (0 : Int) :: zer n = zer m by rw [hmn]; rfl]
      exact own_mk (Nat.zero_le _) hA (Nat.le_refl _) (by unfold maxLen; omega) (by simp [iss, zer]) (by simp [iss, zer])
    · have : (zer n).getD u 0 = 0 := by unfold zer; rw [List.getD_eq_getElem?_getD, List.getElem?_replicate]; split <;> rfl
      rw [this]; omega)
  clear hi hz hm hmn hn
  generalize (iss (zer m)).toArray = zz at *
  go_enter Try.func11, Try.ntmps11
  go_wp2_with (fail)
  go_ret2
  exact HO.out 0
/-- Scores, copied. -/
theorem appS {W : World} {g m c : Nat} {xs : List Int} (h : W.ownsRow 0 2 1 (.slice (some ⟨g, 0, none⟩) m c) m (iss xs)) (hm : 0 < m) (hk : m ≤ 10000000) :
    ∃ g' c' X, (Builtin.append_ #[48, 48] 48 #[.slice none 0 0, .slice (some ⟨g, 0, none⟩) m c]).run Try.prog W = .ok (.slice (some ⟨g', 0, none⟩) m c') X ∧ X.ownsRow W.heap.size 2 1 (.slice (some ⟨g', 0, none⟩) m c') m (iss xs) ∧ Below W.heap.size W X := by
  have hl := iss_len h
  obtain ⟨i0, hi, hz⟩ := Option.map_eq_some_iff.1 info2
  simp only [Prod.mk.injEq] at hz
  obtain ⟨v', X, hr, h2, h3, _, _⟩ := run_append_own_at (P := Try.prog) W W.heap.size 48 48 2 i0 _ 1 8 Try.underlying48 hi hz.1 hz.2.1 hz.2.2 rfl (by decide) (.slice none 0 0) 0 [] (World.ownsRow_nil _ _ _ _) ⟨g, 0, none⟩ m c (iss xs) (by simp [iss, hl]) (fun j u hu => by
    have hj : j < m := by
      rcases Nat.lt_or_ge j m with h' | h'
      · exact h'
      · rw [List.getElem?_eq_none (by simp [iss, hl]; omega)] at hu; cases hu
    rcases h.2 with ⟨e1, _⟩ | ⟨g', c', cur, e1, h1, h2, h3, h4, h5, h6⟩
    · cases e1
    · cases e1
      rw [show (⟨g, 0, none⟩ : Addr).add j = ⟨g, 0 + j, none⟩ from Go.WideShapes.add_plain _ _ _, Nat.zero_add, row_cell h2 j, ← hu, ← h6, Nat.mul_one, List.getElem?_take_of_lt hj, Array.getElem?_toList]) (iss_one xs) (by unfold maxLen; omega) (by omega) (Nat.le_refl _)
  rw [Nat.zero_add, List.nil_append] at h2
  obtain ⟨g', c', cur, rfl, _⟩ := own_some h2 hm
  exact ⟨g', c', X, hr, h2, ⟨h3.os, h3.tape, h3.output, h3.size, fun q hq => h3.block q (by omega) (fun e => by cases e)⟩⟩
/-- A row, copied. -/
theorem appC {W : World} {o : Option Addr} {t c : Nat} {L : List Nat} (h : W.ownsRow 0 3 1 (.slice o t c) t (ivs L)) (hn : L = [] → o = none ∧ c = 0) (hk : t ≤ 1048576) :
    ∃ o' c' X, (Builtin.append_ #[42, 42] 42 #[.slice none 0 0, .slice o t c]).run Try.prog W = .ok (.slice o' t c') X ∧ X.ownsRow W.heap.size 3 1 (.slice o' t c') t (ivs L) ∧ Below W.heap.size W X ∧ (L = [] → (Value.slice o' t c') = .slice none 0 0) := by
  have hl := ivs_len h
  rcases Nat.eq_zero_or_pos t with h0 | h0
  · subst h0
    obtain rfl : L = [] := List.eq_nil_of_length_eq_zero hl
    obtain ⟨rfl, rfl⟩ := hn rfl
    exact ⟨none, 0, W, app_nn W, World.ownsRow_nil _ _ _ _, Below.refl _ _, fun _ => rfl⟩
  · obtain ⟨g, c', e, q⟩ := own_at h h0
    cases e
    obtain ⟨o', c2, X, r, w, _, b⟩ := appR (W := W) (base := W.heap.size) (k := 0) (v := .slice none 0 0) (L := []) (K := L) (o := some ⟨g, 0, none⟩) (m := t) (c := c) (World.ownsRow_nil _ _ _ _) (Nat.le_refl _) ⟨hl, g, 0, rfl, fun j hj => by rw [Nat.zero_add]; exact q j hj⟩ (by omega)
    rw [Nat.zero_add] at r w
    rw [List.nil_append] at w
    exact ⟨o', c2, X, r, w, b, fun e => by rw [e] at hl; simp at hl; omega⟩
def CopyD (W : World) (n : Nat) (sc : List Int) (L : List Nat) (e : Ending) (w' : World) : Prop := ∃ mb, e = .returned (.pointer (some ⟨mb, 0, none⟩)) ∧ Dx (fun g => W.heap.size ≤ g) mb n sc L w' ∧ Below W.heap.size W w'
set_option maxHeartbeats 4000000 in
theorem copy13 {M : Nat → Prop} {mb n : Nat} {sc : List Int} {L : List Nat} {W : World} (H : Dx M mb n sc L W) :
    Calls Try.prog 13 #[.pointer (some ⟨mb, 0, none⟩)] W fun e w' => CopyD W n sc L e w' := by
  have hG := H.gx
  obtain ⟨sv, lv, hD, _⟩ := H
  obtain ⟨gs, cs, rfl, hc⟩ := Sc.at (W := W) hD.scs (u := 0) (by omega)
  obtain ⟨o, c, hlv⟩ := own_slc hD.row
  subst hlv
  obtain ⟨t, ht⟩ : ∃ t, L.length = t := ⟨_, rfl⟩
  have htm : t ≤ 1048576 := by have := nodup_len n L hG.nd hG.lt; have := hG.mx; omega
  obtain ⟨g1, c1', X1, r1, w1, b1⟩ := appS hD.scs (by omega) (by have := hG.mx; omega)
  have hD1 := hD.below b1
  have hrow := hD1.row
  rw [ht] at hrow
  obtain ⟨o2, c2', X2, r2, w2, b2, hnil⟩ := appC hrow (fun e => by have := hD.nil e; injection this with a b c; exact ⟨a, c⟩) htm
  have c0 := row_cell hD.blk 0
  have c1 := row_cell hD1.blk 1
  rw [ht] at c1
  have HO := hid (show CopyD W n sc L (.returned (.pointer (some ⟨X2.heap.size, 0, none⟩))) (X2.alloc (.cells #[.slice (some ⟨g1, 0, none⟩) (n + 1) c1', .slice o2 t c2'] 59)) from by
    have B2 : Below W.heap.size W X2 := b1.trans (b2.mono b1.size)
    have hx := below_box X2 (.cells #[.slice (some ⟨g1, 0, none⟩) (n + 1) c1', .slice o2 t c2'] 59)
    refine ⟨_, rfl, ⟨.slice (some ⟨g1, 0, none⟩) (n + 1) c1', .slice o2 t c2', ⟨fun g hg => hg.1, fun h => h.2 B2.size, fun g e h => h.2 (own_lt w1 e).1, fun g e h => h.2 (by have := (own_lt w2 e).1; have := b1.size; omega), heap_alloc_new X2 _, own_base (own_below (own_below w1 b2) hx) (Nat.zero_le _), ?_, hnil⟩, hG⟩, B2.trans (hx.mono B2.size)⟩
    rw [ht]
    exact own_base (own_below w2 hx) (Nat.zero_le _))
  have R1 := hid r1
  have R2 := hid r2
  obtain ⟨m, hm⟩ : ∃ m, n + 1 = m := ⟨_, rfl⟩
  rw [hm] at c0 R1 HO
  clear hD hD1 hG hc hrow r1 r2 w1 w2 b1 b2 hnil htm
  go_enter Try.func13, Try.ntmps13
  go_wp2_with (first
    | (at_builtin; refine wpList_append_run rfl (.tmp 5) (.tmp 9) 48 48 rfl rfl rfl R1.out ?_)
    | (at_builtin; refine wpList_append_run rfl (.tmp 11) (.tmp 15) 42 42 rfl rfl rfl R2.out ?_))
  go_ret
  exact HO.out
end Go.Proofs.Ytjbnkkjihcoojaa
