/- The program's copy. -/
import Derived.Test.YtjbnkkjihcoojaaDq
namespace Go.Proofs.Ytjbnkkjihcoojaa
open Go.RowKit Go.Maps
set_option linter.unusedVariables false
set_option maxRecDepth 100000

def CopyH (W : World) (n : Nat) (sc : List Int) (L : List Nat) (e : Ending) (w' : World) : Prop := ∃ hb, e = .returned (.pointer (some ⟨hb, 0, none⟩)) ∧ Hx (fun g => W.heap.size ≤ g) hb n sc L w' ∧ Below W.heap.size W w'
/-- A row copied, in a world behind W. -/
def ClO (el : TypeId) (W X : World) (xs : List Value) (n : Nat) (e : Ending) (w' : World) : Prop :=
  ∃ o k, e = .returned (.slice o n k) ∧ w'.ownsRow X.heap.size el 1 (.slice o n k) n xs ∧ Below X.heap.size X w' ∧ Below W.heap.size W w'
theorem cl30 {W : World} {o : Option Addr} {n c : Nat} {xs : List Value} (hn : n ≤ 16777216) (h : W.ownsRow 0 3 1 (.slice o n c) n xs) (h1 : ∀ u ∈ xs, u.oneCell' = true) (X : World) (hX : Below W.heap.size W X) :
    Calls Try.prog 30 #[.slice o n c] X fun e w' => ClO 3 W X xs n e w' :=
  (clone30 o n c xs X hn (own_below h hX) h1).mono fun e w' ⟨o', k', he, ho, hb⟩ => ⟨o', k', he, ho, hb, hX.trans (hb.mono hX.size)⟩
theorem cl31 {W : World} {o : Option Addr} {n c : Nat} {xs : List Value} (hn : n ≤ 16777216) (h : W.ownsRow 0 2 1 (.slice o n c) n xs) (h1 : ∀ u ∈ xs, u.oneCell' = true) (X : World) (hX : Below W.heap.size W X) :
    Calls Try.prog 31 #[.slice o n c] X fun e w' => ClO 2 W X xs n e w' :=
  (clone31 o n c xs X hn (own_below h hX) h1).mono fun e w' ⟨o', k', he, ho, hb⟩ => ⟨o', k', he, ho, hb, hX.trans (hb.mono hX.size)⟩
/-- Both rows copied, in a box. -/
structure Mid (W : World) (rb : Nat) (o4 o5 : Option Addr) (t k4 n k5 : Nat) (vs : List Nat) (pl : List Int) (X : World) : Prop where
  box : X.heap[rb]? = some (.cells #[.slice o4 t k4, .slice o5 n k5, .nilFunc] 57 (0, 0))
  row : X.ownsRow W.heap.size 3 1 (.slice o4 t k4) t (ivs vs)
  pls : X.ownsRow W.heap.size 3 1 (.slice o5 n k5) n (iss pl)
  ne : ∀ g, (Value.slice o4 t k4).ownBlock = some g → (Value.slice o5 n k5).ownBlock ≠ some g
  bel : Below W.heap.size W X
theorem Mid.below {W : World} {rb : Nat} {o4 o5 : Option Addr} {t k4 n k5 : Nat} {vs : List Nat} {pl : List Int} {X Y : World} (h : Mid W rb o4 o5 t k4 n k5 vs pl X) (hb : Below X.heap.size X Y) : Mid W rb o4 o5 t k4 n k5 vs pl Y :=
  ⟨(hb.block _ (lt_of_blk h.box)).trans h.box, own_below h.row hb, own_below h.pls hb, h.ne, h.bel.trans (hb.mono h.bel.size)⟩
theorem midA {W w1 w2 X1 X2 : World} {o4 o5 : Option Addr} {t k4 n k5 : Nat} {vs : List Nat} {pl : List Int} (b0 : Below W.heap.size W X1) (ow1 : w1.ownsRow X1.heap.size 3 1 (.slice o4 t k4) t (ivs vs)) (b1 : Below w1.heap.size w1 X2) (ow2 : w2.ownsRow X2.heap.size 3 1 (.slice o5 n k5) n (iss pl)) (hx2 : Below X2.heap.size X2 w2) (hb2 : Below W.heap.size W w2) (hb1 : Below W.heap.size W w1) :
    Mid W w2.heap.size o4 o5 t k4 n k5 vs pl (w2.alloc (.cells #[.slice o4 t k4, .slice o5 n k5, .nilFunc] 57)) := by
  have hx := below_box w2 (.cells #[.slice o4 t k4, .slice o5 n k5, .nilFunc] 57)
  have h12 : Below w1.heap.size w1 w2 := b1.trans (hx2.mono b1.size)
  refine ⟨heap_alloc_new w2 _, own_base (own_below (own_below ow1 h12) hx) b0.size, own_base (own_below ow2 hx) ?_, fun g e e2 => ?_, hb2.trans (hx.mono hb2.size)⟩
  · exact Nat.le_trans hb1.size b1.size
  · have := (own_lt ow1 e).2; have := (own_lt ow2 e2).1; have := b1.size; omega
theorem midS {W w1 w2 X1 X2 : World} {rb : Nat} {o4 o5 : Option Addr} {t k4 n k5 : Nat} {vs : List Nat} {pl : List Int} (hz : w2.heap[rb]? = some (.cells #[.slice none 0 0, .slice none 0 0, .nilFunc] 57 (0, 0))) (hrb : W.heap.size ≤ rb) (b0 : Below W.heap.size W X1) (ow1 : w1.ownsRow X1.heap.size 3 1 (.slice o4 t k4) t (ivs vs)) (b1 : Below w1.heap.size w1 X2) (ow2 : w2.ownsRow X2.heap.size 3 1 (.slice o5 n k5) n (iss pl)) (hx2 : Below X2.heap.size X2 w2) (hb2 : Below W.heap.size W w2) (hb1 : Below W.heap.size W w1) :
    Mid W rb o4 o5 t k4 n k5 vs pl (((w2.setCell ⟨rb, 0, none⟩ (.slice o4 t k4)).setCell ⟨rb, 1, none⟩ (.slice o5 n k5)).setCell ⟨rb, 2, none⟩ .nilFunc) := by
  have h12 : Below w1.heap.size w1 w2 := b1.trans (hx2.mono b1.size)
  have r1 := own_below ow1 h12
  have n1 : (Value.slice o4 t k4).ownBlock ≠ some rb := fun e => own_type r1 hz (by decide) e.symm
  have n2 : (Value.slice o5 n k5).ownBlock ≠ some rb := fun e => own_type ow2 hz (by decide) e.symm
  refine ⟨by rw [heap_set_row (heap_set_row (heap_set_row hz _) _) _]; rfl, own_base (own_keep (own_keep (own_keep r1 n1 _) n1 _) n1 _) b0.size, own_base (own_keep (own_keep (own_keep ow2 n2 _) n2 _) n2 _) ?_, fun g e e2 => ?_, ((hb2.setCell (p := ⟨rb, 0, none⟩) hrb _).setCell (p := ⟨rb, 1, none⟩) hrb _).setCell (p := ⟨rb, 2, none⟩) hrb _⟩
  · exact Nat.le_trans hb1.size b1.size
  · have := (own_lt ow1 e).2; have := (own_lt ow2 e2).1; have := b1.size; omega
theorem copyEnd {W w5 w6 : World} {rb hb n t : Nat} {o4 o5 o6 : Option Addr} {k4 k5 k6 : Nat} {sc : List Int} {L vs : List Nat} {pl : List Int} (hg : Gd n sc L vs pl) (ht : vs.length = t) (M : Mid W rb o4 o5 t k4 n k5 vs pl w5) (ow : w5.ownsRow W.heap.size 2 1 (.slice o6 n k6) n (iss sc)) (hle : w5.heap.size ≤ hb) (hblk : w6.heap[hb]? = some (.cells #[.slice o6 n k6, .slice o4 t k4, .slice o5 n k5, cmpv (.slice o6 n k6)] 62 (0, 0))) (hx : Below w5.heap.size w5 w6) :
    CopyH W n sc L (.returned (.pointer (some ⟨hb, 0, none⟩))) w6 := by
  have hs := M.bel.size
  refine ⟨hb, rfl, ⟨.slice o6 n k6, .slice o5 n k5, .slice o4 t k4, vs, pl, ⟨fun g hg => hg.1, fun h => h.2 (by omega), fun g e h => h.2 (own_lt ow e).1, fun g e h => h.2 (own_lt M.pls e).1, fun g e h => h.2 (own_lt M.row e).1, M.ne, hblk, own_base (own_below ow hx) (Nat.zero_le _), own_base (own_below M.pls hx) (Nat.zero_le _), ?_⟩, hg⟩, M.bel.trans (hx.mono hs)⟩
  rw [ht]
  exact own_base (own_below M.row hx) (Nat.zero_le _)
set_option maxHeartbeats 8000000 in
theorem copy12 {M : Nat → Prop} {hb n : Nat} {sc : List Int} {L : List Nat} {W : World} (H : Hx M hb n sc L W) :
    Calls Try.prog 12 #[.pointer (some ⟨hb, 0, none⟩)] W fun e w' => CopyH W n sc L e w' := by
  obtain ⟨sv, pv, lv, vs, pl, h1, h2⟩ := H
  obtain ⟨o1, d1, rfl⟩ := own_slc h1.scs
  obtain ⟨o2, d2, rfl⟩ := own_slc h1.pls
  obtain ⟨o3, d3, rfl⟩ := own_slc h1.row
  have hvl := h2.len
  obtain ⟨t, ht⟩ : ∃ t, vs.length = t := ⟨_, rfl⟩
  have HC := hid (fun (X : World) (hX : Below W.heap.size W X) => show X.cell? ⟨hb, 0, none⟩ = some (.slice o1 n d1) ∧ X.cell? ⟨hb, 1, none⟩ = some (.slice o3 t d3) ∧ X.cell? ⟨hb, 2, none⟩ = some (.slice o2 n d2) from by
    have hx := (hX.block _ (lt_of_blk h1.blk)).trans h1.blk
    have q1 := row_cell hx 1
    rw [ht] at q1
    exact ⟨row_cell hx 0, q1, row_cell hx 2⟩)
  have hrow := h1.row
  rw [ht] at hrow
  have CV := hid (cl30 (W := W) (by have := h2.mx; omega) hrow (ivs_one vs))
  have CP := hid (cl30 (W := W) (by have := h2.mx; omega) h1.pls (iss_one pl))
  have CS := hid (cl31 (W := W) (by have := h2.mx; omega) h1.scs (iss_one sc))
  have HG := hid h2
  have HT := hid ht
  have ⟨c0, c1, c2⟩ := HC.out W (Below.refl _ _)
  have ⟨c0', c1', c2'⟩ := HC.out _ ((Below.refl W.heap.size W).alloc (Nat.le_refl _) (.cells #[.slice none 0 0, .slice none 0 0, .nilFunc] 57))
  clear h1 h2 hvl hrow ht
  go_enter Try.func12, Try.ntmps12
  go_wp2_with (fail)
  go_region_law (first
    | (go_simp; go_at_call 30; refine (CV.out _ (by first | exact (Below.refl _ _).drew | exact ((Below.refl _ _).drew.alloc (Nat.le_refl _) _) | exact ((Below.refl _ _).alloc (Nat.le_refl _) _).drew)).mono ?_; rintro e w1 ⟨o4, k4, rfl, ow1, hx1, hb1⟩; have ⟨p0, p1, p2⟩ := HC.out _ hb1; have ⟨p0', p1', p2'⟩ := HC.out _ (hb1.alloc hb1.size (.cells #[.slice none 0 0, .slice none 0 0, .nilFunc] 57)); clear CV)
    | (go_simp; go_at_call 30; refine (CP.out _ (by first | exact hb1 | exact (hb1.alloc hb1.size _))).mono ?_; rintro e w2 ⟨o5, k5, rfl, ow2, hx2, hb2⟩; have ⟨r0, r1, r2⟩ := HC.out _ hb2; clear CP
       first
         | (have hz : w2.heap[w1.heap.size]? = some (.cells #[.slice none 0 0, .slice none 0 0, .nilFunc] 57 (0, 0)) := (hx2.block _ (by simp)).trans (heap_alloc_new w1 _)
            have z0 := row_cell hz 0
            have z1 := row_cell hz 1
            have z2 := row_cell hz 2
            have f0 := row_frozen hz 0
            have f1 := row_frozen hz 1
            have f2 := row_frozen hz 2)
         | (have hz1 : w1.heap[W.heap.size]? = some (.cells #[.slice none 0 0, .slice none 0 0, .nilFunc] 57 (0, 0)) := (hx1.block _ (by simp)).trans (heap_alloc_new W.drew _)
            have hz : w2.heap[W.heap.size]? = some (.cells #[.slice none 0 0, .slice none 0 0, .nilFunc] 57 (0, 0)) := (hx2.block _ (lt_of_blk hz1)).trans hz1
            have z0 := row_cell hz 0
            have z1 := row_cell hz 1
            have z2 := row_cell hz 2
            have f0 := row_frozen hz 0
            have f1 := row_frozen hz 1
            have f2 := row_frozen hz 2)
         | skip))
  all_goals
    first
      | (have MID := hid (midS hz (by first | exact hb1.size | exact Nat.le_refl _) (by first | exact (Below.refl _ _).drew | exact ((Below.refl _ _).alloc (Nat.le_refl _) _).drew) ow1 (by first | exact Below.refl _ _ | exact below_box _ _) ow2 hx2 hb2 hb1); clear ow1 ow2 hx1 hx2 hz z0 z1 z2 f0 f1 f2)
      | (have MID := hid (midA (by first | exact (Below.refl _ _).drew | exact ((Below.refl _ _).alloc (Nat.le_refl _) _).drew) ow1 (by first | exact Below.refl _ _ | exact below_box _ _) ow2 hx2 hb2 hb1); clear ow1 ow2 hx1 hx2)
    try clear hz1
    clear p0 p1 p2 p0' p1' p2' r0 r1 r2 c0 c1 c2 c0' c1' c2' hb1 hb2
    first
      | (obtain ⟨X, hX⟩ : ∃ X, w2.alloc (.cells #[.slice o4 t k4, .slice o5 n k5, .nilFunc] 57) = X := ⟨_, rfl⟩; rw [hX] at MID ⊢; clear hX)
      | (obtain ⟨X, hX⟩ : ∃ X, ((w2.setCell ⟨w1.heap.size, 0, none⟩ (.slice o4 t k4)).setCell ⟨w1.heap.size, 1, none⟩ (.slice o5 n k5)).setCell ⟨w1.heap.size, 2, none⟩ .nilFunc = X := ⟨_, rfl⟩; rw [hX] at MID ⊢; clear hX)
      | (obtain ⟨X, hX⟩ : ∃ X, ((w2.setCell ⟨W.heap.size, 0, none⟩ (.slice o4 t k4)).setCell ⟨W.heap.size, 1, none⟩ (.slice o5 n k5)).setCell ⟨W.heap.size, 2, none⟩ .nilFunc = X := ⟨_, rfl⟩; rw [hX] at MID ⊢; clear hX)
    have ⟨q0, _, _⟩ := HC.out _ MID.out.bel
    have b0 := row_cell MID.out.box 0
    have b1 := row_cell MID.out.box 1
    have b2 := row_cell MID.out.box 2
    have CS2 := hid (fun q => CS.out _ (MID.out.bel.trans ((Drawn.below ⟨q, rfl⟩).mono MID.out.bel.size)))
    go_wp2_with (fail)
    go_region_law (first
      | (go_simp; go_at_call 31; refine (CS2.out 1).mono ?_; rintro e w5 ⟨o6, k6, rfl, ow5, hx5, hb5⟩
         have MID5 := hid ((MID.out.below (Drawn.below ⟨1, rfl⟩)).below hx5)
         have b0' := row_cell MID5.out.box 0
         have b1' := row_cell MID5.out.box 1
         have b2' := row_cell MID5.out.box 2)
      | (go_simp; go_at_call 28; refine (over28 _ _ _ _ _ _ _ _ _ _).mono ?_; rintro e w6 ⟨hb6, rfl, hle6, hblk6, hx6⟩))
    all_goals
      have HO := hid (copyEnd HG.out HT.out MID5.out (own_base ow5 MID.out.bel.size) hle6 hblk6 hx6)
      clear MID MID5 CS2 ow5 hx5 hb5 hle6 hblk6 hx6
      go_wp2
      go_ret
      exact HO.out
end Go.Proofs.Ytjbnkkjihcoojaa
