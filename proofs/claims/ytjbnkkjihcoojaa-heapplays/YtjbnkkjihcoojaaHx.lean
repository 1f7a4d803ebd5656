/- The heap as its calls see it: scores, and a row in order. -/
import Derived.Test.YtjbnkkjihcoojaaHfm
namespace Go.Proofs.Ytjbnkkjihcoojaa
open Go.RowKit Go.Maps
set_option linter.unusedVariables false
set_option maxRecDepth 100000

def Qm (M : Nat → Prop) (W : World) (g : Nat) : Prop := g < W.heap.size ∧ ¬ M g
/-- Names fewer. -/
theorem Hp.less {Q Q' : Nat → Prop} {hb : Nat} {sv pv lv : Value} {n : Nat} {sc : List Int} {vs : List Nat} {pl : List Int} {W : World} (H : Hp Q hb sv pv lv n sc vs pl W) (hq : ∀ g, Q' g → Q g) : Hp Q' hb sv pv lv n sc vs pl W :=
  ⟨fun g hg => H.lt g (hq g hg), fun hg => H.nh (hq _ hg), fun g e hg => H.ns g e (hq _ hg), fun g e hg => H.np g e (hq _ hg), fun g e hg => H.nl g e (hq _ hg), H.lp, H.blk, H.scs, H.pls, H.row⟩
/-- What holds of a heap beside its memory. -/
structure Gd (n : Nat) (sc : List Int) (L vs : List Nat) (pl : List Int) : Prop where
  mx : n ≤ 1048576
  pls : Hpp.Pl n vs pl
  pm : vs.Perm L
  ho : HO0 sc vs
  srt : Hpp.Srt sc L
  bd : ∀ u, u < n → 0 ≤ sc.getD u 0 ∧ sc.getD u 0 ≤ 1152921504606846976
def Hx (M : Nat → Prop) (hb n : Nat) (sc : List Int) (L : List Nat) (W : World) : Prop := ∃ sv pv lv vs pl, Hp (Qm M W) hb sv pv lv n sc vs pl W ∧ Gd n sc L vs pl
/-- What a call leaves. -/
def HxO (M : Nat → Prop) (hb n : Nat) (sc : List Int) (L : List Nat) (W w' : World) : Prop := Hx (fun g => M g ∨ W.heap.size ≤ g) hb n sc L w' ∧ Fq (Qm M W) W w'
theorem nodup_len : ∀ (n : Nat) (vs : List Nat), vs.Nodup → (∀ u ∈ vs, u < n) → vs.length ≤ n
  | 0, vs, _, h => by cases vs with | nil => exact Nat.le_refl _ | cons a l => exact absurd (h a (.head _)) (by omega)
  | n + 1, vs, hd, h => by
    by_cases hn : n ∈ vs
    · have := nodup_len n (vs.erase n) (hd.sublist List.erase_sublist) (fun u hu => by
        have h1 := (hd.mem_erase_iff).1 hu
        have := h u h1.2
        have := h1.1
        omega)
      rw [List.length_erase_of_mem hn] at this
      omega
    · have := nodup_len n vs hd (fun u hu => by
        have h1 := h u hu
        have : u ≠ n := fun e => hn (e ▸ hu)
        omega)
      omega
theorem Gd.len {n : Nat} {sc : List Int} {L vs : List Nat} {pl : List Int} (h : Gd n sc L vs pl) : vs.length ≤ n := nodup_len n vs h.pls.nodup (fun u hu => h.pls.lt hu)
theorem HxO.of {M : Nat → Prop} {hb n : Nat} {sc : List Int} {L vs : List Nat} {pl : List Int} {sv pv lv : Value} {W w' : World} (h : Hp (Qm M W) hb sv pv lv n sc vs pl w') (hf : Fq (Qm M W) W w') (hg : Gd n sc L vs pl) : HxO M hb n sc L W w' :=
  ⟨⟨sv, pv, lv, vs, pl, h.less (fun g hq => ⟨by rcases Nat.lt_or_ge g W.heap.size with k | k; exact k; exact absurd (.inr k) hq.2, fun hm => hq.2 (.inl hm)⟩), hg⟩, hf⟩
theorem Hx.below {M : Nat → Prop} {hb n : Nat} {sc : List Int} {L : List Nat} {W W' : World} (h : Hx M hb n sc L W) (hb' : Below W.heap.size W W') : HxO M hb n sc L W W' := by
  obtain ⟨sv, pv, lv, vs, pl, h1, h2⟩ := h
  exact HxO.of (h1.below hb') (Fq.of_below hb') h2
theorem HxO.refl {M : Nat → Prop} {hb n : Nat} {sc : List Int} {L : List Nat} {W : World} (h : Hx M hb n sc L W) : HxO M hb n sc L W W := h.below (Below.refl _ _)
theorem wrong39_no {M : Nat → Prop} {hb n : Nat} {sc : List Int} {L : List Nat} {W : World} (H : Hx M hb n sc L W) (v : Int) (hv : v < 1 ∨ (n : Int) < v) :
    Calls Try.prog 39 #[.pointer (some ⟨hb, 0, none⟩), .int .i64 v] W fun e w' => e = .returned (.int .i64 2) ∧ w' = W := by
  obtain ⟨sv, pv, lv, vs, pl, h1, h2⟩ := H
  obtain ⟨o, c, rfl⟩ := own_slc h1.scs
  have c0 := row_cell h1.blk 0
  have hn := h2.mx
  clear h1 h2
  by_cases hv1 : v < 1
  · clear hv
    go_enter Try.func39, Try.ntmps39
    go_wp2
    go_ret
    exact ⟨rfl, rfl⟩
  · have hv2 : (n : Int) < v := by omega
    clear hv
    go_enter Try.func39, Try.ntmps39
    go_wp2
    go_ret
    exact ⟨rfl, rfl⟩
theorem wrong39_ok {M : Nat → Prop} {hb n : Nat} {sc : List Int} {L : List Nat} {W : World} (H : Hx M hb n sc L W) {u : Nat} (hu : u < n) :
    Calls Try.prog 39 #[.pointer (some ⟨hb, 0, none⟩), .int .i64 ((u : Int) + 1)] W fun e w' => e = .returned (.int .i64 0) ∧ w' = W := by
  obtain ⟨sv, pv, lv, vs, pl, h1, h2⟩ := H
  obtain ⟨o, c, rfl⟩ := own_slc h1.scs
  have c0 := row_cell h1.blk 0
  have hn := h2.mx
  have hv1 : ¬ (u : Int) + 1 < 1 := by omega
  have hv2 : ¬ (n : Int) < (u : Int) + 1 := by omega
  clear h1 h2
  go_enter Try.func39, Try.ntmps39
  go_wp2
  go_ret
  exact ⟨rfl, rfl⟩
/-- The 64 bits of a number. -/
def I64 (n : Int) : Prop := -9223372036854775808 ≤ n ∧ n ≤ 9223372036854775807
/-- What is asked of a number of any kind: it is a variable, or none. -/
theorem var_or (n : Nat) (v : Int) : (v < 1 ∨ (n : Int) < v) ∨ ∃ u : Nat, u < n ∧ v = (u : Int) + 1 := by
  by_cases h : v < 1 ∨ (n : Int) < v
  · exact .inl h
  · exact .inr ⟨(v - 1).toNat, by omega, by omega⟩
theorem has22_no {M : Nat → Prop} {hb n : Nat} {sc : List Int} {L : List Nat} {W : World} (H : Hx M hb n sc L W) (v : Int) (hv : v < 1 ∨ (n : Int) < v) :
    Calls Try.prog 22 #[.pointer (some ⟨hb, 0, none⟩), .int .i64 v] W fun e w' => e = .returned (.bool false) ∧ w' = W := by
  have C := hid (wrong39_no H v hv)
  clear H hv
  go_enter Try.func22, Try.ntmps22
  go_wp2_with (go_at_call 39; refine C.out.mono ?_; rintro e w4 ⟨rfl, hw4⟩; rw [hw4]; clear hw4)
  go_ret
  exact ⟨rfl, rfl⟩
theorem has22_ok {M : Nat → Prop} {hb n : Nat} {sc : List Int} {L : List Nat} {W : World} (H : Hx M hb n sc L W) {u : Nat} (hu : u < n) :
    Calls Try.prog 22 #[.pointer (some ⟨hb, 0, none⟩), .int .i64 ((u : Int) + 1)] W fun e w' => e = .returned (.bool (decide (u ∈ L))) ∧ w' = W := by
  have C := hid (wrong39_ok H hu)
  obtain ⟨sv, pv, lv, vs, pl, h1, h2⟩ := H
  obtain ⟨gp, cp, rfl, pc, pz⟩ := h1.pat (by omega)
  have c2 := row_cell h1.blk 2
  have pu := pc u hu
  have hn := h2.mx
  have hu' : (u : Int) < n := by omega
  have hu0 : (0 : Int) ≤ u := by omega
  have E := hid (show decide (u ∈ L) = (pl.getD u 0 != -1) from by
    have h3 := h2.pls.has hu
    have h4 := h2.pm.mem_iff (a := u)
    by_cases h5 : u ∈ L
    · rw [decide_eq_true h5]
      have := h3.2 (h4.2 h5)
      simpa using this
    · rw [decide_eq_false h5]
      have : pl.getD u 0 = -1 := by
        by_cases h6 : pl.getD u 0 = -1
        · exact h6
        · exact absurd (h4.1 (h3.1 h6)) h5
      rw [this]; rfl)
  rw [E.out]
  clear E
  generalize pl.getD u 0 = p at *
  clear h1 h2 pc pz
  go_enter Try.func22, Try.ntmps22
  go_wp2_with (go_at_call 39; refine C.out.mono ?_; rintro e w4 ⟨rfl, hw4⟩; rw [hw4]; clear hw4)
  go_ret
  exact ⟨rfl, rfl⟩
theorem size21 {M : Nat → Prop} {hb n : Nat} {sc : List Int} {L : List Nat} {W : World} (H : Hx M hb n sc L W) :
    Calls Try.prog 21 #[.pointer (some ⟨hb, 0, none⟩)] W fun e w' => e = .returned (.int .i64 L.length) ∧ w' = W := by
  obtain ⟨sv, pv, lv, vs, pl, h1, h2⟩ := H
  have C := hid (len47 h1)
  rw [h2.pm.length_eq] at C
  generalize L.length = k at *
  clear h1 h2
  go_enter Try.func21, Try.ntmps21
  go_wp2_with (go_at_call 47; refine C.out.mono ?_; rintro e w4 ⟨rfl, hw4⟩; rw [hw4]; clear hw4)
  go_ret
  exact ⟨rfl, rfl⟩
theorem score23_no {M : Nat → Prop} {hb n : Nat} {sc : List Int} {L : List Nat} {W : World} (H : Hx M hb n sc L W) (v : Int) (hv : v < 1 ∨ (n : Int) < v) :
    Calls Try.prog 23 #[.pointer (some ⟨hb, 0, none⟩), .int .i64 v] W fun e w' => e = .returned (.int .i64 0) ∧ w' = W := by
  have C := hid (wrong39_no H v hv)
  clear H hv
  go_enter Try.func23, Try.ntmps23
  go_wp2_with (go_at_call 39; refine C.out.mono ?_; rintro e w4 ⟨rfl, hw4⟩; rw [hw4]; clear hw4)
  go_ret
  exact ⟨rfl, rfl⟩
theorem score23_ok {M : Nat → Prop} {hb n : Nat} {sc : List Int} {L : List Nat} {W : World} (H : Hx M hb n sc L W) {u : Nat} (hu : u < n) :
    Calls Try.prog 23 #[.pointer (some ⟨hb, 0, none⟩), .int .i64 ((u : Int) + 1)] W fun e w' => e = .returned (.int .i64 (sc.getD u 0)) ∧ Drawn W w' := by
  have C := hid (wrong39_ok H hu)
  obtain ⟨sv, pv, lv, vs, pl, h1, h2⟩ := H
  obtain ⟨gs, c, rfl, hc⟩ := Sc.at (W := W) h1.scs hu
  have c0 := row_cell h1.blk 0
  have su := hc u hu
  have hn := h2.mx
  have hu' : (u : Int) < n := by omega
  have hu0 : (0 : Int) ≤ u := by omega
  generalize sc.getD u 0 = x at *
  clear h1 h2 hc
  go_enter Try.func23, Try.ntmps23
  go_wp2_with (go_at_call 39; refine C.out.mono ?_; rintro e w4 ⟨rfl, hw4⟩; rw [hw4]; clear hw4)
  first
    | (go_ret; exact ⟨rfl, Drawn.refl _⟩)
    | (go_quiet (fail); go_wp2; go_ret; exact ⟨rfl, _, rfl⟩)
theorem top27_no {M : Nat → Prop} {hb n : Nat} {sc : List Int} {W : World} (H : Hx M hb n sc [] W) :
    Calls Try.prog 27 #[.pointer (some ⟨hb, 0, none⟩)] W fun e w' => e = .returned (.tuple #[.int .i64 0, .bool false]) ∧ w' = W := by
  have C := hid (size21 H)
  rw [show ((([] : List Nat).length : Nat) : Int) = 0 from rfl] at C
  clear H
  go_enter Try.func27, Try.ntmps27
  go_wp2_with (go_at_call 21; refine C.out.mono ?_; rintro e w4 ⟨rfl, hw4⟩; rw [hw4]; clear hw4)
  go_ret2
  exact ⟨rfl, rfl⟩
theorem top27_ok {M : Nat → Prop} {hb n : Nat} {sc : List Int} {u : Nat} {L : List Nat} {W : World} (H : Hx M hb n sc (u :: L) W) :
    Calls Try.prog 27 #[.pointer (some ⟨hb, 0, none⟩)] W fun e w' => e = .returned (.tuple #[.int .i64 ((u : Int) + 1), .bool true]) ∧ Drawn W w' := by
  have C := hid (size21 H)
  obtain ⟨sv, pv, lv, vs, pl, h1, h2⟩ := H
  have hlen : vs.length = L.length + 1 := h2.pm.length_eq
  obtain ⟨gl, cl, rfl, hc, hz⟩ := h1.at (by omega)
  have c1 := row_cell h1.blk 1
  have c0 := hc 0 (by omega)
  rw [Hpp.top_eq h2.ho h2.srt h2.pm rfl (by omega)] at c0
  have hn0 : ((((u :: L).length : Nat) : Int) == 0) = false := by simp; omega
  have h0 : (0 : Int) < vs.length := by omega
  generalize (u :: L).length = k at *
  generalize vs.length = m at *
  clear h1 h2 hc hz hlen
  go_enter Try.func27, Try.ntmps27
  go_wp2_with (go_at_call 21; refine C.out.mono ?_; rintro e w4 ⟨rfl, hw4⟩; rw [hw4]; clear hw4)
  first
    | (go_ret2; exact ⟨rfl, Drawn.refl _⟩)
    | (go_quiet (fail); go_wp2; go_ret2; exact ⟨rfl, _, rfl⟩)
end Go.Proofs.Ytjbnkkjihcoojaa
