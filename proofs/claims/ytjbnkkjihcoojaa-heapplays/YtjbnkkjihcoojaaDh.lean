/- The document's heap in memory; its small calls. -/
import Derived.Test.YtjbnkkjihcoojaaPps
namespace Go.Proofs.Ytjbnkkjihcoojaa
open Go.RowKit Go.Maps
set_option linter.unusedVariables false
set_option maxRecDepth 100000

structure Dm (Q : Nat → Prop) (mb : Nat) (sv lv : Value) (n : Nat) (sc : List Int) (L : List Nat) (W : World) : Prop where
  lt : ∀ g, Q g → g < W.heap.size
  nb : ¬ Q mb
  ns : ∀ g, sv.ownBlock = some g → ¬ Q g
  nl : ∀ g, lv.ownBlock = some g → ¬ Q g
  blk : W.heap[mb]? = some (.cells #[sv, lv] 59 (0, 0))
  scs : W.ownsRow 0 2 1 sv (n + 1) (iss (0 :: sc))
  row : W.ownsRow 0 3 1 lv L.length (ivs L)
  nil : L = [] → lv = .slice none 0 0
structure Gx (n : Nat) (sc : List Int) (L : List Nat) : Prop where
  mx : n ≤ 1048576
  len : sc.length = n
  nd : L.Nodup
  lt : ∀ u ∈ L, u < n
  bd : ∀ u, u < n → 0 ≤ sc.getD u 0 ∧ sc.getD u 0 ≤ 1152921504606846976
def Dx (M : Nat → Prop) (mb n : Nat) (sc : List Int) (L : List Nat) (W : World) : Prop := ∃ sv lv, Dm (Qm M W) mb sv lv n sc L W ∧ Gx n sc L
def DxO (M : Nat → Prop) (mb n : Nat) (sc : List Int) (L : List Nat) (W w' : World) : Prop := Dx (fun g => M g ∨ W.heap.size ≤ g) mb n sc L w' ∧ Fq (Qm M W) W w'
theorem Dm.keep {Q Q' : Nat → Prop} {mb : Nat} {sv lv : Value} {n : Nat} {sc : List Int} {L : List Nat} {W W' : World} (H : Dm Q mb sv lv n sc L W) (hf : Fq Q' W W') (h1 : Q' mb) (h2 : ∀ g, sv.ownBlock = some g → Q' g) (h4 : ∀ g, lv.ownBlock = some g → Q' g) : Dm Q mb sv lv n sc L W' :=
  ⟨fun g hg => Nat.lt_of_lt_of_le (H.lt g hg) hf.size, H.nb, H.ns, H.nl, hf.block _ _ H.blk h1, own_fq H.scs hf h2, own_fq H.row hf h4, H.nil⟩
theorem Dm.below {Q : Nat → Prop} {mb : Nat} {sv lv : Value} {n : Nat} {sc : List Int} {L : List Nat} {W W' : World} (H : Dm Q mb sv lv n sc L W) (h : Below W.heap.size W W') : Dm Q mb sv lv n sc L W' :=
  H.keep (Q' := fun _ => True) (Fq.of_below h) trivial (fun _ _ => trivial) (fun _ _ => trivial)
theorem Dm.lts {Q : Nat → Prop} {mb : Nat} {sv lv : Value} {n : Nat} {sc : List Int} {L : List Nat} {W : World} (H : Dm Q mb sv lv n sc L W) : mb < W.heap.size ∧ (∀ g, sv.ownBlock = some g → g < W.heap.size) ∧ (∀ g, lv.ownBlock = some g → g < W.heap.size) :=
  ⟨lt_of_blk H.blk, fun g e => by obtain ⟨_, c, hc⟩ := own_blk H.scs e; exact lt_of_blk hc, fun g e => by obtain ⟨_, c, hc⟩ := own_blk H.row e; exact lt_of_blk hc⟩
theorem Dm.apart {Q : Nat → Prop} {mb : Nat} {sv lv : Value} {n : Nat} {sc : List Int} {L : List Nat} {W : World} (H : Dm Q mb sv lv n sc L W) : sv.ownBlock ≠ some mb ∧ lv.ownBlock ≠ some mb ∧ (∀ g, sv.ownBlock = some g → lv.ownBlock ≠ some g) := by
  refine ⟨fun e => own_type H.scs H.blk (by decide) e.symm, fun e => own_type H.row H.blk (by decide) e.symm, fun g e1 e2 => ?_⟩
  obtain ⟨_, c, hc⟩ := own_blk H.scs e1
  exact own_type H.row hc (by decide) e2.symm
theorem Dm.more {Q Q' : Nat → Prop} {mb : Nat} {sv lv : Value} {n : Nat} {sc : List Int} {L : List Nat} {W : World} (H : Dm Q mb sv lv n sc L W) (m : Nat) (hq : ∀ g, Q' g → Q g ∨ (m ≤ g ∧ g < W.heap.size)) (hm : mb < m ∧ (∀ g, sv.ownBlock = some g → g < m) ∧ (∀ g, lv.ownBlock = some g → g < m)) : Dm Q' mb sv lv n sc L W :=
  ⟨fun g hg => (hq g hg).elim (H.lt g) (·.2), fun hg => (hq _ hg).elim H.nb (fun h => by omega), fun g e hg => (hq _ hg).elim (H.ns g e) (fun h => by have := hm.2.1 g e; omega), fun g e hg => (hq _ hg).elim (H.nl g e) (fun h => by have := hm.2.2 g e; omega), H.blk, H.scs, H.row, H.nil⟩
theorem Dm.less {Q Q' : Nat → Prop} {mb : Nat} {sv lv : Value} {n : Nat} {sc : List Int} {L : List Nat} {W : World} (H : Dm Q mb sv lv n sc L W) (hq : ∀ g, Q' g → Q g) : Dm Q' mb sv lv n sc L W :=
  ⟨fun g hg => H.lt g (hq g hg), fun hg => H.nb (hq _ hg), fun g e hg => H.ns g e (hq _ hg), fun g e hg => H.nl g e (hq _ hg), H.blk, H.scs, H.row, H.nil⟩
theorem DxO.of {M : Nat → Prop} {mb n : Nat} {sc : List Int} {L : List Nat} {sv lv : Value} {W w' : World} (h : Dm (Qm M W) mb sv lv n sc L w') (hf : Fq (Qm M W) W w') (hg : Gx n sc L) : DxO M mb n sc L W w' :=
  ⟨⟨sv, lv, h.less (fun g hq => ⟨by rcases Nat.lt_or_ge g W.heap.size with k | k; exact k; exact absurd (.inr k) hq.2, fun hm => hq.2 (.inl hm)⟩), hg⟩, hf⟩
theorem Dx.below {M : Nat → Prop} {mb n : Nat} {sc : List Int} {L : List Nat} {W W' : World} (h : Dx M mb n sc L W) (hb' : Below W.heap.size W W') : DxO M mb n sc L W W' := by
  obtain ⟨sv, lv, h1, h2⟩ := h
  exact DxO.of (h1.below hb') (Fq.of_below hb') h2
theorem Dx.sharp {M : Nat → Prop} {mb n : Nat} {sc : List Int} {L : List Nat} {W W' : World} (h : Dx M mb n sc L W) (hb' : Below W.heap.size W W') : Dx (fun g => M g ∧ g < W.heap.size) mb n sc L W' := by
  obtain ⟨sv, lv, h1, h2⟩ := h
  refine ⟨sv, lv, (h1.below hb').more W.heap.size (fun g hq => ?_) h1.lts, h2⟩
  rcases Nat.lt_or_ge g W.heap.size with k | k
  · exact .inl ⟨k, fun hm => hq.2 ⟨hm, k⟩⟩
  · exact .inr ⟨k, hq.1⟩
theorem Dx.more {M M' : Nat → Prop} {mb n : Nat} {sc : List Int} {L : List Nat} {W : World} (h : Dx M mb n sc L W) (hm : ∀ g, M g → M' g) : Dx M' mb n sc L W := by
  obtain ⟨sv, lv, h1, h2⟩ := h
  exact ⟨sv, lv, h1.less (fun g hq => ⟨hq.1, fun k => hq.2 (hm g k)⟩), h2⟩
theorem DxO.next {M : Nat → Prop} {mb n : Nat} {sc sc' : List Int} {L L' : List Nat} {B w w' : World} (h : DxO M mb n sc L B w) (k : DxO (fun g => M g ∨ B.heap.size ≤ g) mb n sc' L' w w') : DxO M mb n sc' L' B w' := by
  have hs := h.2.size
  refine ⟨k.1.more (fun g hg => hg.elim id (fun h => .inr (Nat.le_trans hs h))), h.2.trans (k.2.mono fun g hg => ⟨by have := hg.1; omega, fun h => h.elim hg.2 (fun h => by have := hg.1; omega)⟩)⟩
theorem Dx.gx {M : Nat → Prop} {mb n : Nat} {sc : List Int} {L : List Nat} {W : World} (h : Dx M mb n sc L W) : Gx n sc L := by
  obtain ⟨sv, lv, h1, h2⟩ := h
  exact h2
theorem is49_no {M : Nat → Prop} {mb n : Nat} {sc : List Int} {L : List Nat} {W : World} (H : Dx M mb n sc L W) (v : Int) (hv : v < 1 ∨ (n : Int) < v) :
    Calls Try.prog 49 #[.pointer (some ⟨mb, 0, none⟩), .int .i64 v] W fun e w' => e = .returned (.bool false) ∧ w' = W := by
  obtain ⟨sv, lv, h1, h2⟩ := H
  obtain ⟨o, c, rfl⟩ := own_slc h1.scs
  have c0 := row_cell h1.blk 0
  have hn := h2.mx
  obtain ⟨m, hm⟩ : ∃ m, n + 1 = m := ⟨_, rfl⟩
  rw [hm] at c0
  by_cases hv1 : v < 1
  · have hx : ¬ 1 ≤ v := by omega
    clear h1 h2 hv
    go_enter Try.func49, Try.ntmps49
    go_wp2
    go_ret
    exact ⟨rfl, rfl⟩
  · have hx : 1 ≤ v := by omega
    have hy : decide (v < (m : Int)) = false := decide_eq_false (by omega)
    clear h1 h2 hv hv1
    go_enter Try.func49, Try.ntmps49
    go_wp2
    go_ret
    exact ⟨rfl, rfl⟩
theorem is49_ok {M : Nat → Prop} {mb n : Nat} {sc : List Int} {L : List Nat} {W : World} (H : Dx M mb n sc L W) {u : Nat} (hu : u < n) :
    Calls Try.prog 49 #[.pointer (some ⟨mb, 0, none⟩), .int .i64 ((u : Int) + 1)] W fun e w' => e = .returned (.bool true) ∧ w' = W := by
  obtain ⟨sv, lv, h1, h2⟩ := H
  obtain ⟨o, c, rfl⟩ := own_slc h1.scs
  have c0 := row_cell h1.blk 0
  have hn := h2.mx
  obtain ⟨m, hm⟩ : ∃ m, n + 1 = m := ⟨_, rfl⟩
  rw [hm] at c0
  have hx : 1 ≤ (u : Int) + 1 := by omega
  have hy : decide ((u : Int) + 1 < (m : Int)) = true := decide_eq_true (by omega)
  clear h1 h2
  go_enter Try.func49, Try.ntmps49
  go_wp2
  go_ret
  exact ⟨rfl, rfl⟩
theorem Dx.cells {M : Nat → Prop} {mb n : Nat} {sc : List Int} {L : List Nat} {W : World} (H : Dx M mb n sc L W) : ∃ gs cs o c, W.cell? ⟨mb, 0, none⟩ = some (.slice (some ⟨gs, 0, none⟩) (n + 1) cs) ∧ W.cell? ⟨mb, 1, none⟩ = some (.slice o L.length c) ∧ (∀ u, u < n → W.cell? ⟨gs, u + 1, none⟩ = some (.int .i64 (sc.getD u 0))) ∧ W.ownsRow 0 3 1 (.slice o L.length c) L.length (ivs L) ∧ (L = [] → o = none ∧ c = 0) := by
  obtain ⟨sv, lv, h1, h2⟩ := H
  obtain ⟨o, c, rfl⟩ := own_slc h1.row
  obtain ⟨gs, cs, rfl, hc⟩ := Sc.at (W := W) h1.scs (u := 0) (by omega)
  refine ⟨gs, cs, o, c, row_cell h1.blk 0, row_cell h1.blk 1, fun u hu => ?_, h1.row, fun e => by have := h1.nil e; injection this with a b c; exact ⟨a, c⟩⟩
  have := hc (u + 1) (by omega)
  rw [this]
  simp
theorem score38_no {M : Nat → Prop} {mb n : Nat} {sc : List Int} {L : List Nat} {W : World} (H : Dx M mb n sc L W) (v : Int) (hv : v < 1 ∨ (n : Int) < v) :
    Calls Try.prog 38 #[.pointer (some ⟨mb, 0, none⟩), .int .i64 v] W fun e w' => e = .returned (.int .i64 0) ∧ w' = W := by
  have C := hid (is49_no H v hv)
  clear H hv
  go_enter Try.func38, Try.ntmps38
  go_wp2_with (go_at_call 49; refine C.out.mono ?_; rintro e w4 ⟨rfl, hw4⟩; rw [hw4]; clear hw4)
  go_ret
  exact ⟨rfl, rfl⟩
theorem score38_ok {M : Nat → Prop} {mb n : Nat} {sc : List Int} {L : List Nat} {W : World} (H : Dx M mb n sc L W) {u : Nat} (hu : u < n) :
    Calls Try.prog 38 #[.pointer (some ⟨mb, 0, none⟩), .int .i64 ((u : Int) + 1)] W fun e w' => e = .returned (.int .i64 (sc.getD u 0)) ∧ w' = W := by
  have C := hid (is49_ok H hu)
  obtain ⟨gs, cs, o, c, c0, c1, hc, _⟩ := H.cells
  have x1 := hc u hu
  have hx : (u : Int) + 1 < ((n + 1 : Nat) : Int) := by omega
  obtain ⟨m, hm⟩ : ∃ m, n + 1 = m := ⟨_, rfl⟩
  rw [hm] at c0 hx
  generalize sc.getD u 0 = s at *
  have hu1 : ((u : Int) + 1).toNat = u + 1 := by omega
  clear H hc
  go_enter Try.func38, Try.ntmps38
  go_wp2_with (go_at_call 49; refine C.out.mono ?_; rintro e w4 ⟨rfl, hw4⟩; rw [hw4]; clear hw4)
  go_ret
  exact ⟨rfl, rfl⟩
theorem top36_no {M : Nat → Prop} {mb n : Nat} {sc : List Int} {W : World} (H : Dx M mb n sc [] W) :
    Calls Try.prog 36 #[.pointer (some ⟨mb, 0, none⟩)] W fun e w' => e = .returned (.tuple #[.int .i64 0, .bool false]) ∧ w' = W := by
  obtain ⟨gs, cs, o, c, c0, c1, hc, _⟩ := H.cells
  rw [show ([] : List Nat).length = 0 from rfl] at c1
  clear H hc
  go_enter Try.func36, Try.ntmps36
  go_wp2
  go_ret2
  exact ⟨rfl, rfl⟩
theorem top36_ok {M : Nat → Prop} {mb n u : Nat} {sc : List Int} {L : List Nat} {W : World} (H : Dx M mb n sc (u :: L) W) :
    Calls Try.prog 36 #[.pointer (some ⟨mb, 0, none⟩)] W fun e w' => e = .returned (.tuple #[.int .i64 ((u : Int) + 1), .bool true]) ∧ w' = W := by
  obtain ⟨gs, cs, o, c, c0, c1, hc, ho, _⟩ := H.cells
  obtain ⟨g, d, e, q⟩ := own_at ho (by simp)
  cases e
  have x1 := q 0 (by simp)
  simp only [List.getD_cons_zero] at x1
  obtain ⟨t, ht⟩ : ∃ t, (u :: L).length = t := ⟨_, rfl⟩
  rw [ht] at c1
  have h0 : ((t : Int) == 0) = false := by simp; simp at ht; omega
  have h1 : (0 : Int) < t := by simp at ht; omega
  clear H hc q ht ho
  go_enter Try.func36, Try.ntmps36
  go_wp2
  go_ret2
  exact ⟨rfl, rfl⟩
end Go.Proofs.Ytjbnkkjihcoojaa
