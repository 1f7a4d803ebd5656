/- Back: the loop's own state. -/
import Derived.Test.YtckpahdlcdgbpaaSq
import Derived.Shelf.Abstract
namespace Trl
/-- The literal at a place, whatever number. -/
def enc (R : List E) (q : Nat) : Int := (get R (q % R.length)).lit
/-- What is known while some places are taken back. -/
def fcl (R : List E) (pre : List Nat) (u : Nat) : K := if pre.any (fun i => vr (enc R i) == (u : Int) + 1) then K0 else know R ((u : Nat) + 1)
theorem fcl_nil (R : List E) (u : Nat) : fcl R [] u = know R ((u : Nat) + 1) := by simp [fcl]
theorem fcl_snoc (R : List E) (pre : List Nat) (x v : Nat) (h : vr (enc R x) = (v : Int) + 1) (u : Nat) : (if u = v then K0 else fcl R pre u) = fcl R (pre ++ [x]) u := by
  unfold fcl
  rw [List.any_append]
  by_cases e : u = v
  · subst e; rw [if_pos rfl]; simp [h]
  · rw [if_neg e]
    have : (vr (enc R x) == (u : Int) + 1) = false := by simp; omega
    simp [this]
theorem enc_lt {R : List E} {q : Nat} (h : q < R.length) : enc R q = (get R q).lit := by unfold enc; rw [Nat.mod_eq_of_lt h]
theorem enc_ok {n : Nat} {s : S} (h : Ok n s) (hp : 0 < s.R.length) (q : Nat) : 1 ≤ vr (enc s.R q) ∧ vr (enc s.R q) ≤ n := h.lits _ (get_mem (Nat.mod_lt _ hp))
/-- All from lf on are taken back. -/
theorem fcl_all {n : Nat} {s : S} (h : Ok n s) (lf N : Nat) (hN : lf + N = s.R.length) (u : Nat) : fcl s.R ((List.range N).map (fun i => lf + (N - 1 - i))) u = know (s.R.take lf) ((u : Nat) + 1) := by
  unfold fcl
  cases hx : idx s.R ((u : Nat) + 1) with
  | none =>
    have h1 : know s.R ((u : Nat) + 1) = K0 := by unfold know; rw [hx]; rfl
    have h2 : know (s.R.take lf) ((u : Nat) + 1) = K0 := by
      unfold know; rw [idx_no (fun e he => idx_none hx e (List.mem_of_mem_take he))]; rfl
    rw [h1, h2]; split <;> rfl
  | some i =>
    obtain ⟨hi, hv⟩ := idx_some hx
    by_cases hlt : i < lf
    · rw [if_neg (by
        intro ha
        obtain ⟨j, hj, hj2⟩ := List.any_eq_true.1 ha
        obtain ⟨t, ht, rfl⟩ := List.mem_map.1 hj
        have ht' := List.mem_range.1 ht
        rw [enc_lt (by omega), beq_iff_eq] at hj2
        have := h.uniq (lf + (N - 1 - t)) i (by omega) hi (by rw [hj2, hv])
        omega)]
      have h3 : idx (s.R.take lf) ((u : Nat) + 1) = some i := by
        have e1 : get (s.R.take lf) i = get s.R i := get_take hlt
        have := idx_at (uniq_take h.uniq lf) (i := i) (by rw [List.length_take]; omega)
        rw [e1, hv] at this
        exact this
      unfold know
      rw [hx, h3]
      simp [get_take hlt]
    · rw [if_pos (by
        rw [List.any_eq_true]
        refine ⟨lf + (N - 1 - (lf + N - 1 - i)), List.mem_map.2 ⟨lf + N - 1 - i, List.mem_range.2 (by omega), rfl⟩, ?_⟩
        rw [show lf + (N - 1 - (lf + N - 1 - i)) = i by omega, enc_lt hi, beq_iff_eq]
        exact hv)]
      have h2 : know (s.R.take lf) ((u : Nat) + 1) = K0 := by
        unfold know
        rw [idx_no (fun e he hve => ?_)]
        · rfl
        · obtain ⟨j, hj, rfl⟩ := List.getElem_of_mem he
          rw [List.length_take] at hj
          have e1 : get s.R j = (s.R.take lf)[j] := by simp [get, List.getD, List.getElem?_eq_getElem (show j < s.R.length by omega)]
          have := h.uniq j i (by omega) hi (by rw [e1, hve, hv])
          omega
      rw [h2]
theorem gone_eq {s : S} (lf N : Nat) (hN : lf + N = s.R.length) : ((List.range N).map (fun i => lf + (N - 1 - i))).map (enc s.R) = ((s.R.drop lf).map E.lit).reverse := by
  apply List.ext_getElem
  · simp; omega
  · intro i h1 h2
    have hi : i < N := by simpa using h1
    simp only [List.getElem_map, List.getElem_range, List.getElem_reverse, List.getElem_drop, List.length_map, List.length_drop]
    rw [enc_lt (by omega)]
    have : lf + (N - 1 - i) = lf + (s.R.length - lf - 1 - i) := by omega
    rw [this]
    simp [get, List.getD, List.getElem?_eq_getElem (show lf + (s.R.length - lf - 1 - i) < s.R.length by omega)]
end Trl
namespace Go.Proofs.Ytckpahdlcdgbpaa
open Go.RowKit Go.Maps
set_option linter.unusedVariables false
set_option linter.unusedSimpArgs false

theorem Fr.box {p : Obj → Prop} {Q : Nat → Prop} {w X : World} (h : Fr p Q w X) {a : Addr} (ha : w.heap.size ≤ a.block) (u : Value) : Fr p Q w (X.setCell a u) :=
  ⟨h.os, h.tape, h.output, by rw [show (X.setCell a u).heap.size = X.heap.size by simp [World.setCell]]; exact h.size, fun g o hg hp => (Below.heap_setCell X a u g (fun e => by have := lt_of_blk hg; omega)).trans (h.block g o hg hp)⟩
theorem Tr.box {Q : Nat → Prop} {tb gv : Nat} {lv bv : Value} {n : Nat} {f : Nat → Trl.K} {R : List Trl.E} {B : List Nat} {h : Nat} {W : World} (H : Tr Q tb gv lv bv n f R B h W) {G : Nat} {cs : Array Value} {fr : Nat × Nat} (hG : W.heap[G]? = some (.cells cs 40 fr)) (t : Nat) (u : Value) : Tr Q tb gv lv bv n f R B h (W.setCell ⟨G, t, none⟩ u) := by
  obtain ⟨cur, q1, q2⟩ := H.var
  have n1 : tb ≠ G := by rintro rfl; have := H.blk; rw [hG] at this; injection this with e; injection e with _ e; cases e
  have n2 : gv ≠ G := by rintro rfl; rw [hG] at q1; injection q1 with e; injection e with _ e; cases e
  have hoth : ∀ x, x ≠ G → (W.setCell ⟨G, t, none⟩ u).heap[x]? = W.heap[x]? := fun x hx => heap_other W u hx
  exact ⟨fun g hg => by rw [show (W.setCell ⟨G, t, none⟩ u).heap.size = W.heap.size by simp [World.setCell]]; exact H.lt g hg, H.nt, H.nv, H.nl, H.nb, (hoth _ n1).trans H.blk, ⟨cur, (hoth _ n2).trans q1, q2⟩, own_other H.lits (fun e => own_type H.lits hG (by decide) e.symm) hoth, own_other H.begs (fun e => own_type H.begs hG (by decide) e.symm) hoth⟩
theorem Tr.grown {Q : Nat → Prop} {tb gv : Nat} {lv bv : Value} {n : Nat} {f : Nat → Trl.K} {R : List Trl.E} {B : List Nat} {h : Nat} {W W' : World} (H : Tr Q tb gv lv bv n f R B h W) {row : Option Nat} (hg : W.grownBy W' row) (hr : ∀ k, row = some k → lv.ownBlock ≠ some k ∧ ∃ cs fr, W.heap[k]? = some (.cells cs 33 fr)) : Tr Q tb gv lv bv n f R B h W' := by
  obtain ⟨cur, q1, q2⟩ := H.var
  refine ⟨fun g hq => Nat.lt_of_lt_of_le (H.lt g hq) hg.size, H.nt, H.nv, H.nl, H.nb, (hg.block _ (lt_of_blk H.blk) (fun e => ?_)).trans H.blk, ⟨cur, (hg.block _ (lt_of_blk q1) (fun e => ?_)).trans q1, q2⟩, own_grown2 H.lits hg (fun q e1 e2 => (hr q e2).1 e1), own_grown2 H.begs hg (fun q e1 e2 => ?_)⟩
  · obtain ⟨_, cs, fr, hc⟩ := hr _ e.symm
    rw [H.blk] at hc; injection hc with e; injection e with _ e; cases e
  · obtain ⟨_, cs, fr, hc⟩ := hr _ e.symm
    rw [q1] at hc; injection hc with e; injection e with _ e; cases e
  · obtain ⟨_, cs, fr, hc⟩ := hr _ e2
    exact own_type H.begs hc (by decide) e1.symm
/-- The loop's state: the trail with some places taken back, the boxes, the row of what went. -/
structure Inv (w : World) (Q : Nat → Prop) (tb gv : Nat) (lv bv : Value) (n : Nat) (s : Trl.S) (Tb G : Nat) (pre : List Nat) (X : World) : Prop where
  tr : Tr Q tb gv lv bv n (Trl.fcl s.R pre) s.R s.B s.h X
  tbx : X.heap[Tb]? = some (.cells #[.pointer (some ⟨tb, 0, none⟩)] 24 (0, 0))
  gn : ∃ o c, X.heap[G]? = some (.cells #[.slice o pre.length c] 40 (0, 0)) ∧ X.ownsRow w.heap.size 33 1 (.slice o pre.length c) pre.length ((pre.map (Trl.enc s.R)).map (Value.int .i32))
  fr : Fr pA Q w X
theorem grown_cells {X Y : World} {row : Option Nat} {B k : Nat} {cs : Array Value} {t : TypeId} {fr : Nat × Nat} (hg : X.grownBy Y row) (hr : ∀ r, row = some r → B ≤ r ∧ ∃ o : Obj, X.heap[r]? = some o ∧ o.isCells = false) (h : X.heap[k]? = some (.cells cs t fr)) : Y.heap[k]? = some (.cells cs t fr) := by
  refine (hg.block k (lt_of_blk h) ?_).trans h
  intro e
  obtain ⟨_, o, h1, h2⟩ := hr k e.symm
  rw [h] at h1; cases h1; cases h2
theorem grown_own {X Y : World} {row : Option Nat} {B base e size n : Nat} {v : Value} {xs : List Value} (hg : X.grownBy Y row) (hr : ∀ r, row = some r → B ≤ r ∧ ∃ o : Obj, X.heap[r]? = some o ∧ o.isCells = false) (h : X.ownsRow base e size v n xs) : Y.ownsRow base e size v n xs := by
  refine ⟨h.1, h.2.imp id ?_⟩
  rintro ⟨g', c, cur, e1, h1, h2, h3⟩
  exact ⟨g', c, cur, e1, h1, grown_cells hg hr h2, h3⟩
theorem inv_own (w : World) (Q : Nat → Prop) (tb gv : Nat) (lv bv : Value) (n : Nat) (s : Trl.S) (Tb G B : Nat) (hB : w.heap.size ≤ B) : OwnFrom B (Inv w Q tb gv lv bv n s Tb G) := by
  rintro pre X Y row ⟨h1, h2, ⟨o, c, h3, h4⟩, h5⟩ hg hr
  obtain ⟨cur, q1, q2⟩ := h1.var
  refine ⟨⟨fun g hq => Nat.lt_of_lt_of_le (h1.lt g hq) hg.size, h1.nt, h1.nv, h1.nl, h1.nb, grown_cells hg hr h1.blk, ⟨cur, grown_cells hg hr q1, q2⟩, grown_own hg hr h1.lits, grown_own hg hr h1.begs⟩, grown_cells hg hr h2, ⟨o, c, grown_cells hg hr h3, grown_own hg hr h4⟩, ?_⟩
  exact ⟨hg.os.trans h5.os, hg.tape.trans h5.tape, hg.output.trans h5.output, Nat.le_trans h5.size hg.size, fun g o hw hp => (hg.block g (Nat.lt_of_lt_of_le (lt_of_blk hw) h5.size) (fun e => by have := (hr g e.symm).1; have := lt_of_blk hw; omega)).trans (h5.block g o hw hp)⟩
/-- One round. -/
theorem Inv.step {w : World} {Q : Nat → Prop} {tb gv gl cl : Nat} {bv : Value} {n : Nat} {s : Trl.S} {Tb G : Nat} {pre : List Nat} {X : World} (h : Inv w Q tb gv (.slice (some ⟨gl, 0, none⟩) s.R.length cl) bv n s Tb G pre X) (hQ : ∀ g, Q g → g < w.heap.size) (hG : w.heap.size ≤ G) (hTb : w.heap.size ≤ Tb) (hgl : gl < w.heap.size) (x v : Nat) (hv : Trl.vr (Trl.enc s.R x) = (v : Int) + 1) (hvn : v < n) (hp : pre.length < 1048576) (q Bs : Nat) (hBs : ∃ cs fr, X.heap[Bs]? = some (.cells cs 40 fr)) (hBG : Bs ≠ G) :
    ∃ o c g c' X2, (set4 (X.drewN q) gv (v * 4) (.int .i32 0) (.int .i64 0) (.int .i64 0) (.int .i64 0)).cell? ⟨G, 0, none⟩ = some (.slice o pre.length c) ∧
      (Builtin.append_ #[40, 40] 40 #[.slice o pre.length c, .slice (some ⟨X.heap.size, 0, none⟩) 1 1]).run Try.prog ((set4 (X.drewN q) gv (v * 4) (.int .i32 0) (.int .i64 0) (.int .i64 0) (.int .i64 0)).alloc (.cells #[.int .i32 (Trl.enc s.R x)] 33)) = .ok (.slice (some ⟨g, 0, none⟩) (pre.length + 1) c') X2 ∧
      X2.cell? ⟨G, 0, none⟩ = some (.slice o pre.length c) ∧ X2.frozen? ⟨G, 0, none⟩ = false ∧
      (∀ C, KeepsFrom C X (X2.setCell ⟨G, 0, none⟩ (.slice (some ⟨g, 0, none⟩) (pre.length + 1) c'))) ∧ Kb Bs gl X (X2.setCell ⟨G, 0, none⟩ (.slice (some ⟨g, 0, none⟩) (pre.length + 1) c')) ∧
      Inv w Q tb gv (.slice (some ⟨gl, 0, none⟩) s.R.length cl) bv n s Tb G (pre ++ [x]) (X2.setCell ⟨G, 0, none⟩ (.slice (some ⟨g, 0, none⟩) (pre.length + 1) c')) := by
  obtain ⟨h1, h2, ⟨o, c, h3, h4⟩, h5⟩ := h
  obtain ⟨i0, hi, hz⟩ := Option.map_eq_some_iff.1 info33
  simp only [Prod.mk.injEq] at hz
  obtain ⟨cur, q1, q2⟩ := h1.var
  have hT0 := (h1.below (Drawn.below ⟨q, rfl⟩)).set4 (W := X.drewN q) hvn Trl.K0 (.int .i32 0) rfl
  obtain ⟨X1, hX1⟩ : ∃ X1, set4 (X.drewN q) gv (v * 4) (.int .i32 0) (.int .i64 0) (.int .i64 0) (.int .i64 0) = X1 := ⟨_, rfl⟩
  have hT : Tr Q tb gv (.slice (some ⟨gl, 0, none⟩) s.R.length cl) bv n (Trl.fcl s.R (pre ++ [x])) s.R s.B s.h X1 := by
    have h0 : Tr _ _ _ _ _ _ _ _ _ _ (set4 (X.drewN q) gv (v * 4) (.int .i32 0) (.int .i64 0) (.int .i64 0) (.int .i64 0)) := hT0.1
    rw [hX1] at h0
    obtain ⟨cur', r1, r2⟩ := h0.var
    exact ⟨h0.lt, h0.nt, h0.nv, h0.nl, h0.nb, h0.blk, ⟨cur', r1, r2.congr (fun u _ => Trl.fcl_snoc s.R pre x v hv u)⟩, h0.lits, h0.begs⟩
  have hF1 : Fr pA Q X X1 := by
    have h0 : Fr pA Q (X.drewN q) (set4 (X.drewN q) gv (v * 4) (.int .i32 0) (.int .i64 0) (.int .i64 0) (.int .i64 0)) := hT0.2
    rw [hX1] at h0
    exact (Fr.of_below (Drawn.below ⟨q, rfl⟩)).trans h0
  have hoth : ∀ y, y ≠ gv → X1.heap[y]? = X.heap[y]? := fun y hy => by rw [← hX1]; exact set4_other (X.drewN q) gv _ _ _ _ _ hy
  have hs1 : X1.heap.size = X.heap.size := by rw [← hX1]; exact set4_size _ _ _ _ _ _ _
  have ne40 : ∀ y cs fr, X.heap[y]? = some (.cells cs 40 fr) → y ≠ gv := fun y cs fr hy e => by subst e; rw [q1] at hy; injection hy with e; injection e with _ e; cases e
  have hG1 : X1.heap[G]? = some (.cells #[.slice o pre.length c] 40 (0, 0)) := (hoth _ (ne40 _ _ _ h3)).trans h3
  have hown1 : X1.ownsRow w.heap.size 33 1 (.slice o pre.length c) pre.length ((pre.map (Trl.enc s.R)).map (Value.int .i32)) := own_other h4 (fun e => own_type h4 q1 (by decide) e.symm) hoth
  obtain ⟨A, hA⟩ : ∃ A, X1.alloc (.cells #[.int .i32 (Trl.enc s.R x)] 33) = A := ⟨_, rfl⟩
  have hal : Below X1.heap.size X1 A := by rw [← hA]; exact below_box _ _
  have hsA : A.heap.size = X.heap.size + 1 := by rw [← hA, ← hs1]; simp
  have hnew : ∀ j u, [Value.int .i32 (Trl.enc s.R x)][j]? = some u → A.cell? ((⟨X.heap.size, 0, none⟩ : Addr).add j) = some u := by
    rw [← hA, ← hs1]
    exact World.news_of_block (heap_alloc_new X1 (.cells #[.int .i32 (Trl.enc s.R x)] 33))
  have hwX := h5.size
  obtain ⟨g, c', X2, hr, hown, hgr, hat, hlt⟩ := run_append_lies (P := Try.prog) A 40 40 w.heap.size 33 i0 _ 1 4 Try.underlying40 hi hz.1 hz.2.1 hz.2.2 rfl (by decide) (.slice o pre.length c) pre.length _ (own_below hown1 hal)
    ⟨X.heap.size, 0, none⟩ 1 1 [.int .i32 (Trl.enc s.R x)] rfl hnew (by intro u hu; rw [List.mem_singleton.1 hu]; rfl) (by decide) (by unfold maxLen; omega) (by omega) (by omega) _ hsA
  have hrow : ∀ k, (Value.slice o pre.length c).ownBlock = some k → w.heap.size ≤ k ∧ ∃ cs, A.heap[k]? = some (.cells cs 33 (0, 0)) := fun k e => by
    obtain ⟨r1, cu, r2⟩ := own_blk (own_below hown1 hal) e
    exact ⟨r1, cu, r2⟩
  have hT2 : Tr Q tb gv (.slice (some ⟨gl, 0, none⟩) s.R.length cl) bv n (Trl.fcl s.R (pre ++ [x])) s.R s.B s.h X2 := (hT.below hal).grown hgr (fun k e => ⟨fun e2 => by injection e2 with e2; have := (hrow _ e).1; have e3 : gl = k := e2; omega, (hrow k e).2.imp fun cs hc => ⟨_, hc⟩⟩)
  have kcell : ∀ y cs t fr, X.heap[y]? = some (.cells cs t fr) → y ≠ gv → (Value.slice o pre.length c).ownBlock ≠ some y → X2.heap[y]? = some (.cells cs t fr) := fun y cs t fr hy hne hno => by
    have e1 : X1.heap[y]? = some (.cells cs t fr) := (hoth y hne).trans hy
    have e2 : A.heap[y]? = some (.cells cs t fr) := (hal.block y (lt_of_blk e1)).trans e1
    exact (hgr.block y (lt_of_blk e2) (fun e => hno e.symm)).trans e2
  have nown : ∀ y cs fr, ∀ t : TypeId, t ≠ 33 → X.heap[y]? = some (.cells cs t fr) → (Value.slice o pre.length c).ownBlock ≠ some y := fun y cs fr t ht hy e => own_type h4 hy ht e.symm
  have hG2 : X2.heap[G]? = some (.cells #[.slice o pre.length c] 40 (0, 0)) := kcell _ _ _ _ h3 (ne40 _ _ _ h3) (nown _ _ _ _ (by decide) h3)
  have hgG : g ≠ G := by
    rintro rfl
    obtain ⟨_, cu, r2⟩ := own_blk (g := g) hown rfl
    rw [hG2] at r2; injection r2 with e; injection e with _ e; cases e
  have hz3 : (X2.setCell ⟨G, 0, none⟩ (.slice (some ⟨g, 0, none⟩) (pre.length + 1) c')).heap.size = X2.heap.size := by simp [World.setCell]
  have hgs := hgr.size
  have hoth3 : ∀ y, y ≠ G → (X2.setCell ⟨G, 0, none⟩ (.slice (some ⟨g, 0, none⟩) (pre.length + 1) c')).heap[y]? = X2.heap[y]? := fun y hy => heap_other X2 _ hy
  rw [hX1, hA]
  refine ⟨o, c, g, c', X2, row_cell hG1 0, hr, row_cell hG2 0, row_frozen hG2 0, ?_, ?_, ?_⟩
  · refine fun C => ⟨by rw [hz3]; omega, fun k ob hk ho hc => ?_⟩
    have hkG : k ≠ G := by rintro rfl; rw [h3] at ho; cases ho; cases hc
    have hkv : k ≠ gv := by rintro rfl; rw [q1] at ho; cases ho; cases hc
    have hko : (Value.slice o pre.length c).ownBlock ≠ some k := fun e => by
      obtain ⟨_, cu, r2⟩ := own_blk h4 e
      rw [r2] at ho; cases ho; cases hc
    have e1 : X1.heap[k]? = some ob := (hoth k hkv).trans ho
    have e2 : A.heap[k]? = some ob := (hal.block k (lt_of_blk e1)).trans e1
    exact (hoth3 k hkG).trans ((hgr.block k (lt_of_blk e2) (fun e => hko e.symm)).trans e2)
  · rintro y ob (rfl | rfl) hy
    · obtain ⟨cs, fr, hc⟩ := hBs
      rw [hc] at hy; cases hy
      exact (hoth3 _ hBG).trans (kcell _ _ _ _ hc (ne40 _ _ _ hc) (nown _ _ _ _ (by decide) hc))
    · obtain ⟨_, cu, hc⟩ := own_blk (g := y) h1.lits rfl
      rw [hc] at hy; cases hy
      refine (hoth3 _ (by omega)).trans (kcell _ _ _ _ hc (fun e => ?_) (fun e => ?_))
      · rw [e, q1] at hc; injection hc with e; injection e with _ e; cases e
      · have := (hrow _ e).1; omega
  · refine ⟨hT2.box hG2 0 _, ?_, ⟨some ⟨g, 0, none⟩, c', ?_, ?_⟩, ?_⟩
    · have hTG : Tb ≠ G := by rintro rfl; rw [h2] at h3; injection h3 with e; injection e with _ e; cases e
      refine (hoth3 _ hTG).trans (kcell _ _ _ _ h2 ?_ (nown _ _ _ _ (by decide) h2))
      rintro rfl; rw [h2] at q1; injection q1 with e; injection e with _ e; cases e
    · rw [heap_set_row hG2, List.length_append]; rfl
    · rw [List.length_append, List.map_append, List.map_append]
      exact own_other hown (by intro e; cases e; exact hgG rfl) hoth3
    · refine Fr.box ?_ hG _
      refine h5.trans (hF1.trans ((Fr.of_below hal).trans (Fr.grown hgr (fun k e => ⟨fun hq => by have := hQ k hq; have := (hrow k e).1; omega, fun ob ho => ?_⟩))))
      obtain ⟨_, cs, hc⟩ := hrow k e
      rw [hc] at ho; cases ho
      exact .inr (.inr (.inl rfl))
end Go.Proofs.Ytckpahdlcdgbpaa
