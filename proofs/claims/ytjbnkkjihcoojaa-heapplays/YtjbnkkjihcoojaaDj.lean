/- The document's heap: put. -/
import Derived.Test.YtjbnkkjihcoojaaDi
namespace Hpp
/-- Put in from behind: the same. -/
theorem ins_at {sc : List Int} {L : List Nat} {v k : Nat} (h : Srt sc L) (hv : v ∉ L) (hk : k ≤ L.length) (h1 : ∀ j, k ≤ j → j < L.length → bef sc v (L.getD j 0)) (h2 : k = 0 ∨ ¬ bef sc v (L.getD (k - 1) 0)) : ins sc v L = L.take k ++ v :: L.drop k := by
  refine srt_uniq (s := sc) (ins_srt h hv) ?_ ((ins_perm sc v L).trans ?_)
  · refine List.pairwise_append.2 ⟨h.sublist (List.take_sublist _ _), List.pairwise_cons.2 ⟨fun x hx => ?_, h.sublist (List.drop_sublist _ _)⟩, fun x hx y hy => ?_⟩
    · obtain ⟨j, hj, rfl⟩ := List.getElem_of_mem hx
      rw [List.getElem_drop]
      have := h1 (k + j) (by omega) (by simp at hj; omega)
      rw [getD_el L (by simp at hj; omega)] at this
      exact this
    · obtain ⟨i, hi, rfl⟩ := List.getElem_of_mem hx
      have hi' : i < k := by simp at hi; omega
      rw [List.getElem_take]
      have hlast : bef sc (L[i]'(by omega)) v := by
        rcases h2 with h2 | h2
        · omega
        · have hk1 : k - 1 < L.length := by omega
          rw [getD_el L hk1] at h2
          have hne : v ≠ L[k - 1] := fun e => hv (by rw [e]; exact List.getElem_mem _)
          have hb := of_not hne h2
          by_cases e : i = k - 1
          · subst e; exact hb
          · exact bef_trans (List.pairwise_iff_getElem.1 h i (k - 1) (by omega) hk1 (by omega)) hb
      rcases List.mem_cons.1 hy with rfl | hy
      · exact hlast
      · obtain ⟨j, hj, rfl⟩ := List.getElem_of_mem hy
        rw [List.getElem_drop]
        exact List.pairwise_iff_getElem.1 h i (k + j) (by omega) (by simp at hj; omega) (by omega)
  · have := List.take_append_drop k L
    have h3 : (v :: L).Perm (v :: (L.take k ++ L.drop k)) := by rw [this]
    exact h3.trans List.perm_middle.symm
end Hpp
namespace Go.Proofs.Ytjbnkkjihcoojaa
open Go.RowKit Go.Maps
set_option linter.unusedVariables false
set_option maxRecDepth 100000

/-- A part of a row, to be appended. -/
def Src (W : World) (o : Option Addr) (m : Nat) (K : List Nat) : Prop := K.length = m ∧ ∃ g off, o = some ⟨g, off, none⟩ ∧ ∀ j, j < m → W.cell? ⟨g, off + j, none⟩ = some (.int .i64 ((K.getD j 0 : Nat) + 1 : Int))
theorem appR {W : World} {base k : Nat} {v : Value} {L K : List Nat} {o : Option Addr} {m c : Nat} (h : W.ownsRow base 3 1 v k (ivs L)) (hb : base ≤ W.heap.size) (hs : Src W o m K) (hk : k + m ≤ 10000000) :
    ∃ o' c' X, (Builtin.append_ #[42, 42] 42 #[v, .slice o m c]).run Try.prog W = .ok (.slice o' (k + m) c') X ∧ X.ownsRow base 3 1 (.slice o' (k + m) c') (k + m) (ivs (L ++ K)) ∧ Fq (fun q => v.ownBlock ≠ some q) W X ∧ Below base W X := by
  obtain ⟨hK, g, off, rfl, hc⟩ := hs
  obtain ⟨i0, hi, hz⟩ := Option.map_eq_some_iff.1 info3
  simp only [Prod.mk.injEq] at hz
  obtain ⟨v', X, hr, h2, h3, _, _⟩ := run_append_own_at (P := Try.prog) W base 42 42 3 i0 _ 1 8 Try.underlying42 hi hz.1 hz.2.1 hz.2.2 rfl (by decide) v k _ h ⟨g, off, none⟩ m c (ivs K) (by simp [ivs, hK]) (fun j u hu => by
    have hj : j < m := by
      rcases Nat.lt_or_ge j m with h' | h'
      · exact h'
      · rw [List.getElem?_eq_none (by simp [ivs, hK]; omega)] at hu; cases hu
    rw [show (⟨g, off, none⟩ : Addr).add j = ⟨g, off + j, none⟩ from Go.WideShapes.add_plain _ _ _, hc j hj, ← ivs_at (by omega)]
    exact hu) (ivs_one K) (by unfold maxLen; omega) (by omega) hb
  obtain ⟨o', c', rfl⟩ := own_slc h2
  refine ⟨o', c', X, hr, by rw [show ivs (L ++ K) = ivs L ++ ivs K by simp [ivs]]; exact h2, Fq.grown h3 (fun q e hq => hq e), ⟨h3.os, h3.tape, h3.output, h3.size, fun q hq => h3.block q (by omega) (fun e => ?_)⟩⟩
  have := (own_blk h e.symm).1
  omega
/-- The row of a heap of the document, turned to a new one. -/
theorem Dx.setL {M : Nat → Prop} {mb n : Nat} {sc : List Int} {L L' : List Nat} {B W : World} {o : Option Addr} {t c : Nat} (H : Dx M mb n sc L B) (hb : Below B.heap.size B W) (ho : W.ownsRow B.heap.size 3 1 (.slice o t c) t (ivs L')) (hn : L' = [] → (Value.slice o t c) = .slice none 0 0) (hg : Gx n sc L') :
    DxO M mb n sc L' B (W.setCell ⟨mb, 1, none⟩ (.slice o t c)) := by
  obtain ⟨sv, lv, h1, h2⟩ := H
  obtain ⟨n1, n2, n3⟩ := h1.apart
  have hl := h1.lts
  have hlen := ivs_len ho
  have h3 := h1.below hb
  have hne : (Value.slice o t c).ownBlock ≠ some mb := fun e => by have := (own_lt ho e).1; omega
  refine DxO.of (sv := sv) (lv := .slice o t c) ⟨fun g hg => by simp [World.setCell]; exact h3.lt g hg, h3.nb, h3.ns, fun g e hg => ?_, ?_, own_keep h3.scs n1 _, ?_, hn⟩ ((Fq.of_below hb).trans (Fq.set W _ h1.nb)) hg
  · have := (own_lt ho e).1
    have := hg.1
    omega
  · rw [heap_set_row h3.blk]; rfl
  · rw [hlen]
    exact own_base (own_keep ho hne _) (Nat.zero_le _)
/-- The three appends of put. -/
def PutRuns (W : World) (mb : Nat) (g c t k off u : Nat) (L : List Nat) (wr : World) : Prop :=
  ∃ o1 c1 X1 g2 c2 X2 o3 c3 X3, (Builtin.append_ #[42, 42] 42 #[.slice none 0 0, .slice (some ⟨g, 0, none⟩) k c]).run Try.prog wr = .ok (.slice o1 k c1) X1 ∧
    (Builtin.append_ #[42, 42] 42 #[.slice o1 k c1, .slice (some ⟨X1.heap.size, 0, none⟩) 1 1]).run Try.prog (X1.alloc (.cells #[.int .i64 ((u : Int) + 1)] 3)) = .ok (.slice (some ⟨g2, 0, none⟩) (k + 1) c2) X2 ∧
    (Builtin.append_ #[42, 42] 42 #[.slice (some ⟨g2, 0, none⟩) (k + 1) c2, .slice (some ⟨g, off, none⟩) (t - k) (c - k)]).run Try.prog X2 = .ok (.slice o3 (k + 1 + (t - k)) c3) X3 ∧
    X2.cell? ⟨mb, 1, none⟩ = some (.slice (some ⟨g, 0, none⟩) t c) ∧ X3.cell? ⟨mb, 1, none⟩ = some (.slice (some ⟨g, 0, none⟩) t c) ∧ X3.frozen? ⟨mb, 1, none⟩ = false ∧
    X3.ownsRow W.heap.size 3 1 (.slice o3 (k + 1 + (t - k)) c3) (k + 1 + (t - k)) (ivs (L.take k ++ u :: L.drop k)) ∧ Below W.heap.size W X3
theorem putRuns {M : Nat → Prop} {mb n : Nat} {sc : List Int} {L : List Nat} {W wr : World} {g c t k off : Nat} (H : Dx M mb n sc L W) (hoff : off = k ∨ t = k) (hw : Below W.heap.size W wr) (c1 : W.cell? ⟨mb, 1, none⟩ = some (.slice (some ⟨g, 0, none⟩) t c)) (ht : L.length = t) (hq : ∀ j, j < L.length → W.cell? ⟨g, j, none⟩ = some (.int .i64 ((L.getD j 0 : Nat) + 1 : Int))) (hk : k ≤ t) (htm : t ≤ 1048576) (u : Nat) : PutRuns W mb g c t k off u L wr := by
  have hcell : ∀ X, Below W.heap.size W X → ∀ j, j < t → X.cell? ⟨g, j, none⟩ = some (.int .i64 ((L.getD j 0 : Nat) + 1 : Int)) := fun X hX j hj => (hX.cell (p := ⟨g, j, none⟩) (cell_lt (hq j (by omega)))).trans (hq j (by omega))
  obtain ⟨o1, c1', X1, r1, w1, f1, b1⟩ := appR (W := wr) (base := W.heap.size) (k := 0) (v := .slice none 0 0) (L := []) (K := L.take k) (o := some ⟨g, 0, none⟩) (m := k) (c := c) (World.ownsRow_nil _ _ _ _) hw.size ⟨by simp; omega, g, 0, rfl, fun j hj => by
    rw [Nat.zero_add, hcell wr hw j (by omega), List.getD_eq_getElem?_getD, List.getD_eq_getElem?_getD, List.getElem?_take_of_lt hj]⟩ (by omega)
  rw [Nat.zero_add] at r1 w1
  rw [List.nil_append] at w1
  have B1 : Below W.heap.size W X1 := hw.trans b1
  obtain ⟨g2, c2, X2, r2, w2, f2, _⟩ := app3g w1 B1.size u (by omega)
  have B2 : Below W.heap.size W X2 := B1.trans (f2.below B1.size (fun q hq e => by have := (own_lt w1 e).1; omega))
  obtain ⟨o3, c3, X3, r3, w3, f3, b3⟩ := appR (W := X2) (K := L.drop k) (o := some ⟨g, off, none⟩) (m := t - k) (c := c - k) w2 B2.size ⟨by simp; omega, g, off, rfl, fun j hj => by
    rw [show off = k by omega, hcell X2 B2 (k + j) (by omega), List.getD_eq_getElem?_getD, List.getD_eq_getElem?_getD, List.getElem?_drop]⟩ (by omega)
  have B3 : Below W.heap.size W X3 := B2.trans b3
  have hmb := cell_lt c1
  have hfz : X3.frozen? ⟨mb, 1, none⟩ = false := by
    obtain ⟨sv, lv, h1, h2⟩ := H
    exact row_frozen ((B3.block _ (lt_of_blk h1.blk)).trans h1.blk) 1
  refine ⟨o1, c1', X1, g2, c2, X2, o3, c3, X3, r1, r2, r3, (B2.cell (p := ⟨mb, 1, none⟩) hmb).trans c1, (B3.cell (p := ⟨mb, 1, none⟩) hmb).trans c1, hfz, ?_, B3⟩
  rw [show L.take k ++ u :: L.drop k = L.take k ++ [u] ++ L.drop k by simp]
  exact w3
theorem putEnd {M : Nat → Prop} {mb n : Nat} {sc : List Int} {L K : List Nat} {W X3 : World} {u : Nat} {o3 : Option Addr} {m d3 : Nat} (H : Dx M mb n sc L W) (hs : Hpp.Srt sc L) (hu : u < n) (hm : u ∉ L) (hin : Hpp.ins sc u L = K) (b3 : Below W.heap.size W X3) (w3 : X3.ownsRow W.heap.size 3 1 (.slice o3 m d3) m (ivs K)) : DxO M mb n sc (Hpp.ins sc u L) W (X3.setCell ⟨mb, 1, none⟩ (.slice o3 m d3)) := by
  have hl : (Hpp.ins sc u L).Perm (u :: L) := Hpp.ins_perm sc u L
  refine H.setL b3 (by rw [hin]; exact w3) (fun e => by rw [e] at hl; exact absurd hl.length_eq (by simp)) ⟨H.gx.mx, H.gx.len, (Hpp.ins_srt hs hm).nodup, fun x hx => ?_, H.gx.bd⟩
  rcases List.mem_cons.1 (hl.mem_iff.1 hx) with rfl | h
  · exact hu
  · exact H.gx.lt x h
theorem app_nn (W : World) : (Builtin.append_ #[42, 42] 42 #[.slice none 0 0, .slice none 0 0]).run Try.prog W = .ok (.slice none 0 0) W := by kernel_rfl
theorem app_sn (W : World) (g n c : Nat) (hnc : n ≤ c) : (Builtin.append_ #[42, 42] 42 #[.slice (some ⟨g, 0, none⟩) n c, .slice none 0 0]).run Try.prog W = .ok (.slice (some ⟨g, 0, none⟩) n c) W := by
  obtain ⟨i0, hi, hz⟩ := Option.map_eq_some_iff.1 info3
  simp only [Prod.mk.injEq] at hz
  simp [Builtin.append_, run_underlying Try.underlying42, sizeOf, typeInfo, hi, Builtin.firstCells, loadCells, Builtin.lenOf, hnc, storeCells]
theorem measP {k : Nat} (h : 0 < k) : ((k : Int) - 1).toNat < (k : Int).toNat := by omega
set_option maxHeartbeats 8000000 in
theorem put50 {M : Nat → Prop} {mb n : Nat} {sc : List Int} {L : List Nat} {W : World} (H : Dx M mb n sc L W) (hs : Hpp.Srt sc L) {u : Nat} (hu : u < n) (hm : u ∉ L) :
    Calls Try.prog 50 #[.pointer (some ⟨mb, 0, none⟩), .int .i64 ((u : Int) + 1)] W fun e w' => e = .returned (.tuple #[]) ∧ DxO M mb n sc (Hpp.ins sc u L) W w' := by
  obtain ⟨gs, cs, o, c, c0, c1, hc, ho, hni⟩ := H.cells
  rcases Nat.eq_zero_or_pos L.length with h0 | h0
  · obtain rfl : L = [] := List.eq_nil_of_length_eq_zero h0
    obtain ⟨rfl, rfl⟩ := hni rfl
    rw [show ([] : List Nat).length = 0 from rfl] at c1
    obtain ⟨g2, d2, X2, r2, w2, f2, _⟩ := app3g (W := W) (base := W.heap.size) (va := .slice none 0 0) (L := []) (World.ownsRow_nil _ _ _ _) (Nat.le_refl _) u (by omega)
    have B2 : Below W.heap.size W X2 := f2.below (Nat.le_refl _) (fun q hq e => by cases e)
    have HO := hid (show DxO M mb n sc (Hpp.ins sc u []) W (X2.setCell ⟨mb, 1, none⟩ (.slice (some ⟨g2, 0, none⟩) (0 + 1) d2)) from putEnd H hs hu hm rfl B2 w2)
    rw [Nat.zero_add] at r2 HO
    have R1 := hid (app_nn W)
    have R2 := hid r2
    have R3 := hid (app_sn X2 g2 1 d2 (by
      obtain ⟨_, _, _, e, _, _, h4, _⟩ := own_some w2 (by omega)
      cases e
      omega))
    have y2 := (B2.cell (p := ⟨mb, 1, none⟩) (cell_lt c1)).trans c1
    have z2 : X2.frozen? ⟨mb, 1, none⟩ = false := by
      obtain ⟨sv, lv, h1, h2⟩ := H
      exact row_frozen ((B2.block _ (lt_of_blk h1.blk)).trans h1.blk) 1
    clear H hc ho hni c0 h0 hs hm hu r2 w2 f2 B2
    go_enter Try.func50, Try.ntmps50
    go_wp2_with (fail)
    go_loopw [4] (fun a wr => a = .int .i64 0 ∧ Hid (wr = W)) (fun a _ => 0)
    case atStart => exact ⟨rfl, hid rfl⟩
    case round =>
      obtain ⟨rfl, hw⟩ := hrel
      rw [hw.out]
      clear hw
      go_wp2_with (first
        | (at_builtin; refine wpList_append_run rfl (.tmp 28) (.tmp 34) 42 42 rfl rfl rfl R1.out ?_)
        | (at_builtin; refine wpList_append_run rfl (.tmp 36) (.tmp 38) 42 42 rfl rfl rfl R2.out ?_)
        | (at_builtin; refine wpList_append_run rfl (.tmp 40) (.tmp 46) 42 42 rfl rfl rfl R3.out ?_))
      go_end0
      exact ⟨rfl, HO.out⟩
  · obtain ⟨g, c', e, q⟩ := own_at ho h0
    obtain ⟨t, ht⟩ : ∃ t, L.length = t := ⟨_, rfl⟩
    rw [ht] at c1 e
    injection e with e1 e2 e3
    subst e1 e3
    have hlen : t ≤ 1048576 := by have := nodup_len n L H.gx.nd H.gx.lt; have := H.gx.mx; omega
    have HLN := hid hlen
    have HT := hid ht
    have HH := hid H
    have HQ := hid q
    have HSR := hid hs
    have HM := hid hm
    have HU := hid hu
    have HOW := hid ho
    have htc : t ≤ c := by
      obtain ⟨_, _, _, e, _, _, h4, _⟩ := own_some ho h0
      cases e
      rw [ht] at h4
      exact h4
    have HB := hid (fun (wq : World) (hd : Drawn W wq) (x : Nat) (hx : x ∈ L) (r : Bool) (hr : r = true ↔ Hpp.bef sc u x) => before60 (H.below hd.below).1 hu (H.gx.lt x hx) r hr)
    clear H hc ho hni c0 q h0 hs hm hu
    go_enter Try.func50, Try.ntmps50
    go_wp2_with (fail)
    go_loopw [4] (fun a wr => ∃ k : Nat, k ≤ t ∧ a = .int .i64 (k : Nat) ∧ Hid ((∀ j, k ≤ j → j < t → Hpp.bef sc u (L.getD j 0)) ∧ Drawn W wr)) (fun a _ => (intOf a).toNat)
    case atStart => exact ⟨t, Nat.le_refl _, rfl, hid ⟨fun j h1 h2 => by omega, Drawn.refl _⟩⟩
    case round =>
      obtain ⟨k, hk, rfl, HR⟩ := hrel
      have c1' := (HR.out.2.below.cell (p := ⟨mb, 1, none⟩) (cell_lt c1)).trans c1
      have hkc : (k : Int) ≤ c := by omega
      have hkt : (k : Int) ≤ t := by omega
      have htc' : (t : Int) ≤ c := by omega
      have hk00 : (0 : Int) ≤ k := by omega
      rcases Nat.eq_zero_or_pos k with h0 | h0
      · have hk0 : ¬ (0 : Int) < k := by omega
        have HIN := hid (Hpp.ins_at (k := k) HSR.out HM.out (by rw [HT.out]; exact hk) (fun j h1 h2 => HR.out.1 j h1 (by rw [HT.out] at h2; exact h2)) (.inl h0))
        clear h0
        by_cases hck : k < c
        · have hck' : (k : Int) < c := by omega
          obtain ⟨o1, d1, X1, g2, d2, X2, o3, d3, X3, r1, r2, r3, y2, y3, z3, w3, b3⟩ := putRuns (k := k) (off := k) HH.out (by omega) HR.out.2.below c1 HT.out HQ.out hk HLN.out u
          have R1 := hid r1
          have R2 := hid r2
          have R3 := hid r3
          have HO := hid (show DxO M mb n sc (Hpp.ins sc u L) W (X3.setCell ⟨mb, 1, none⟩ (.slice o3 (k + 1 + (t - k)) d3)) from putEnd HH.out HSR.out HU.out HM.out HIN.out b3 w3)
          clear r1 r2 r3 w3 b3
          go_wp2_with (first
            | (at_builtin; refine wpList_append_run rfl (.tmp 28) (.tmp 34) 42 42 rfl rfl rfl R1.out ?_)
            | (at_builtin; refine wpList_append_run rfl (.tmp 36) (.tmp 38) 42 42 rfl rfl rfl R2.out ?_)
            | (at_builtin; refine wpList_append_run rfl (.tmp 40) (.tmp 46) 42 42 rfl rfl rfl R3.out ?_))
          go_end0
          exact ⟨rfl, HO.out⟩
        · obtain rfl : k = c := by omega
          obtain rfl : k = t := by omega
          obtain ⟨o1, d1, X1, g2, d2, X2, o3, d3, X3, r1, r2, r3, y2, y3, z3, w3, b3⟩ := putRuns (k := k) (off := 0) HH.out (by omega) HR.out.2.below c1 HT.out HQ.out hk HLN.out u
          simp only [Nat.sub_self, Nat.add_zero] at r3 w3
          have R1 := hid r1
          have R2 := hid r2
          have R3 := hid r3
          have HO := hid (show DxO M mb n sc (Hpp.ins sc u L) W (X3.setCell ⟨mb, 1, none⟩ (.slice o3 (k + 1) d3)) from putEnd HH.out HSR.out HU.out HM.out HIN.out b3 w3)
          clear r1 r2 r3 w3 b3
          go_wp2_with (first
            | (at_builtin; refine wpList_append_run rfl (.tmp 28) (.tmp 34) 42 42 rfl rfl rfl R1.out ?_)
            | (at_builtin; refine wpList_append_run rfl (.tmp 36) (.tmp 38) 42 42 rfl rfl rfl R2.out ?_)
            | (at_builtin; refine wpList_append_run rfl (.tmp 40) (.tmp 46) 42 42 rfl rfl rfl R3.out ?_))
          go_end0
          exact ⟨rfl, HO.out⟩
      · have hk0 : (0 : Int) < k := by omega
        have hk1 : wrap64 ((k : Int) - 1) = ((k - 1 : Nat) : Int) := by have := HLN.out; unfold wrap64; omega
        have hk2 : ((k - 1 : Nat) : Int) < t := by omega
        have hk3 : (0 : Int) ≤ ((k - 1 : Nat) : Int) := by omega
        have x1 := (HR.out.2.below.cell (p := ⟨g, k - 1, none⟩) (cell_lt (HQ.out (k - 1) (by rw [HT.out]; omega)))).trans (HQ.out (k - 1) (by rw [HT.out]; omega))
        have HXM := hid (show L.getD (k - 1) 0 ∈ L by rw [Hpp.getD_el L (by rw [HT.out]; omega)]; exact List.getElem_mem _)
        by_cases hbf : Hpp.bef sc u (L.getD (k - 1) 0)
        · have CB := hid (fun (wq : World) (hd : Drawn W wq) => HB.out wq hd _ HXM.out true ⟨fun _ => hbf, fun _ => rfl⟩)
          have HN := hid (show ∀ j, k - 1 ≤ j → j < t → Hpp.bef sc u (L.getD j 0) from fun j h1 h2 => by
            by_cases e : j = k - 1
            · rw [e]; exact hbf
            · exact HR.out.1 j (by omega) h2)
          generalize L.getD (k - 1) 0 = x at x1 CB
          clear hbf
          go_wp2_with (fail)
          go_at_call 60
          refine (CB.out _ HR.out.2).mono ?_
          rintro e w5 ⟨rfl, hd5⟩
          have HD := hid (show Drawn W w5 from by
            obtain ⟨q1, h1⟩ := HR.out.2
            obtain ⟨q2, h2⟩ := hd5
            exact ⟨q1 + q2, by rw [h2, h1, World.drewN_drewN]⟩)
          clear hd5 CB
          go_wp2_with (fail)
          go_roundw
          case rel => exact ⟨k - 1, by omega, by first | rfl | go_num | (congr 1; omega), hid ⟨HN.out, HD.out⟩⟩
          case measure => simp only [intOf]; exact measP h0
        · have CB := hid (fun (wq : World) (hd : Drawn W wq) => HB.out wq hd _ HXM.out false ⟨fun h => absurd h (by decide), fun h => absurd h hbf⟩)
          have HN2 := hid (show Hpp.ins sc u L = L.take k ++ u :: L.drop k from Hpp.ins_at (k := k) HSR.out HM.out (by rw [HT.out]; exact hk) (fun j h1 h2 => HR.out.1 j h1 (by rw [HT.out] at h2; exact h2)) (.inr hbf))
          have HIN := HN2
          generalize L.getD (k - 1) 0 = x at x1 CB
          clear hbf h0
          go_wp2_with (fail)
          go_at_call 60
          refine (CB.out _ HR.out.2).mono ?_
          rintro e w5 ⟨rfl, hd5⟩
          have HR2 := hid (show Drawn W w5 from by
            obtain ⟨q1, h1⟩ := HR.out.2
            obtain ⟨q2, h2⟩ := hd5
            exact ⟨q1 + q2, by rw [h2, h1, World.drewN_drewN]⟩)
          have c5 := (HR2.out.below.cell (p := ⟨mb, 1, none⟩) (cell_lt c1)).trans c1
          clear hd5 CB
          by_cases hck : k < c
          · have hck' : (k : Int) < c := by omega
            obtain ⟨o1, d1, X1, g2, d2, X2, o3, d3, X3, r1, r2, r3, y2, y3, z3, w3, b3⟩ := putRuns (k := k) (off := k) HH.out (by omega) HR2.out.below c1 HT.out HQ.out hk HLN.out u
            have R1 := hid r1
            have R2 := hid r2
            have R3 := hid r3
            have HO := hid (show DxO M mb n sc (Hpp.ins sc u L) W (X3.setCell ⟨mb, 1, none⟩ (.slice o3 (k + 1 + (t - k)) d3)) from putEnd HH.out HSR.out HU.out HM.out HIN.out b3 w3)
            clear r1 r2 r3 w3 b3
            go_wp2_with (first
              | (at_builtin; refine wpList_append_run rfl (.tmp 28) (.tmp 34) 42 42 rfl rfl rfl R1.out ?_)
              | (at_builtin; refine wpList_append_run rfl (.tmp 36) (.tmp 38) 42 42 rfl rfl rfl R2.out ?_)
              | (at_builtin; refine wpList_append_run rfl (.tmp 40) (.tmp 46) 42 42 rfl rfl rfl R3.out ?_))
            go_end0
            exact ⟨rfl, HO.out⟩
          · obtain rfl : k = c := by omega
            obtain rfl : k = t := by omega
            obtain ⟨o1, d1, X1, g2, d2, X2, o3, d3, X3, r1, r2, r3, y2, y3, z3, w3, b3⟩ := putRuns (k := k) (off := 0) HH.out (by omega) HR2.out.below c1 HT.out HQ.out hk HLN.out u
            simp only [Nat.sub_self, Nat.add_zero] at r3 w3
            have R1 := hid r1
            have R2 := hid r2
            have R3 := hid r3
            have HO := hid (show DxO M mb n sc (Hpp.ins sc u L) W (X3.setCell ⟨mb, 1, none⟩ (.slice o3 (k + 1) d3)) from putEnd HH.out HSR.out HU.out HM.out HIN.out b3 w3)
            clear r1 r2 r3 w3 b3
            go_wp2_with (first
              | (at_builtin; refine wpList_append_run rfl (.tmp 28) (.tmp 34) 42 42 rfl rfl rfl R1.out ?_)
              | (at_builtin; refine wpList_append_run rfl (.tmp 36) (.tmp 38) 42 42 rfl rfl rfl R2.out ?_)
              | (at_builtin; refine wpList_append_run rfl (.tmp 40) (.tmp 46) 42 42 rfl rfl rfl R3.out ?_))
            go_end0
            exact ⟨rfl, HO.out⟩
end Go.Proofs.Ytjbnkkjihcoojaa
