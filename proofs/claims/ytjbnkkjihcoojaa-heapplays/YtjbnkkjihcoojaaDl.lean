/- The document's heap: bump. -/
import Derived.Test.YtjbnkkjihcoojaaDk
namespace Go.Proofs.Ytjbnkkjihcoojaa
open Go.RowKit Go.Maps
set_option linter.unusedVariables false
set_option maxRecDepth 100000

theorem Dm.setS {Q : Nat → Prop} {mb gs cs : Nat} {lv : Value} {n : Nat} {sc : List Int} {L : List Nat} {W : World} (H : Dm Q mb (.slice (some ⟨gs, 0, none⟩) (n + 1) cs) lv n sc L W) (u : Nat) (x : Int) :
    Dm Q mb (.slice (some ⟨gs, 0, none⟩) (n + 1) cs) lv n (sc.set u x) L (W.setCell ⟨gs, u + 1, none⟩ (.int .i64 x)) ∧ Fq Q W (W.setCell ⟨gs, u + 1, none⟩ (.int .i64 x)) := by
  obtain ⟨n1, n2, n3⟩ := H.apart
  have hgs : gs ≠ mb := fun e => n1 (by rw [e]; rfl)
  refine ⟨⟨fun g hg => by simpa [World.setCell] using H.lt g hg, H.nb, H.ns, H.nl, ?_, ?_, own_keep H.row (n3 gs rfl) _, H.nil⟩, Fq.set W _ (H.ns gs rfl)⟩
  · rw [heap_other _ _ (fun e => hgs e.symm)]; exact H.blk
  · have := own_setc H.scs (u + 1) (.int .i64 x)
    rw [iss_set, List.set_cons_succ] at this
    exact this
theorem Dm.set0 {Q : Nat → Prop} {mb gs cs : Nat} {lv : Value} {n : Nat} {sc : List Int} {L : List Nat} {W : World} (H : Dm Q mb (.slice (some ⟨gs, 0, none⟩) (n + 1) cs) lv n sc L W) :
    Dm Q mb (.slice (some ⟨gs, 0, none⟩) (n + 1) cs) lv n sc L (W.setCell ⟨gs, 0, none⟩ (.int .i64 0)) ∧ Fq Q W (W.setCell ⟨gs, 0, none⟩ (.int .i64 0)) := by
  obtain ⟨n1, n2, n3⟩ := H.apart
  have hgs : gs ≠ mb := fun e => n1 (by rw [e]; rfl)
  refine ⟨⟨fun g hg => by simpa [World.setCell] using H.lt g hg, H.nb, H.ns, H.nl, ?_, ?_, own_keep H.row (n3 gs rfl) _, H.nil⟩, Fq.set W _ (H.ns gs rfl)⟩
  · rw [heap_other _ _ (fun e => hgs e.symm)]; exact H.blk
  · have := own_setc H.scs 0 (.int .i64 0)
    rw [iss_set, List.set_cons_zero] at this
    exact this
theorem own_cell2 {W : World} {base n e g c : Nat} {xs : List Value} (h : W.ownsRow base e 1 (.slice (some ⟨g, 0, none⟩) n c) n xs) {k : Nat} (hk : k < n) : W.frozen? ⟨g, k, none⟩ = false := by
  rcases h.2 with ⟨e1, _⟩ | ⟨g', c', cur, e1, h1, h2, h3, h4, h5, h6⟩
  · cases e1
  · cases e1
    exact row_frozen h2 k
/-- The row let go. -/
theorem Dm.letgo {M : Nat → Prop} {mb : Nat} {sv lv : Value} {n : Nat} {sc : List Int} {L : List Nat} {B W : World} (H : Dm (Qm M B) mb sv lv n sc L W) (hs : B.heap.size ≤ W.heap.size) (hg : Gx n sc L) :
    Dx (fun g => (M g ∨ B.heap.size ≤ g) ∧ lv.ownBlock ≠ some g) mb n sc [] (W.setCell ⟨mb, 1, none⟩ (.slice none 0 0)) ∧ Fq (Qm M B) W (W.setCell ⟨mb, 1, none⟩ (.slice none 0 0)) := by
  obtain ⟨n1, n2, n3⟩ := H.apart
  have hl := H.lts
  have hin : ∀ g, ¬ Qm M B g → M g ∨ B.heap.size ≤ g := fun g h => by
    by_cases hm : M g
    · exact .inl hm
    · right
      rcases Nat.lt_or_ge g B.heap.size with k | k
      · exact absurd ⟨k, hm⟩ h
      · exact k
  refine ⟨⟨sv, .slice none 0 0, ⟨fun g hg => by simpa [World.setCell] using hg.1, fun h => h.2 ⟨hin _ H.nb, fun e => n2 e⟩, fun g e h => h.2 ⟨hin _ (H.ns g e), n3 g e⟩, (fun g e => by cases e), ?_, own_keep H.scs n1 _, World.ownsRow_nil _ _ _ _, fun _ => rfl⟩, ⟨hg.mx, hg.len, .nil, (fun u h => by cases h), hg.bd⟩⟩, Fq.set W _ H.nb⟩
  rw [heap_set_row H.blk]; rfl
theorem DxO.row {M : Nat → Prop} {mb n base e k : Nat} {v : Value} {xs : List Value} {sc : List Int} {L : List Nat} {B w : World} (h : DxO M mb n sc L B w) (ho : B.ownsRow base e 1 v k xs) (hm : ∀ g, v.ownBlock = some g → ¬ M g) : w.ownsRow base e 1 v k xs :=
  own_fq ho h.2 (fun g e => ⟨(own_lt ho e).2, hm g e⟩)
theorem srt_take {sc : List Int} {L : List Nat} {k : Nat} (hk : k < L.length) : Hpp.srt sc (L.take (k + 1)) = Hpp.ins sc (L.getD k 0) (Hpp.srt sc (L.take k)) := by
  unfold Hpp.srt
  rw [List.take_succ_eq_append_getElem hk, List.foldl_append, Hpp.getD_el L hk]
  rfl
/-- Behind the second loop. -/
theorem bump_end {M : Nat → Prop} {mb n : Nat} {lv : Value} {sc : List Int} {L : List Nat} {W W2 w : World} (hf : Fq (Qm M W) W W2) (h : DxO (fun g => (M g ∨ W.heap.size ≤ g) ∧ lv.ownBlock ≠ some g) mb n sc L W2 w) : DxO M mb n sc L W w := by
  have hs := hf.size
  refine ⟨h.1.more (fun g hg => hg.elim (·.1) (fun h => .inr (Nat.le_trans hs h))), hf.trans (h.2.mono fun g hg => ⟨by have := hg.1; omega, fun hm => hm.1.elim hg.2 (fun h => by have := hg.1; omega)⟩)⟩
/-- What the second loop has of the old row. -/
structure Old (M : Nat → Prop) (mb n : Nat) (lv : Value) (sc : List Int) (L : List Nat) (W W2 : World) : Prop where
  fq : Fq (Qm M W) W W2
  dx : Dx (fun g => (M g ∨ W.heap.size ≤ g) ∧ lv.ownBlock ≠ some g) mb n sc [] W2
  row : W2.ownsRow 0 3 1 lv L.length (ivs L)
  nd : L.Nodup
  lt : ∀ u ∈ L, u < n
theorem Old.begin {M : Nat → Prop} {mb : Nat} {sv lv : Value} {n : Nat} {sc : List Int} {L : List Nat} {W W1 : World} (H : Dm (Qm M W) mb sv lv n sc L W1) (hf : Fq (Qm M W) W W1) (hg : Gx n sc L) : Old M mb n lv sc L W (W1.setCell ⟨mb, 1, none⟩ (.slice none 0 0)) := by
  obtain ⟨h1, h2⟩ := H.letgo hf.size hg
  exact ⟨hf.trans h2, h1, own_keep H.row H.apart.2.1 _, hg.nd, hg.lt⟩
theorem Old.put {M : Nat → Prop} {mb n k : Nat} {lv : Value} {sc : List Int} {L : List Nat} {W W2 w : World} (h : Old M mb n lv sc L W W2) (hk : k < L.length) (d : DxO (fun g => (M g ∨ W.heap.size ≤ g) ∧ lv.ownBlock ≠ some g) mb n sc (Hpp.srt sc (L.take k)) W2 w) :
    Calls Try.prog 50 #[.pointer (some ⟨mb, 0, none⟩), .int .i64 ((L.getD k 0 : Nat) + 1 : Int)] w fun e w' => e = .returned (.tuple #[]) ∧ DxO (fun g => (M g ∨ W.heap.size ≤ g) ∧ lv.ownBlock ≠ some g) mb n sc (Hpp.srt sc (L.take (k + 1))) W2 w' := by
  have hm : L.getD k 0 ∈ L := by rw [Hpp.getD_el L hk]; exact List.getElem_mem _
  have hnd : (L.take k).Nodup := h.nd.sublist (List.take_sublist _ _)
  refine (put50 d.1 (Hpp.srt_srt hnd) (u := L.getD k 0) (h.lt _ hm) (fun hm2 => ?_)).mono fun e w' ⟨he, hw⟩ => ⟨he, by rw [srt_take hk]; exact d.next hw⟩
  have h3 := (Hpp.srt_perm sc (L.take k)).mem_iff.1 hm2
  obtain ⟨j, hj, e⟩ := List.getElem_of_mem h3
  rw [List.getElem_take, Hpp.getD_el L hk] at e
  have hjk : j < k := by simp at hj; omega
  exact List.pairwise_iff_getElem.1 h.nd j k (by omega) hk hjk e
theorem Old.at {M : Nat → Prop} {mb n k : Nat} {lv : Value} {sc : List Int} {L K : List Nat} {W W2 w : World} (h : Old M mb n lv sc L W W2) (d : DxO (fun g => (M g ∨ W.heap.size ≤ g) ∧ lv.ownBlock ≠ some g) mb n sc K W2 w) : w.ownsRow 0 3 1 lv L.length (ivs L) :=
  d.row h.row (fun g e hm => hm.2 e)
theorem bump34_no {M : Nat → Prop} {mb n : Nat} {sc : List Int} {L : List Nat} {W : World} (H : Dx M mb n sc L W) (v by_ : Int) (hv : v < 1 ∨ (n : Int) < v) :
    Calls Try.prog 34 #[.pointer (some ⟨mb, 0, none⟩), .int .i64 v, .int .i64 by_] W fun e w' => e = .returned (.tuple #[.bool false, .int .i64 2]) ∧ w' = W := by
  have C := hid (is49_no H v hv)
  clear H hv
  go_enter Try.func34, Try.ntmps34
  go_wp2_with (go_at_call 49; refine C.out.mono ?_; rintro e w4 ⟨rfl, hw4⟩; rw [hw4]; clear hw4)
  go_ret2
  exact ⟨rfl, rfl⟩
theorem bump34_by {M : Nat → Prop} {mb n : Nat} {sc : List Int} {L : List Nat} {W : World} (H : Dx M mb n sc L W) {u : Nat} (hu : u < n) (by_ : Int) (hv : by_ < 0 ∨ 1152921504606846976 < by_) :
    Calls Try.prog 34 #[.pointer (some ⟨mb, 0, none⟩), .int .i64 ((u : Int) + 1), .int .i64 by_] W fun e w' => e = .returned (.tuple #[.bool false, .int .i64 2]) ∧ w' = W := by
  have C := hid (is49_ok H hu)
  clear H
  by_cases h1 : by_ < 0
  · clear hv
    go_enter Try.func34, Try.ntmps34
    go_wp2_with (go_at_call 49; refine C.out.mono ?_; rintro e w4 ⟨rfl, hw4⟩; rw [hw4]; clear hw4)
    go_ret2
    exact ⟨rfl, rfl⟩
  · have h2 : 1152921504606846976 < by_ := by omega
    clear hv
    go_enter Try.func34, Try.ntmps34
    go_wp2_with (go_at_call 49; refine C.out.mono ?_; rintro e w4 ⟨rfl, hw4⟩; rw [hw4]; clear hw4)
    go_ret2
    exact ⟨rfl, rfl⟩
set_option maxHeartbeats 8000000 in
theorem bump34_ok {M : Nat → Prop} {mb n : Nat} {sc : List Int} {L : List Nat} {W : World} (H : Dx M mb n sc L W) {u : Nat} (hu : u < n) (by_ : Int) (h1 : 0 ≤ by_) (h2 : by_ ≤ 1152921504606846976) (h3 : sc.getD u 0 + by_ ≤ 1152921504606846976) :
    Calls Try.prog 34 #[.pointer (some ⟨mb, 0, none⟩), .int .i64 ((u : Int) + 1), .int .i64 by_] W fun e w' => e = .returned (.tuple #[.bool false, .int .i64 0]) ∧ DxO M mb n (sc.set u (sc.getD u 0 + by_)) (Hpp.srt (sc.set u (sc.getD u 0 + by_)) L) W w' := by
  have C := hid (is49_ok H hu)
  have hG := H.gx
  have hsu := hG.bd u hu
  obtain ⟨sv, lv, hD, _⟩ := H
  obtain ⟨gs, cs, rfl, hc⟩ := Sc.at (W := W) hD.scs (u := 0) (by omega)
  obtain ⟨hS1, hS2⟩ := (hD.below (Drawn.below (w' := W.drew) ⟨1, rfl⟩)).setS u (sc.getD u 0 + by_)
  have hS2 := (Fq.of_below (Q := Qm M W) (Drawn.below (w := W) (w' := W.drew) ⟨1, rfl⟩)).trans hS2
  have c0 := row_cell hD.blk 0
  have x1 := hc (u + 1) (by omega)
  simp only [List.getD_cons_succ] at x1
  have f1 := (own_cell2 hD.scs (k := u + 1) (by omega))
  have hx : (u : Int) + 1 < ((n + 1 : Nat) : Int) := by omega
  obtain ⟨m, hm⟩ : ∃ m, n + 1 = m := ⟨_, rfl⟩
  have hg1 : Gx n (sc.set u (sc.getD u 0 + by_)) L := ⟨hG.mx, by rw [List.length_set]; exact hG.len, hG.nd, hG.lt, bd_set hG.len hu hG.bd (by omega) (Int.le_refl _) h3⟩
  have d0 := row_cell hS1.blk 0
  have d1 := row_cell hS1.blk 1
  have y1 := (Sc.at (W := _) hS1.scs (u := u + 1) (by omega))
  obtain ⟨_, _, ee, hcc⟩ := y1
  cases ee
  have y1 := hcc (u + 1) (by omega)
  simp only [List.getD_cons_succ] at y1
  rw [Hpp.setD sc u _ (by rw [hG.len]; exact hu), if_pos rfl] at y1
  obtain ⟨ol, cl, rfl⟩ := own_slc hS1.row
  have OLD := hid (Old.begin hS1 hS2 hg1)
  obtain ⟨t, ht⟩ : ∃ t, L.length = t := ⟨_, rfl⟩
  have HT := hid ht
  have HLN := hid (show t ≤ 1048576 by have := nodup_len n L hG.nd hG.lt; have := hG.mx; omega)
  have f2 := row_frozen hS1.blk 1
  have hw : wrap64 (sc.getD u 0 + by_) = sc.getD u 0 + by_ := by unfold wrap64; omega
  have h3' : decide (1152921504606846976 < sc.getD u 0 + by_) = false := decide_eq_false (by omega)
  clear hD hG hS1 hS2 hg1 hc hcc
  generalize hsc1 : sc.set u (sc.getD u 0 + by_) = sc1 at *
  generalize sc.getD u 0 = s0 at *
  have hw2 : IntKind.i64.wrap (s0 + by_) = s0 + by_ := by simp [IntKind.wrap, IntKind.bits, IntKind.signed]; omega
  obtain ⟨W1, hW1⟩ : ∃ W1, W.drew.setCell ⟨gs, u + 1, none⟩ (.int .i64 (s0 + by_)) = W1 := ⟨_, rfl⟩
  rw [hW1] at d0 d1 y1 OLD f2
  obtain ⟨W2, hW2⟩ : ∃ W2, W1.setCell ⟨mb, 1, none⟩ (.slice none 0 0) = W2 := ⟨_, rfl⟩
  rw [hW2] at OLD
  rw [ht] at d1 OLD
  have hb1 : ¬ by_ < 0 := by omega
  have hb2 : ¬ 1152921504606846976 < by_ := by omega
  clear h1 h2 h3 hsu hw
  rw [hm] at hx c0 d0
  go_enter Try.func34, Try.ntmps34
  go_wp2_with (go_at_call 49; refine C.out.mono ?_; rintro e w4 ⟨rfl, hw4⟩; rw [hw4]; clear hw4)
  go_region
  go_wp2_with (fail)
  go_loopw [9] (fun i wr => i = .int .i64 0 ∧ Hid (wr = W1)) (fun _ _ => 0)
  case atStart => exact ⟨rfl, hid rfl⟩
  case round =>
    obtain ⟨rfl, hw⟩ := hrel
    rw [hw.out]
    clear hw
    go_wp2_with (fail)
    go_loopw [11] (fun i wr => ∃ k : Nat, k ≤ t ∧ i = .int .i64 (k : Nat) ∧ Hid (DxO (fun g => (M g ∨ W.heap.size ≤ g) ∧ (Value.slice ol t cl).ownBlock ≠ some g) mb n sc1 (Hpp.srt sc1 (L.take k)) W2 wr)) (fun i _ => t - (intOf i).toNat)
    case atStart => exact ⟨0, Nat.zero_le _, rfl, hid (by
      have := OLD.out.dx.below (Below.refl _ _)
      simpa [Hpp.srt] using this)⟩
    case round =>
      obtain ⟨k, hk, rfl, HR⟩ := hrel
      by_cases hlt : k < t
      · have hlt' : (k : Int) < t := by omega
        have hk1 : wrap64 ((k : Int) + 1) = (k : Int) + 1 := by have := HLN.out; unfold wrap64; omega
        have hro := OLD.out.at (k := 0) HR.out
        rw [HT.out] at hro
        obtain ⟨g9, c9, e9, q9⟩ := own_at hro (by omega)
        injection e9 with e91 e92 e93
        subst e91
        clear e92 e93
        have x9 := q9 k hlt
        have C9 := hid (OLD.out.put (by rw [HT.out]; exact hlt) HR.out)
        generalize ((L.getD k 0 : Nat) : Int) + 1 = z at x9 C9
        clear hro q9
        go_wp2_with (go_at_call 50; refine C9.out.mono ?_; rintro e w9 ⟨rfl, h9⟩; have HN := hid h9; clear h9)
        simp only [hk1]
        go_roundw
        case rel => exact ⟨k + 1, hlt, rfl, HN⟩
        case measure => simp only [intOf]; exact measD hlt
      · have hge : ¬ (k : Int) < t := by omega
        have HO := hid (show DxO M mb n sc1 (Hpp.srt sc1 L) W _ from bump_end OLD.out.fq (by
          have := HR.out
          rw [List.take_of_length_le (by rw [HT.out]; omega)] at this
          exact this))
        clear HR
        go_wp2
        go_ret2
        exact ⟨rfl, HO.out⟩
end Go.Proofs.Ytjbnkkjihcoojaa
