/- Both answer a call alike. -/
import Derived.Test.YtjbnkkjihcoojaaPa
import Derived.Test.YtjbnkkjihcoojaaLaw4
namespace Go.Proofs.Ytjbnkkjihcoojaa
open Go.RowKit Go.Maps
set_option linter.unusedVariables false
set_option maxRecDepth 100000

/-- Both calls answer a, and leave the same. -/
def Both (hb mb n : Nat) (s : List Int) (L : List Nat) (f g : FuncId) (xs : List Value) (a : Value) (s' : List Int) (L' : List Nat) : Prop :=
  (∀ M w, Hx M hb n s L w → Calls Try.prog f (.pointer (some ⟨hb, 0, none⟩) :: xs).toArray w fun e w' => e = .returned a ∧ HxO M hb n s' L' w w') ∧
  (∀ M w, Dx M mb n s L w → Calls Try.prog g (.pointer (some ⟨mb, 0, none⟩) :: xs).toArray w fun e w' => e = .returned a ∧ DxO M mb n s' L' w w')
theorem HxO.same {M : Nat → Prop} {hb n : Nat} {sc : List Int} {L : List Nat} {W w' : World} (h : Hx M hb n sc L W) (hw : w' = W) : HxO M hb n sc L W w' := by rw [hw]; exact HxO.refl h
theorem DxO.same {M : Nat → Prop} {mb n : Nat} {sc : List Int} {L : List Nat} {W w' : World} (h : Dx M mb n sc L W) (hw : w' = W) : DxO M mb n sc L W w' := by rw [hw]; exact h.below (Below.refl _ _)
theorem both_push (hb mb n : Nat) (s : List Int) (L : List Nat) (hs : Hpp.Srt s L) (v : Int) : ∃ (r : Int) (L' : List Nat), Both hb mb n s L 16 35 [.int .i64 v] (.int .i64 r) s L' := by
  rcases var_or n v with hv | ⟨u, hu, rfl⟩
  · exact ⟨2, L, fun M w h => (push16_no h v hv).mono fun e w' ⟨he, hw⟩ => ⟨he, HxO.same h hw⟩, fun M w h => (push35_no h v hv).mono fun e w' ⟨he, hw⟩ => ⟨he, DxO.same h hw⟩⟩
  · by_cases hm : u ∈ L
    · exact ⟨6, L, fun M w h => (push16_in h hu hm).mono fun e w' ⟨he, hw⟩ => ⟨he, HxO.same h hw⟩, fun M w h => (push35_in h hu hm).mono fun e w' ⟨he, hw⟩ => ⟨he, DxO.same h hw⟩⟩
    · exact ⟨0, _, fun M w h => push16_ok h hu hm, fun M w h => push35_ok h hs hu hm⟩
theorem both_remove (hb mb n : Nat) (s : List Int) (L : List Nat) (v : Int) : ∃ (r : Int) (L' : List Nat), Both hb mb n s L 18 33 [.int .i64 v] (.int .i64 r) s L' := by
  rcases var_or n v with hv | ⟨u, hu, rfl⟩
  · exact ⟨2, L, fun M w h => (remove18_no h v hv).mono fun e w' ⟨he, hw⟩ => ⟨he, HxO.same h hw⟩, fun M w h => (remove33_no h v hv).mono fun e w' ⟨he, hw⟩ => ⟨he, DxO.same h hw⟩⟩
  · by_cases hm : u ∈ L
    · exact ⟨0, _, fun M w h => remove18_ok h hu hm, fun M w h => remove33_ok h hu hm⟩
    · exact ⟨5, L, fun M w h => (remove18_out h hu hm).mono fun e w' ⟨he, hw⟩ => ⟨he, HxO.same h hw⟩, fun M w h => (remove33_out h hu hm).mono fun e w' ⟨he, hw⟩ => ⟨he, DxO.same h hw⟩⟩
theorem both_pop (hb mb n : Nat) (s : List Int) (L : List Nat) : ∃ (r : Int) (b : Bool) (L' : List Nat), Both hb mb n s L 17 32 [] (.tuple #[.int .i64 r, .bool b]) s L' := by
  cases L with
  | nil => exact ⟨0, false, [], fun M w h => (pop17_no h).mono fun e w' ⟨he, hw⟩ => ⟨he, HxO.same h hw⟩, fun M w h => (pop32_no h).mono fun e w' ⟨he, hw⟩ => ⟨he, DxO.same h hw⟩⟩
  | cons u L => exact ⟨_, true, L, fun M w h => pop17_ok h, fun M w h => pop32_ok h⟩
theorem both_bump (hb mb n : Nat) (s : List Int) (L : List Nat) (v by_ : Int) : ∃ (b : Bool) (r : Int) (s' : List Int) (L' : List Nat), Both hb mb n s L 19 34 [.int .i64 v, .int .i64 by_] (.tuple #[.bool b, .int .i64 r]) s' L' := by
  rcases var_or n v with hv | ⟨u, hu, rfl⟩
  · exact ⟨false, 2, s, L, fun M w h => (bump19_no h v by_ hv).mono fun e w' ⟨he, hw⟩ => ⟨he, HxO.same h hw⟩, fun M w h => (bump34_no h v by_ hv).mono fun e w' ⟨he, hw⟩ => ⟨he, DxO.same h hw⟩⟩
  · by_cases h1 : by_ < 0 ∨ 1152921504606846976 < by_
    · exact ⟨false, 2, s, L, fun M w h => (bump19_by h hu by_ h1).mono fun e w' ⟨he, hw⟩ => ⟨he, HxO.same h hw⟩, fun M w h => (bump34_by h hu by_ h1).mono fun e w' ⟨he, hw⟩ => ⟨he, DxO.same h hw⟩⟩
    · by_cases h3 : s.getD u 0 + by_ ≤ 1152921504606846976
      · exact ⟨false, 0, _, _, fun M w h => bump19_ok h hu by_ (by omega) (by omega) h3, fun M w h => bump34_ok h hu by_ (by omega) (by omega) h3⟩
      · exact ⟨true, 0, _, _, fun M w h => bump19_up h hu by_ (by omega) (by omega) (by omega), fun M w h => bump34_up h hu by_ (by omega) (by omega) (by omega)⟩
/-- The two calls, one behind the other. -/
theorem Both.first {S : Nat → Prop} {hb mb n : Nat} {s s' : List Int} {L L' : List Nat} {f g : FuncId} {xs : List Value} {a : Value} {w : World} (B : Both hb mb n s L f g xs a s' L') (h : Pw S hb mb n s L s L w) : Calls Try.prog f (.pointer (some ⟨hb, 0, none⟩) :: xs).toArray w fun e w' => e = .returned a ∧ PwO S hb mb n s' L' s L w w' := h.hx (P := fun e => e = .returned a) (fun M hx => B.1 M w hx)
theorem Both.second {S : Nat → Prop} {hb mb n : Nat} {s s' : List Int} {L L' : List Nat} {f g : FuncId} {xs : List Value} {a : Value} {w w1 : World} (B : Both hb mb n s L f g xs a s' L') (h : PwO S hb mb n s' L' s L w w1) : Calls Try.prog g (.pointer (some ⟨mb, 0, none⟩) :: xs).toArray w1 fun e w' => e = .returned a ∧ PwO S hb mb n s' L' s' L' w w' :=
  (h.1.dx (P := fun e => e = .returned a) (fun M dx => B.2 M w1 dx)).mono fun e w' ⟨he, hw⟩ => ⟨he, h.next hw⟩
theorem Both.first2 {S : Nat → Prop} {hb mb n : Nat} {s s' : List Int} {L L' : List Nat} {f g : FuncId} {xs : List Value} {a : Value} {V w : World} (B : Both hb mb n s L f g xs a s' L') (h : PwO S hb mb n s L s L V w) : Calls Try.prog f (.pointer (some ⟨hb, 0, none⟩) :: xs).toArray w fun e w' => e = .returned a ∧ PwO S hb mb n s' L' s L V w' :=
  (h.1.hx (P := fun e => e = .returned a) (fun M hx => B.1 M w hx)).mono fun e w' ⟨he, hw⟩ => ⟨he, h.next hw⟩
/-- The box of the call left aside. -/
theorem PwO.box {S : Nat → Prop} {hb mb n : Nat} {s s2 : List Int} {L L2 : List Nat} {W V w : World} (hb' : Below W.heap.size W V) (h : PwO (fun g => S g ∧ g < W.heap.size) hb mb n s L s2 L2 V w) : PwO S hb mb n s L s2 L2 W w := by
  have hs := hb'.size
  obtain ⟨M1, M2, h1, h2, h3, h4⟩ := h.1
  exact ⟨⟨M1, M2, h1, h2, h3, fun g hg => (h4 g hg).elim (fun h => .inl h.1) (fun h => .inr (Nat.le_trans hs h))⟩, (Fq.of_below hb').trans (h.2.mono fun g hg => ⟨by have := hg.1; omega, fun h => hg.2 h.1⟩)⟩
def PlO (S : Nat → Prop) (hb mb n : Nat) (w : World) (e : Ending) (w' : World) : Prop := e = .returned (.bool true) ∧ ∃ s' L', PwO S hb mb n s' L' s' L' w w'
set_option maxHeartbeats 8000000 in
theorem plays14 {S : Nat → Prop} {hb mb n : Nat} {s : List Int} {L : List Nat} {W : World} (h : Pw S hb mb n s L s L W) (kd v by_ : Int) (hk : 0 ≤ kd) :
    Calls Try.prog 14 #[.pointer (some ⟨hb, 0, none⟩), .pointer (some ⟨mb, 0, none⟩), .agg #[.int .u8 kd, .int .i64 v, .int .i64 by_]] W fun e w' => PlO S hb mb n W e w' := by
  have hbx := below_box W (.cells #[.int .u8 kd, .int .i64 v, .int .i64 by_] 33)
  have hP := h.below hbx
  have hsr : Hpp.Srt s L := by obtain ⟨M1, M2, h1, _⟩ := h; exact h1.srt
  have hr := mod8 hk
  obtain ⟨V, hV⟩ : ∃ V, W.alloc (.cells #[.int .u8 kd, .int .i64 v, .int .i64 by_] 33) = V := ⟨_, rfl⟩
  have HNEW := hid (heap_alloc_new W (.cells #[.int .u8 kd, .int .i64 v, .int .i64 by_] 33))
  rw [hV] at hP HNEW hbx
  have HKEEP := hid (fun (w : World) (hf : Fq (Qm (fun g => S g ∧ g < W.heap.size) V) V w) => show w.cell? ⟨W.heap.size, 1, none⟩ = some (.int .i64 v) ∧ w.cell? ⟨W.heap.size, 2, none⟩ = some (.int .i64 by_) from by
    have := hf.block _ _ HNEW.out ⟨lt_of_blk HNEW.out, fun h => by have := h.2; omega⟩
    exact ⟨row_cell this 1, row_cell this 2⟩)
  have x0 := row_cell HNEW.out 0
  have x1 := row_cell HNEW.out 1
  have x2 := row_cell HNEW.out 2
  have HP := hid (fun (q : Nat) => hP.of (w' := V.drewN q) (Drawn.below ⟨q, rfl⟩))
  have HP0 := hid hP.refl
  have HBX := hid hbx
  clear h hbx hP hk
  obtain ⟨rp, Lp, BP⟩ := both_push hb mb n s L hsr v
  obtain ⟨rr, Lr, BR⟩ := both_remove hb mb n s L v
  obtain ⟨ro, bo, Lo, BO⟩ := both_pop hb mb n s L
  obtain ⟨bb, rb, sb, Lb, BB⟩ := both_bump hb mb n s L v by_
  have BP := hid BP
  have BR := hid BR
  have BO := hid BO
  have BB := hid BB
  rcases hr with hr | hr | hr | hr | hr | hr | hr | hr
  · have C1 := hid (fun q => BP.out.first2 (HP.out q))
    go_enter Try.func14, Try.ntmps14
    go_wp2_with (fail)
    go_region_law (first
      | (go_simp; go_at_call 16; refine (C1.out 1).mono ?_; rintro e w1 ⟨rfl, h1⟩; have ⟨y1, y2⟩ := HKEEP.out _ h1.2; have C2 := hid (BP.out.second h1); clear h1)
      | (go_simp; go_at_call 35; refine C2.out.mono ?_; rintro e w2 ⟨rfl, h2⟩; have H2 := hid h2; clear h2))
    all_goals
      go_wp2
      go_ret
      exact ⟨by first | rfl | simp, _, _, H2.out.box HBX.out⟩
  · have C1 := hid (fun q => BP.out.first2 (HP.out q))
    go_enter Try.func14, Try.ntmps14
    go_wp2_with (fail)
    go_region_law (first
      | (go_simp; go_at_call 16; refine (C1.out 1).mono ?_; rintro e w1 ⟨rfl, h1⟩; have ⟨y1, y2⟩ := HKEEP.out _ h1.2; have C2 := hid (BP.out.second h1); clear h1)
      | (go_simp; go_at_call 35; refine C2.out.mono ?_; rintro e w2 ⟨rfl, h2⟩; have H2 := hid h2; clear h2))
    all_goals
      go_wp2
      go_ret
      exact ⟨by first | rfl | simp, _, _, H2.out.box HBX.out⟩
  · have C1 := hid (BO.out.first2 HP0.out)
    go_enter Try.func14, Try.ntmps14
    go_wp2_with (fail)
    go_at_call 17
    refine C1.out.mono ?_
    rintro e w1 ⟨rfl, h1⟩
    have ⟨y1, y2⟩ := HKEEP.out _ h1.2
    have C2 := hid (BO.out.second h1)
    clear h1
    go_wp2_with (fail)
    go_at_call 32
    refine C2.out.mono ?_
    rintro e w2 ⟨rfl, h2⟩
    have H2 := hid h2
    clear h2
    go_wp2
    go_ret
    exact ⟨by first | rfl | simp, _, _, H2.out.box HBX.out⟩
  · have C1 := hid (fun q => BR.out.first2 (HP.out q))
    go_enter Try.func14, Try.ntmps14
    go_wp2_with (fail)
    go_region_law (first
      | (go_simp; go_at_call 18; refine (C1.out 1).mono ?_; rintro e w1 ⟨rfl, h1⟩; have ⟨y1, y2⟩ := HKEEP.out _ h1.2; have C2 := hid (BR.out.second h1); clear h1)
      | (go_simp; go_at_call 33; refine C2.out.mono ?_; rintro e w2 ⟨rfl, h2⟩; have H2 := hid h2; clear h2))
    all_goals
      go_wp2
      go_ret
      exact ⟨by first | rfl | simp, _, _, H2.out.box HBX.out⟩
  · have C1 := hid (BB.out.first2 HP0.out)
    go_enter Try.func14, Try.ntmps14
    go_wp2_with (fail)
    go_at_call 19
    refine C1.out.mono ?_
    rintro e w1 ⟨rfl, h1⟩
    have ⟨y1, y2⟩ := HKEEP.out _ h1.2
    have C2 := hid (BB.out.second h1)
    clear h1
    go_wp2_with (fail)
    go_at_call 34
    refine C2.out.mono ?_
    rintro e w2 ⟨rfl, h2⟩
    have H2 := hid h2
    clear h2
    go_wp2
    go_ret
    exact ⟨by first | rfl | simp, _, _, H2.out.box HBX.out⟩
  · have C1 := hid (BB.out.first2 HP0.out)
    go_enter Try.func14, Try.ntmps14
    go_wp2_with (fail)
    go_at_call 19
    refine C1.out.mono ?_
    rintro e w1 ⟨rfl, h1⟩
    have ⟨y1, y2⟩ := HKEEP.out _ h1.2
    have C2 := hid (BB.out.second h1)
    clear h1
    go_wp2_with (fail)
    go_at_call 34
    refine C2.out.mono ?_
    rintro e w2 ⟨rfl, h2⟩
    have H2 := hid h2
    clear h2
    go_wp2
    go_ret
    exact ⟨by first | rfl | simp, _, _, H2.out.box HBX.out⟩
  · have C1 := hid (fun q => BP.out.first2 (HP.out q))
    go_enter Try.func14, Try.ntmps14
    go_wp2_with (fail)
    go_region_law (first
      | (go_simp; go_at_call 16; refine (C1.out 1).mono ?_; rintro e w1 ⟨rfl, h1⟩; have ⟨y1, y2⟩ := HKEEP.out _ h1.2; have C2 := hid (BP.out.second h1); clear h1)
      | (go_simp; go_at_call 35; refine C2.out.mono ?_; rintro e w2 ⟨rfl, h2⟩; have H2 := hid h2; clear h2))
    all_goals
      go_wp2
      go_ret
      exact ⟨by first | rfl | simp, _, _, H2.out.box HBX.out⟩
  · have C1 := hid (fun q => BP.out.first2 (HP.out q))
    go_enter Try.func14, Try.ntmps14
    go_wp2_with (fail)
    go_region_law (first
      | (go_simp; go_at_call 16; refine (C1.out 1).mono ?_; rintro e w1 ⟨rfl, h1⟩; have ⟨y1, y2⟩ := HKEEP.out _ h1.2; have C2 := hid (BP.out.second h1); clear h1)
      | (go_simp; go_at_call 35; refine C2.out.mono ?_; rintro e w2 ⟨rfl, h2⟩; have H2 := hid h2; clear h2))
    all_goals
      go_wp2
      go_ret
      exact ⟨by first | rfl | simp, _, _, H2.out.box HBX.out⟩
end Go.Proofs.Ytjbnkkjihcoojaa
