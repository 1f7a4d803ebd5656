/- Steps written as bytes, by the document. -/
import Derived.Test.YtmgeoeajnpnadaaRStp
namespace Lra
theorem may_fits {s : Stp} (h : may s = true) : (s.kind = 1 ∨ s.kind = 2) ∧ (0 ≤ s.id ∧ s.id ≤ 4611686018427387903) ∧ (∀ x ∈ s.lits, -1048576 ≤ x ∧ x ≤ 1048576) ∧ (∀ x ∈ s.hints, -4611686018427387903 ≤ x ∧ x ≤ 4611686018427387903) := by
  unfold may at h
  split at h
  · next hk =>
    simp only [Bool.and_eq_true, List.all_eq_true] at h
    obtain ⟨h1, h2, h3⟩ := h
    refine ⟨.inl hk, ?_, fun x hx => ?_, fun x hx => ?_⟩
    · unfold added at h1; simp at h1; omega
    · have := h2 x hx; unfold literal at this; simp at this; omega
    · have := h3 x hx; unfold hint at this; simp at this; omega
  · split at h
    · next hk =>
      simp only [Bool.and_eq_true, List.all_eq_true] at h
      obtain ⟨h1, h2, h3⟩ := h
      refine ⟨.inr hk, ?_, fun x hx => ?_, fun x hx => ?_⟩
      · unfold known at h1; simp at h1; omega
      · rw [List.isEmpty_iff.1 h2] at hx; cases hx
      · have := h3 x hx; unfold added at this; simp at this; omega
    · cases h
end Lra
namespace Bin
def text (ss : List Lra.Stp) : List Int := ss.flatMap stp
theorem text_take (ss : List Lra.Stp) (k : Nat) (h : k < ss.length) : text (ss.take (k + 1)) = text (ss.take k) ++ stp ss[k] := by
  rw [List.take_succ_eq_append_getElem h]
  unfold text
  rw [List.flatMap_append]
  simp
theorem stp_len {s : Lra.Stp} (h : Lra.may s = true) : (stp s).length ≤ 9 * (s.lits.length + s.hints.length + 4) := by
  obtain ⟨h1, h2, h3, h4⟩ := Lra.may_fits h
  have e1 := num_len (n := s.id) (by omega) (by omega)
  have e2 := row_len (l := s.lits) (fun x hx => by have := h3 x hx; omega)
  have e3 := row_len (l := s.hints) h4
  unfold stp
  split <;> simp only [List.length_cons, List.length_append, List.length_nil] <;> omega
theorem text_len {ss : List Lra.Stp} (h : ss.all Lra.may = true) : (text ss).length ≤ 9 * (Lra.items ss + 4 * ss.length) := by
  induction ss with
  | nil => simp [text]
  | cons s ss ih =>
    simp only [List.all_cons, Bool.and_eq_true] at h
    have e : text (s :: ss) = stp s ++ text ss := by simp [text]
    have h1 := stp_len h.1
    have h2 := ih h.2
    rw [e, List.length_append, Lra.items_cons, List.length_cons]
    omega
end Bin
namespace Go.Proofs.Ytmgeoeajnpnadaa
open Go.RowKit
set_option linter.unusedVariables false
set_option linter.unusedSimpArgs false

/-- What Write tells. -/
def WOut (w : World) (ss : List Lra.Stp) (e : Ending) (w' : World) : Prop :=
  (ss.all Lra.may = false ∧ e = .returned (.tuple #[.slice none 0 0, .int .i64 50]) ∧ Below w.heap.size w w') ∨
  (ss.all Lra.may = true ∧ ∃ o c, e = .returned (.tuple #[.slice o (Bin.text ss).length c, .int .i64 0]) ∧ w'.ownsRow w.heap.size 5 1 (.slice o (Bin.text ss).length c) (Bin.text ss).length ((Bin.text ss).map (Value.int .u8)) ∧ Below w.heap.size w w')

set_option maxRecDepth 100000 in
set_option maxHeartbeats 8000000 in
theorem write12 (a : Option Addr) (n c : Nat) (ss : List Lra.Stp) (w : World) (hn : ss.length = n) (hb : n ≤ 1000000) (hi : Lra.items ss ≤ 1000000) (hs : Steps w a ss) :
    Calls Try.prog 12 #[.slice a n c] w fun e w' => WOut w ss e w' := by
  have C20 := hid (large20 a n c ss w hn (by omega) hs)
  rw [decide_eq_false (by omega)] at C20
  have HS := hid hs
  have HN := hid hn
  have HI := hid hi
  have sh := hs.shape
  rw [hn] at sh
  clear hs hn hi
  rcases sh with Z | ⟨b, off, rfl⟩
  all_goals
    go_enter Try.func12, Try.ntmps12
    go_wp2_with (first
      | (go_at_call 20; refine C20.out.mono ?_; clear C20; rintro e W1 ⟨rfl, hb1⟩
         have HB1 := hid hb1
         clear hb1))
    go_loopw [4, 5] (fun bv iv wr => ∃ (ys : List Int) (o : Option Addr) (k cp i : Nat), bv = .slice o k cp ∧ iv = .int .i64 i ∧ i ≤ n ∧ Hid (ys.length = k) ∧ Hid ((ss.take i).all Lra.may = true) ∧ Hid (ys = Bin.text (ss.take i)) ∧ Hid (wr.ownsRow w.heap.size 5 1 (.slice o k cp) k (ys.map (Value.int .u8))) ∧ Hid (Below w.heap.size w wr)) (fun _ iv _ => n - (intOf iv).toNat)
    case atStart => exact ⟨[], none, 0, 0, 0, rfl, rfl, by omega, hid rfl, hid (by simp), hid (by simp [Bin.text]), hid (World.ownsRow_nil _ _ _ _), HB1⟩
    case round =>
      clear HB1
      obtain ⟨ys, o, k, cp, i, rfl, rfl, hi, HK, HA, HE, HOW, HB⟩ := hrel
      by_cases hlt : i < n
      · have hlt' : (i : Int) < n := by omega
        first
        | (exfalso; have := Z.out; omega)
        | (have hks : i < ss.length := by rw [HN.out]; exact hlt
           obtain ⟨a1, c1, a2, c2, hst0⟩ := HS.out.at (j := i) hks
           have hst := hst0.below HB.out
           have HKA := hid (show (ss.take (i + 1)).all Lra.may = ((ss.take i).all Lra.may && Lra.may ss[i]) by rw [List.take_succ_eq_append_getElem hks, List.all_append]; simp)
           have HM := hid (show Lra.may ss[i] = false → ss.all Lra.may = false from fun h => by
             cases e : ss.all Lra.may
             · rfl
             · have := List.all_eq_true.1 e _ (List.getElem_mem hks); rw [h] at this; cases this)
           have HTK := hid (Lra.items_take ss i hks)
           have HTE := hid (Lra.items_le ss (i + 1))
           have HTX := hid (Bin.text_take ss i hks)
           have HV := hid hst0.v
           have C21 := hid (may21 ss[i] a1 c1 a2 c2 wr hst.v)
           have hcell : ∀ X, Below wr.heap.size wr X → X.cell? ⟨b, off + i * 4, none⟩ = some (.int .u8 ss[i].kind) ∧ X.cell? ⟨b, off + i * 4 + 1, none⟩ = some (.int .i64 ss[i].id) ∧ X.cell? ⟨b, off + i * 4 + 2, none⟩ = some (.slice a1 ss[i].lits.length c1) ∧ X.cell? ⟨b, off + i * 4 + 3, none⟩ = some (.slice a2 ss[i].hints.length c2) := fun X h => ⟨(hst.below h).k, (hst.below h).i, (hst.below h).l, (hst.below h).h⟩
           have HKL := hid (show k + 9 * (ss[i].lits.length + ss[i].hints.length + 4) ≤ 800000000 by
             have e1 := HK.out
             rw [HE.out] at e1
             have e2 := Bin.text_len HA.out
             rw [List.length_take] at e2
             have e3 := HTE.out
             rw [HTK.out] at e3
             have e4 := HI.out
             omega)
           generalize ss[i] = s at C21 HKA HM HTK HTX HV hcell HKL
           have C22 := hid (fun (hm : Lra.may s = true) (X : World) (h : Below wr.heap.size wr X) (q : Nat) (hq : (ys ++ Bin.stp s).length = q) => (step22 w o k cp ys s a1 c1 a2 c2 X HK.out HKL.out (own_below HOW.out h) (HB.out.trans (h.mono HB.out.size)) HV.out (by have := (Lra.may_fits hm).2.1; omega) (fun x hx => by have := (Lra.may_fits hm).2.2.1 x hx; omega) ((Lra.may_fits hm).2.2.2)).mono fun e W' r => r.len hq)
           unfold sval at C21 C22
           obtain ⟨x0, x1, x2, x3⟩ := hcell wr (Below.refl _ _)
           have HC := hid hcell
           clear hst hst0 hcell hks
           cases hm : Lra.may s
           · have HF := hid (HM.out hm)
             rw [hm] at C21
             clear HKA HM hm C22 HC HKL HTK
             generalize s.lits.length = m1 at x2 C21
             generalize s.hints.length = m2 at x3 C21
             generalize s.kind = kd at x0 C21
             generalize s.id = id at x1 C21
             go_wp2_with (first
               | (go_at_call 21; refine C21.out.mono ?_; clear C21; rintro e W4 ⟨rfl, hb4⟩
                  have HB4 := hid (HB.out.trans (hb4.mono HB.out.size))
                  clear hb4))
             go_ret2
             exact .inl ⟨HF.out, rfl, HB4.out⟩
           · have HK2 := hid (show (ss.take (i + 1)).all Lra.may = true by rw [HKA.out, HA.out, hm]; rfl)
             rw [hm] at C21
             obtain ⟨q, hq⟩ : ∃ q, (ys ++ Bin.stp s).length = q := ⟨_, rfl⟩
             have CC := hid (fun X h => C22.out hm X h q hq)
             have HQ := hid hq
             have HE2 := hid (show ys ++ Bin.stp s = Bin.text (ss.take (i + 1)) by rw [HTX.out, HE.out])
             clear HKA HM hm C22 HKL HTK hq
             generalize s.lits.length = m1 at x2 C21 CC HC
             generalize s.hints.length = m2 at x3 C21 CC HC
             generalize s.kind = kd at x0 C21 CC HC
             generalize s.id = id at x1 C21 CC HC
             go_wp2_with (first
               | (go_at_call 21; refine C21.out.mono ?_; clear C21; rintro e W4 ⟨rfl, hb4⟩
                  obtain ⟨z0, z1, z2, z3⟩ := HC.out W4 hb4
                  have C5 := hid (CC.out W4 hb4)
                  clear hb4 CC HC)
               | (go_at_call 22; refine C5.out.mono ?_; clear C5; rintro e W5 ⟨o5, c5, rfl, ho5, hb5⟩; have HO5 := hid ho5; have HB5 := hid hb5; clear ho5 hb5))
             go_roundw
             case rel => exact ⟨_, _, _, _, i + 1, rfl, by go_num, by omega, HQ, HK2, HE2, HO5, HB5⟩
             case measure => simp [intOf]; omega)
      · have hlt' : ¬ (i : Int) < n := by omega
        have HTL := hid (show ss.take i = ss from List.take_of_length_le (by rw [HN.out]; omega))
        go_wp2
        go_ret2
        have e1 := HE.out
        have e2 := HA.out
        rw [HTL.out] at e1 e2
        refine .inr ⟨e2, ?_⟩
        rw [← e1, HK.out]
        exact ⟨_, _, rfl, HOW.out, HB.out⟩
end Go.Proofs.Ytmgeoeajnpnadaa
