/- The truths of a check taken back: the deferred call. -/
import Derived.Test.YthpebfojkpnojaaTkp
import Derived.Defers
namespace Go.Proofs.Ythpebfojkpnojaa
open Go.RowKit Go.Maps
set_option linter.unusedVariables false
set_option linter.unusedSimpArgs false
set_option maxRecDepth 100000
set_option maxHeartbeats 4000000 in
theorem untake51D (u : FrameMode) {bb fb pb gt m cz ct : Nat} {W : World} {ts : List Int} (x8 : W.cell? ⟨bb, 8, none⟩ = some (.slice (some ⟨gt, 0, none⟩) m ct)) (p0 : W.cell? ⟨pb, 0, none⟩ = some (.pointer (some ⟨bb, 0, none⟩))) (a : Option Addr) (n c : Nat) (f0 : W.cell? ⟨fb, 0, none⟩ = some (.slice a n c))
    (hG : TrW gt m cz ts W W) (h1 : bb ≠ gt) (h2 : pb ≠ gt) (h3 : fb ≠ gt) (xs : List Int) (hn : xs.length = n) (hN : n ≤ 35184372088832) (hmm : m ≤ 1048577) (hx : Lits W a xs) (hxa : ∀ b off, a = some ⟨b, off, none⟩ → xs ≠ [] → b ≠ gt) (hxs : ∀ x ∈ xs, 1 ≤ Bas.vr x ∧ Bas.vr x < m) :
    CallsD Try.prog 51 #[.pointer (some ⟨fb, 0, none⟩), .pointer (some ⟨pb, 0, none⟩)] u W fun e u' w' => u' = u ∧ e = .returned (.tuple #[]) ∧ TrW gt m cz (Bas.untake ts xs) W w' := by
  have HX8 := hid (fun (X : World) (t : List Int) (h : TrW gt m cz t W X) => (h.other h1).trans x8)
  have HP0 := hid (fun (X : World) (t : List Int) (h : TrW gt m cz t W X) => (h.other h2).trans p0)
  have HXS := hid hxs
  have HN := hid hn
  have HG := hid hG
  have HX : Hid (∀ (X : World) (t : List Int), TrW gt m cz t W X → ∀ k, k < xs.length → ∃ b off, a = some ⟨b, off, none⟩ ∧ X.cell? ⟨b, off + k, none⟩ = some (.int .i32 (xs.getD k 0)) ∧ I32 (xs.getD k 0)) := fun X t h k hk => by
    obtain ⟨b, off, e, _, hc, hlo, hhi⟩ := Row.at hx hk
    exact ⟨b, off, e, (h.other (hxa b off e (fun e => by rw [e] at hk; simp at hk))).trans hc, hlo, hhi⟩
  have sh : Hid (n = 0) ∨ ∃ b off, a = some ⟨b, off, none⟩ := by
    rcases hx.2 with h | ⟨b, off, e, _⟩
    · left; rw [h] at hn; exact hn.symm
    · exact .inr ⟨b, off, e⟩
  clear x8 p0 hxs hn hx hxa h1 h2 h3 hG
  rcases sh with Z | ⟨b, off, rfl⟩
  all_goals
    go_enter_d Try.func51, Try.ntmps51
    go_wp2_with fail
    go_loopw [3, 6] (fun _ iv wr => ∃ k : Nat, k ≤ n ∧ iv = .int .i64 k ∧ Hid (TrW gt m cz (Bas.untake ts (xs.take k)) W wr)) (fun _ iv _ => n - (intOf iv).toNat)
    case atStart => exact ⟨0, Nat.zero_le _, rfl, HG⟩
    case round =>
      obtain ⟨k, hk, rfl, HT⟩ := hrel
      by_cases hlt : k < n
      · first
        | (exfalso; have := Z.out; omega)
        | (have hlt' : (k : Int) < n := by omega
           have hkx : k < xs.length := by rw [HN.out]; exact hlt
           obtain ⟨b2, off2, e2, hc, hi⟩ := HX.out wr _ HT.out k hkx
           cases e2
           obtain ⟨hv1, hv2⟩ := HXS.out _ (getD_mem xs k hkx)
           have q8 := HX8.out wr _ HT.out
           have q0 := HP0.out wr _ HT.out
           have HTK := hid (show xs.take (k + 1) = xs.take k ++ [xs.getD k 0] by rw [List.take_succ_eq_append_getElem hkx]; simp [List.getD, hkx])
           have C49 := hid (fun X => var49 (xs.getD k 0) X hi)
           obtain ⟨v, hv⟩ : ∃ v : Nat, Bas.vr (xs.getD k 0) = v := ⟨(Bas.vr (xs.getD k 0)).toNat, by omega⟩
           have HTS := hid (fun q => show TrW gt m cz (Bas.untake ts (xs.take (k + 1))) W ((wr.setCell ⟨gt, v, none⟩ (.int .i32 0)).drewN q) from by
             rw [HTK.out, Bas.untake_snoc, hv]
             exact HT.out.set v 0 q)
           rw [hv] at hv1 hv2 C49
           have hvm : v < m := by omega
           have hvm' : (v : Int) < m := by omega
           obtain ⟨c1, c2⟩ := HT.out.cell hvm
           generalize xs.getD k 0 = x at *
           clear hv HTK
           go_wp2_with fail
           refine wp_region_still_tail 7 (by kernel_rfl) (by kernel_rfl) ?_
           simp only [List.take_succ_cons, List.take_zero, List.drop_succ_cons, List.drop_zero]
           iterate 5 still_step
           still_call (C49.out _)
           iterate 1 still_step
           refine wpStill_nil ?_
           go_wp2
           exact ⟨⟨k + 1, by omega, by go_num, hid (HTS.out 1)⟩, by simp [intOf]; omega⟩)
      · have hge : ¬ (k : Int) < n := by omega
        have O := HT.out
        rw [List.take_of_length_le (by rw [HN.out]; omega)] at O
        have O2 := hid O
        clear O
        go_wp2
        refine bodyPost_end (results_none rfl _ _ _) rfl ?_
        first | exact ⟨rfl, O2.out⟩ | exact ⟨rfl, rfl, O2.out⟩
end Go.Proofs.Ythpebfojkpnojaa
