/- same; calls of a heap that is not there. -/
import Derived.Test.YtjbnkkjihcoojaaOrc
namespace Go.Proofs.Ytjbnkkjihcoojaa
open Go.RowKit Go.Maps
set_option linter.unusedVariables false
set_option maxRecDepth 100000

theorem ivs_len {W : World} {base e n : Nat} {v : Value} {L : List Nat} (h : W.ownsRow base e 1 v n (ivs L)) : L.length = n := by have := h.1; simpa [ivs] using this
theorem own_at {W : World} {n : Nat} {v : Value} {L : List Nat} (h : W.ownsRow 0 3 1 v n (ivs L)) (h0 : 0 < n) : ∃ g c, v = .slice (some ⟨g, 0, none⟩) n c ∧ ∀ k, k < n → W.cell? ⟨g, k, none⟩ = some (.int .i64 ((L.getD k 0 : Nat) + 1 : Int)) := by
  have hl := ivs_len h
  obtain ⟨g, c, cur, e1, _⟩ := own_some h h0
  subst e1
  refine ⟨g, c, rfl, fun k hk => ?_⟩
  have := World.ownsRow.cellAt h k (by omega)
  rw [this, ivs_at (by omega)]
theorem take_more {L K : List Nat} {k : Nat} (h : L.take k = K.take k) (hl : k < L.length) (hk : k < K.length) (e : L.getD k 0 = K.getD k 0) : L.take (k + 1) = K.take (k + 1) := by
  rw [List.take_succ_eq_append_getElem hl, List.take_succ_eq_append_getElem hk, h]
  rw [Hpp.getD_el L hl, Hpp.getD_el K hk] at e
  rw [e]
set_option maxHeartbeats 1000000 in
theorem same24 {W : World} {o1 o2 : Option Addr} {n1 n2 c1 c2 : Nat} {L K : List Nat} (h1 : W.ownsRow 0 3 1 (.slice o1 n1 c1) n1 (ivs L)) (h2 : W.ownsRow 0 3 1 (.slice o2 n2 c2) n2 (ivs K)) (hn : n1 ≤ 1048576) :
    Calls Try.prog 24 #[.slice o1 n1 c1, .slice o2 n2 c2] W fun e w' => e = .returned (.bool (decide (L = K))) ∧ Drawn W w' := by
  have l1 := ivs_len h1
  have l2 := ivs_len h2
  by_cases hne : n1 = n2
  · subst hne
    have hb : (((n1 : Nat) : Int) != (n1 : Nat)) = false := by simp
    have HL := hid (show L.length = n1 ∧ K.length = n1 from ⟨l1, l2⟩)
    rcases Nat.eq_zero_or_pos n1 with h0 | h0
    · subst h0
      have HE := hid (show decide (L = K) = true from decide_eq_true (by rw [List.eq_nil_of_length_eq_zero l1, List.eq_nil_of_length_eq_zero l2]))
      rw [HE.out]
      clear h1 h2 l1 l2
      go_enter Try.func24, Try.ntmps24
      go_wp2
      go_loopw [5] (fun i wr => i = .int .i64 0 ∧ wr = W) (fun _ _ => 0)
      case atStart => exact ⟨rfl, rfl⟩
      case round =>
        obtain ⟨rfl, hw⟩ := hrel
        rw [hw]
        clear hw
        go_wp2
        go_ret
        exact ⟨rfl, Drawn.refl _⟩
    · obtain ⟨g1, d1, e1, q1⟩ := own_at h1 h0
      obtain ⟨g2, d2, e2, q2⟩ := own_at h2 h0
      cases e1
      cases e2
      have HQ := hid (show _ ∧ _ from ⟨q1, q2⟩)
      clear h1 h2 l1 l2 q1 q2
      go_enter Try.func24, Try.ntmps24
      go_wp2
      go_loopw [5] (fun i wr => ∃ k : Nat, k ≤ n1 ∧ i = .int .i64 (k : Nat) ∧ Hid (L.take k = K.take k) ∧ Hid (Drawn W wr)) (fun i _ => n1 - (intOf i).toNat)
      case atStart => exact ⟨0, Nat.zero_le _, rfl, hid rfl, hid (Drawn.refl _)⟩
      case round =>
        obtain ⟨k, hk, rfl, HE, HD⟩ := hrel
        by_cases hlt : k < n1
        · have hlt' : (k : Int) < n1 := by omega
          have x1 : wr.cell? ⟨g1, k, none⟩ = some (.int .i64 ((L.getD k 0 : Nat) + 1 : Int)) := by obtain ⟨q, hq⟩ := HD.out; rw [hq]; exact HQ.out.1 k hlt
          have x2 : wr.cell? ⟨g2, k, none⟩ = some (.int .i64 ((K.getD k 0 : Nat) + 1 : Int)) := by obtain ⟨q, hq⟩ := HD.out; rw [hq]; exact HQ.out.2 k hlt
          by_cases hxy : L.getD k 0 = K.getD k 0
          · have HN := hid (take_more HE.out (by rw [HL.out.1]; exact hlt) (by rw [HL.out.2]; exact hlt) hxy)
            rw [← hxy] at x2
            have hbb : ((((L.getD k 0 : Nat) : Int) + 1) != ((L.getD k 0 : Nat) : Int) + 1) = false := by simp
            generalize ((L.getD k 0 : Nat) : Int) + 1 = z at *
            clear hxy
            go_wp2_with (fail)
            go_quiet (fail)
            have HD2 := hid (HD.out.drewN nq)
            go_wp2
            go_roundw
            case rel => exact ⟨k + 1, by omega, by go_num, HN, HD2⟩
            case measure => simp only [intOf]; omega
          · have HF := hid (show decide (L = K) = false from decide_eq_false (fun e => hxy (by rw [e])))
            have hbb : ((((L.getD k 0 : Nat) : Int) + 1) != ((K.getD k 0 : Nat) : Int) + 1) = true := by simp only [bne_iff_ne, ne_eq]; omega
            generalize ((L.getD k 0 : Nat) : Int) + 1 = z1 at *
            generalize ((K.getD k 0 : Nat) : Int) + 1 = z2 at *
            clear hxy
            go_wp2_with (fail)
            go_quiet (fail)
            have HD2 := hid (HD.out.drewN nq)
            go_wp2
            go_ret
            exact ⟨by rw [HF.out]; rfl, HD2.out⟩
        · have hge : ¬ (k : Int) < n1 := by omega
          have HF := hid (show decide (L = K) = true from decide_eq_true (by
            have h := HE.out
            rwa [List.take_of_length_le (by rw [HL.out.1]; omega), List.take_of_length_le (by rw [HL.out.2]; omega)] at h))
          go_wp2
          go_ret
          exact ⟨by rw [HF.out]; rfl, HD.out⟩
  · have hb : (((n1 : Nat) : Int) != (n2 : Nat)) = true := by simp only [bne_iff_ne, ne_eq]; omega
    have HF := hid (show decide (L = K) = false from decide_eq_false (fun e => hne (by rw [← l1, ← l2, e])))
    rw [HF.out]
    clear h1 h2 l1 l2
    go_enter Try.func24, Try.ntmps24
    go_wp2
    go_ret
    exact ⟨rfl, Drawn.refl _⟩
theorem wrong39_nil (v : Int) (W : World) : Calls Try.prog 39 #[.pointer none, .int .i64 v] W fun e w' => e = .returned (.int .i64 1) ∧ w' = W := by
  go_enter Try.func39, Try.ntmps39
  go_wp2
  go_ret
  exact ⟨rfl, rfl⟩
theorem size21_nil (W : World) : Calls Try.prog 21 #[.pointer none] W fun e w' => e = .returned (.int .i64 0) ∧ w' = W := by
  go_enter Try.func21, Try.ntmps21
  go_wp2
  go_ret
  exact ⟨rfl, rfl⟩
theorem has22_nil (v : Int) (W : World) : Calls Try.prog 22 #[.pointer none, .int .i64 v] W fun e w' => e = .returned (.bool false) ∧ w' = W := by
  have C0 := hid (wrong39_nil v W)
  go_enter Try.func22, Try.ntmps22
  go_wp2_with (first
    | (go_at_call 39; refine C0.out.mono ?_; rintro e w4 ⟨rfl, hw4⟩; rw [hw4]; clear hw4))
  go_ret
  exact ⟨rfl, rfl⟩
theorem score23_nil (v : Int) (W : World) : Calls Try.prog 23 #[.pointer none, .int .i64 v] W fun e w' => e = .returned (.int .i64 0) ∧ w' = W := by
  have C0 := hid (wrong39_nil v W)
  go_enter Try.func23, Try.ntmps23
  go_wp2_with (first
    | (go_at_call 39; refine C0.out.mono ?_; rintro e w4 ⟨rfl, hw4⟩; rw [hw4]; clear hw4))
  go_ret
  exact ⟨rfl, rfl⟩
theorem push16_nil (v : Int) (W : World) : Calls Try.prog 16 #[.pointer none, .int .i64 v] W fun e w' => e = .returned (.int .i64 1) ∧ w' = W := by
  have C0 := hid (wrong39_nil v W)
  go_enter Try.func16, Try.ntmps16
  go_wp2_with (first
    | (go_at_call 39; refine C0.out.mono ?_; rintro e w4 ⟨rfl, hw4⟩; rw [hw4]; clear hw4))
  go_ret
  exact ⟨rfl, rfl⟩
theorem remove18_nil (v : Int) (W : World) : Calls Try.prog 18 #[.pointer none, .int .i64 v] W fun e w' => e = .returned (.int .i64 1) ∧ w' = W := by
  have C0 := hid (wrong39_nil v W)
  go_enter Try.func18, Try.ntmps18
  go_wp2_with (first
    | (go_at_call 39; refine C0.out.mono ?_; rintro e w4 ⟨rfl, hw4⟩; rw [hw4]; clear hw4))
  go_ret
  exact ⟨rfl, rfl⟩
theorem bump19_nil (v b : Int) (W : World) : Calls Try.prog 19 #[.pointer none, .int .i64 v, .int .i64 b] W fun e w' => e = .returned (.tuple #[.bool false, .int .i64 1]) ∧ w' = W := by
  have C0 := hid (wrong39_nil v W)
  go_enter Try.func19, Try.ntmps19
  go_wp2_with (first
    | (go_at_call 39; refine C0.out.mono ?_; rintro e w4 ⟨rfl, hw4⟩; rw [hw4]; clear hw4))
  go_ret2
  exact ⟨rfl, rfl⟩
theorem pop17_nil (W : World) : Calls Try.prog 17 #[.pointer none] W fun e w' => e = .returned (.tuple #[.int .i64 0, .bool false]) ∧ w' = W := by
  have C0 := hid (size21_nil W)
  go_enter Try.func17, Try.ntmps17
  go_wp2_with (first
    | (go_at_call 21; refine C0.out.mono ?_; rintro e w4 ⟨rfl, hw4⟩; rw [hw4]; clear hw4))
  go_ret2
  exact ⟨rfl, rfl⟩
theorem top27_nil (W : World) : Calls Try.prog 27 #[.pointer none] W fun e w' => e = .returned (.tuple #[.int .i64 0, .bool false]) ∧ w' = W := by
  have C0 := hid (size21_nil W)
  go_enter Try.func27, Try.ntmps27
  go_wp2_with (first
    | (go_at_call 21; refine C0.out.mono ?_; rintro e w4 ⟨rfl, hw4⟩; rw [hw4]; clear hw4))
  go_ret2
  exact ⟨rfl, rfl⟩
theorem order20_nil (W : World) : Calls Try.prog 20 #[.pointer none] W fun e w' => e = .returned (.slice none 0 0) ∧ w' = W := by
  go_enter Try.func20, Try.ntmps20
  go_wp2
  go_ret
  exact ⟨rfl, rfl⟩
theorem copy12_nil (W : World) : Calls Try.prog 12 #[.pointer none] W fun e w' => e = .returned (.pointer none) ∧ w' = W := by
  go_enter Try.func12, Try.ntmps12
  go_wp2
  go_ret
  exact ⟨rfl, rfl⟩
end Go.Proofs.Ytjbnkkjihcoojaa
