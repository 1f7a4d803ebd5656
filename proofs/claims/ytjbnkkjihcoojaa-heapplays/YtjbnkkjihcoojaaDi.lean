/- The document's heap: has, before, put. -/
import Derived.Test.YtjbnkkjihcoojaaDh
namespace Go.Proofs.Ytjbnkkjihcoojaa
open Go.RowKit Go.Maps
set_option linter.unusedVariables false
set_option maxRecDepth 100000

theorem measD {k n : Nat} (h : k < n) : n - ((k : Int) + 1).toNat < n - (k : Int).toNat := by omega
set_option maxHeartbeats 2000000 in
theorem has37 {M : Nat → Prop} {mb n : Nat} {sc : List Int} {L : List Nat} {W : World} (H : Dx M mb n sc L W) (v : Int) (r : Bool) (hr : r = true ↔ ∃ u ∈ L, (u : Int) + 1 = v) :
    Calls Try.prog 37 #[.pointer (some ⟨mb, 0, none⟩), .int .i64 v] W fun e w' => e = .returned (.bool r) ∧ w' = W := by
  have hlen : L.length ≤ 1048576 := by have := nodup_len n L H.gx.nd H.gx.lt; have := H.gx.mx; omega
  obtain ⟨gs, cs, o, c, c0, c1, hc, ho, hni⟩ := H.cells
  obtain ⟨t, ht⟩ : ∃ t, L.length = t := ⟨_, rfl⟩
  rw [ht] at c1 ho
  have HT := hid ht
  have HL := hid (show t ≤ 1048576 by omega)
  have HC := hid (fun (h0 : 0 < t) => own_at ho h0)
  clear H hc hlen hni ho ht
  have HR := hid hr
  clear hr
  go_enter Try.func37, Try.ntmps37
  go_wp2
  go_loopw [5] (fun i wr => ∃ k : Nat, k ≤ t ∧ i = .int .i64 (k : Nat) ∧ Hid (∀ j, j < k → ((L.getD j 0 : Nat) : Int) + 1 ≠ v) ∧ Hid (wr = W)) (fun i _ => t - (intOf i).toNat)
  case atStart => exact ⟨0, Nat.zero_le _, rfl, hid (fun j hj => by omega), hid rfl⟩
  case round =>
    obtain ⟨k, hk, rfl, HN, HW⟩ := hrel
    rw [HW.out]
    clear HW
    by_cases hlt : k < t
    · have hlt' : (k : Int) < t := by omega
      have hk1 : wrap64 ((k : Int) + 1) = (k : Int) + 1 := by have := HL.out; unfold wrap64; omega
      obtain ⟨g, d, e, q⟩ := HC.out (by omega)
      injection e with e1 e2 e3
      subst e1
      have x1 := q k hlt
      by_cases hv : ((L.getD k 0 : Nat) : Int) + 1 = v
      · have HE := hid (show r = true from HR.out.2 ⟨L.getD k 0, by rw [Hpp.getD_el L (by rw [HT.out]; exact hlt)]; exact List.getElem_mem _, hv⟩)
        have hb : ((((L.getD k 0 : Nat) : Int) + 1) == v) = true := by simpa using hv
        generalize ((L.getD k 0 : Nat) : Int) + 1 = z at x1 hb
        clear hv q
        go_wp2
        go_ret
        exact ⟨by rw [HE.out]; rfl, rfl⟩
      · have HN2 := hid (show ∀ j, j < k + 1 → ((L.getD j 0 : Nat) : Int) + 1 ≠ v from fun j hj => by
          by_cases e : j = k
          · rw [e]; exact hv
          · exact HN.out j (by omega))
        have hb : ((((L.getD k 0 : Nat) : Int) + 1) == v) = false := by simpa using hv
        generalize ((L.getD k 0 : Nat) : Int) + 1 = z at x1 hb
        clear hv q
        go_wp2
        simp only [hk1]
        go_roundw
        case rel => exact ⟨k + 1, hlt, rfl, HN2, by first | exact hid rfl | exact hid trivial⟩
        case measure => simp only [intOf]; exact measD hlt
    · have hge : ¬ (k : Int) < t := by omega
      have HE := hid (show r = false from by
        cases hb : r with
        | false => rfl
        | true =>
          obtain ⟨u, hu, e⟩ := HR.out.1 hb
          obtain ⟨j, hj, e2⟩ := List.getElem_of_mem hu
          exact absurd (by rw [Hpp.getD_el L hj, e2]; exact e) (HN.out j (by rw [HT.out] at hj; omega)))
      go_wp2
      go_ret
      exact ⟨by rw [HE.out]; rfl, rfl⟩
set_option maxHeartbeats 2000000 in
theorem before60 {M : Nat → Prop} {mb n : Nat} {sc : List Int} {L : List Nat} {W : World} (H : Dx M mb n sc L W) {a b : Nat} (ha : a < n) (hb : b < n) (r : Bool) (hr : r = true ↔ Hpp.bef sc a b) :
    Calls Try.prog 60 #[.pointer (some ⟨mb, 0, none⟩), .int .i64 ((a : Int) + 1), .int .i64 ((b : Int) + 1)] W fun e w' => e = .returned (.bool r) ∧ Drawn W w' := by
  obtain ⟨gs, cs, o, c, c0, c1, hc, _⟩ := H.cells
  have x1 := hc a ha
  have x2 := hc b hb
  have hx : (a : Int) + 1 < ((n + 1 : Nat) : Int) := by omega
  have hy : (b : Int) + 1 < ((n + 1 : Nat) : Int) := by omega
  obtain ⟨m, hm⟩ : ∃ m, n + 1 = m := ⟨_, rfl⟩
  rw [hm] at c0 hx hy
  unfold Hpp.bef at hr
  clear H hc
  generalize sc.getD a 0 = s1 at *
  generalize sc.getD b 0 = s2 at *
  by_cases h1 : s2 < s1
  · have HE := hid (show r = true from hr.2 (.inl h1))
    clear hr
    go_enter Try.func60, Try.ntmps60
    go_wp2_with (fail)
    go_quiet (fail)
    go_wp2
    go_ret
    exact ⟨by rw [HE.out]; rfl, _, rfl⟩
  · by_cases h2 : s1 = s2
    · have h2' : (s1 == s2) = true := by rw [beq_iff_eq]; exact h2
      have HE := hid (show r = decide (a < b) from by
        by_cases h3 : a < b
        · rw [decide_eq_true h3]; exact hr.2 (.inr ⟨h2, h3⟩)
        · rw [decide_eq_false h3]
          cases r with
          | false => rfl
          | true => rcases hr.1 rfl with h | ⟨_, h⟩; omega; omega)
      have hd1 : decide (s2 < s1) = false := decide_eq_false h1
      clear hr h2 h1
      go_enter Try.func60, Try.ntmps60
      go_wp2_with (fail)
      go_quiet (fail)
      go_wp2
      go_ret
      exact ⟨by rw [HE.out]; rfl, _, rfl⟩
    · have h2' : (s1 == s2) = false := by rw [beq_eq_false_iff_ne]; exact h2
      have HE := hid (show r = false from by
        cases r with
        | false => rfl
        | true => rcases hr.1 rfl with h | ⟨h, _⟩; omega; omega)
      have hd1 : decide (s2 < s1) = false := decide_eq_false h1
      clear hr h2 h1
      go_enter Try.func60, Try.ntmps60
      go_wp2_with (fail)
      go_quiet (fail)
      go_wp2
      go_ret
      exact ⟨by rw [HE.out]; rfl, _, rfl⟩
end Go.Proofs.Ytjbnkkjihcoojaa
