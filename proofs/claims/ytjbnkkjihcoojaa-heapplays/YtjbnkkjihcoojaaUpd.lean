/- Up and down in the heap: container/heap's own text. -/
import Derived.Test.YtjbnkkjihcoojaaSwp
namespace Go.Proofs.Ytjbnkkjihcoojaa
open Go.RowKit Go.Maps
set_option linter.unusedVariables false
set_option maxRecDepth 100000

/-- The heap as it stands with a row, on from a world. -/
def Hq (Q : Nat → Prop) (hb : Nat) (sv pv lv : Value) (n : Nat) (sc : List Int) (vs : List Nat) (W w' : World) : Prop := ∃ pl, Hp Q hb sv pv lv n sc vs pl w' ∧ Hpp.Pl n vs pl ∧ Fq Q W w'
theorem Hq.drawn {Q : Nat → Prop} {hb : Nat} {sv pv lv : Value} {n : Nat} {sc : List Int} {vs : List Nat} {W w w' : World} (h : Hq Q hb sv pv lv n sc vs W w) (hd : Below w.heap.size w w') : Hq Q hb sv pv lv n sc vs W w' := by
  obtain ⟨pl, h1, h2, h3⟩ := h
  exact ⟨pl, h1.below hd, h2, h3.trans (Fq.of_below hd)⟩
theorem Hq.less {Q : Nat → Prop} {hb : Nat} {sv pv lv : Value} {n : Nat} {sc : List Int} {vs : List Nat} {W w : World} (h : Hq Q hb sv pv lv n sc vs W w) (hn : n ≤ 1048576) {i j : Nat} (hi : i < vs.length) (hj : j < vs.length) :
    Calls Try.prog 96 #[.pointer (some ⟨hb, 1, none⟩), .int .i64 i, .int .i64 j] w fun e w' => e = .returned (.bool (decide (Hpp.bef sc (vs.getD i 0) (vs.getD j 0)))) ∧ Hq Q hb sv pv lv n sc vs W w' := by
  obtain ⟨pl, h1, h2, h3⟩ := h
  refine (less96 h1 h2 hn hi hj).mono ?_
  rintro e w' ⟨rfl, hd⟩
  exact ⟨rfl, pl, h1.below hd.below, h2, h3.trans (Fq.of_below hd.below)⟩
theorem Hq.swap {Q : Nat → Prop} {hb : Nat} {sv pv lv : Value} {n : Nat} {sc : List Int} {vs : List Nat} {W w : World} (h : Hq Q hb sv pv lv n sc vs W w) (hn : n ≤ 1048576) {i j : Nat} (hi : i < vs.length) (hj : j < vs.length) :
    Calls Try.prog 99 #[.pointer (some ⟨hb, 1, none⟩), .int .i64 i, .int .i64 j] w fun e w' => e = .returned (.tuple #[]) ∧ Hq Q hb sv pv lv n sc (Hpp.swp vs i j) W w' := by
  obtain ⟨pl, h1, h2, h3⟩ := h
  refine (swap99 h1 h2 hn hi hj).mono ?_
  rintro e w' ⟨rfl, hs1, hs2⟩
  exact ⟨rfl, _, hs1, h2.swap hi hj, h3.trans hs2⟩
abbrev hif (hb : Nat) : Value := .iface 65 (.pointer (some ⟨hb, 1, none⟩))
theorem m_less (a : Addr) (w : World) : (method 225 65 (.pointer (some a)) "Less").run Try.prog w = .ok (96, .pointer (some a)) w := by kernel_rfl
theorem m_swap (a : Addr) (w : World) : (method 225 65 (.pointer (some a)) "Swap").run Try.prog w = .ok (99, .pointer (some a)) w := by kernel_rfl
theorem m_len (a : Addr) (w : World) : (method 225 65 (.pointer (some a)) "Len").run Try.prog w = .ok (47, .pointer (some a)) w := by kernel_rfl
theorem m_push (a : Addr) (w : World) : (method 225 65 (.pointer (some a)) "Push").run Try.prog w = .ok (98, .pointer (some a)) w := by kernel_rfl
theorem m_pop (a : Addr) (w : World) : (method 225 65 (.pointer (some a)) "Pop").run Try.prog w = .ok (97, .pointer (some a)) w := by kernel_rfl
set_option maxHeartbeats 2000000 in
theorem up51 {Q : Nat → Prop} {hb : Nat} {sv pv lv : Value} {n : Nat} {sc : List Int} {vs : List Nat} {W w : World} (h : Hq Q hb sv pv lv n sc vs W w) (hn : n ≤ 1048576) {m j : Nat} (hm : m ≤ vs.length) (hj : j < m) (hml : vs.length ≤ 1048576) (hu : Hpp.Up sc m j vs) :
    Calls Try.prog 51 #[hif hb, .int .i64 j] w fun e w' => e = .returned (.tuple #[]) ∧ ∃ vs', vs'.Perm vs ∧ Hpp.HO sc 0 m vs' ∧ Hpp.Sm m vs' vs ∧ Hq Q hb sv pv lv n sc vs' W w' := by
  have HH := hid h
  have HU := hid hu
  have ml := m_less
  have ms := m_swap
  clear h hu
  go_enter Try.func51, Try.ntmps51
  go_wp2
  go_loopw [1] (fun jv wr => ∃ (k : Nat) (vs' : List Nat), k < m ∧ jv = .int .i64 (k : Nat) ∧ Hid (vs'.length = vs.length ∧ vs'.Perm vs ∧ Hpp.Up sc m k vs' ∧ Hq Q hb sv pv lv n sc vs' W wr ∧ Hpp.Sm m vs' vs)) (fun jv _ => (intOf jv).toNat)
  case atStart => exact ⟨j, vs, hj, rfl, hid ⟨rfl, .refl _, HU.out, HH.out, Hpp.Sm.refl _ _⟩⟩
  case round =>
    obtain ⟨k, vs', hk, rfl, HR⟩ := hrel
    have hml2 : vs'.length ≤ 1048576 := by rw [HR.out.1]; exact hml
    rcases Nat.eq_zero_or_pos k with h0 | hp
    · have HO := hid (show ∃ vs', vs'.Perm vs ∧ Hpp.HO sc 0 m vs' ∧ Hpp.Sm m vs' vs ∧ Hq Q hb sv pv lv n sc vs' W wr from ⟨vs', HR.out.2.1, HR.out.2.2.1.done (.inl h0), HR.out.2.2.2.2, HR.out.2.2.2.1⟩)
      subst h0
      go_wp2
      go_end0
      exact ⟨rfl, HO.out⟩
    · obtain ⟨k, rfl⟩ : ∃ k', k = k' + 1 := ⟨k - 1, by omega⟩
      obtain ⟨q, hq⟩ : ∃ q, k / 2 = q := ⟨_, rfl⟩
      have hq1 : ((k : Int) / 2) = (q : Int) := by omega
      have C1 := hid (HR.out.2.2.2.1.less hn (i := k + 1) (j := q) (by rw [HR.out.1]; omega) (by rw [HR.out.1]; omega))
      have hne : ((q : Int) == ((k + 1 : Nat) : Int)) = false := by simp; omega
      have HQ := hid hq
      clear hq
      rw [show ((k + 1 : Nat) : Int) = (k : Int) + 1 by omega] at C1 hne
      by_cases hb2 : Hpp.bef sc (vs'.getD (k + 1) 0) (vs'.getD q 0)
      · have HN := hid (show Hpp.Up sc m q (Hpp.swp vs' q (k + 1)) from by
          have := HR.out.2.2.1.step (by omega) hk (by rw [HR.out.1]; exact hm) (by rw [show (k + 1 - 1) / 2 = q by rw [Nat.add_sub_cancel]; exact HQ.out]; exact hb2)
          rwa [show (k + 1 - 1) / 2 = q by rw [Nat.add_sub_cancel]; exact HQ.out] at this)
        rw [decide_eq_true hb2] at C1
        have C2 := hid (fun (w2 : World) (h2 : Hq Q hb sv pv lv n sc vs' W w2) => h2.swap hn (i := q) (j := k + 1) (by rw [HR.out.1]; have := HQ.out; omega) (by rw [HR.out.1]; omega))
        rw [show ((k + 1 : Nat) : Int) = (k : Int) + 1 by omega] at C2
        clear hb2
        go_wp2_with (fail)
        go_at_call 96
        refine C1.out.mono ?_
        rintro e w2 ⟨rfl, h2⟩
        have H2 := hid h2
        clear h2 C1
        go_wp2_with (fail)
        go_at_call 99
        refine (C2.out _ H2.out).mono ?_
        rintro e w3 ⟨rfl, h3⟩
        have H3 := hid h3
        clear h3 C2
        go_wp2
        exact ⟨⟨q, Hpp.swp vs' q (k + 1), by have := HQ.out; omega, rfl, hid ⟨by rw [Hpp.swp_len]; exact HR.out.1, (Hpp.swp_perm (by rw [HR.out.1]; have := HQ.out; omega) (by rw [HR.out.1]; omega)).trans HR.out.2.1, HN.out, H3.out, HR.out.2.2.2.2.swp (by have := HQ.out; omega) (by omega) (by rw [HR.out.1]; exact hm)⟩⟩, by have := HQ.out; simp only [intOf]; omega⟩
      · have HO := hid (show Hpp.HO sc 0 m vs' from HR.out.2.2.1.done (.inr (by rw [show (k + 1 - 1) / 2 = q by rw [Nat.add_sub_cancel]; exact HQ.out]; exact hb2)))
        rw [decide_eq_false hb2] at C1
        clear hb2
        go_wp2_with (fail)
        go_at_call 96
        refine C1.out.mono ?_
        rintro e w2 ⟨rfl, h2⟩
        have H2 := hid h2
        clear h2 C1
        go_wp2
        go_end0
        exact ⟨rfl, vs', HR.out.2.1, HO.out, HR.out.2.2.2.2, H2.out⟩
def DnOut (Q : Nat → Prop) (hb : Nat) (sv pv lv : Value) (n : Nat) (sc : List Int) (vs : List Nat) (lo m i0 : Nat) (W : World) (e : Ending) (w' : World) : Prop :=
  ∃ b vs', e = .returned (.bool b) ∧ vs'.Perm vs ∧ Hpp.Sm m vs' vs ∧ Hq Q hb sv pv lv n sc vs' W w' ∧ (b = true → Hpp.HO sc lo m vs') ∧ (b = false → lo = 0 → Hpp.Up sc m i0 vs') ∧ (b = false → lo = i0 → Hpp.HO sc lo m vs')
theorem dn_out {Q : Nat → Prop} {hb : Nat} {sv pv lv : Value} {n : Nat} {sc : List Int} {vs vs' : List Nat} {lo m i0 i : Nat} {W w' : World} (hp : vs'.Perm vs) (hs : Hpp.Sm m vs' vs) (hq : Hq Q hb sv pv lv n sc vs' W w') (hd : Hpp.Dn sc lo m i0 i vs') (hi : i0 ≤ i) (ho : ∀ k, 1 ≤ k → k < m → (k - 1) / 2 = i → ¬ Hpp.bef sc (vs'.getD k 0) (vs'.getD i 0)) :
    DnOut Q hb sv pv lv n sc vs lo m i0 W (.returned (.bool (decide (i0 < i)))) w' := by
  refine ⟨_, vs', rfl, hp, hs, hq, fun h => ?_, fun h h0 => ?_, fun h h0 => ?_⟩
  · have : i0 < i := of_decide_eq_true h
    exact hd.moved (by omega) ho
  · have := of_decide_eq_false h
    obtain rfl : i = i0 := by omega
    subst h0
    exact hd.stayed ho
  · have := of_decide_eq_false h
    obtain rfl : i = i0 := by omega
    subst h0
    exact hd.low ho
set_option maxHeartbeats 4000000 in
theorem down52 {Q : Nat → Prop} {hb : Nat} {sv pv lv : Value} {n : Nat} {sc : List Int} {vs : List Nat} {W w : World} (h : Hq Q hb sv pv lv n sc vs W w) (hn : n ≤ 1048576) {lo m i0 : Nat} (hm : m ≤ vs.length) (hi : i0 < m) (hlo : lo ≤ i0) (hml : vs.length ≤ 1048576) (hd : Hpp.Dn sc lo m i0 i0 vs) :
    Calls Try.prog 52 #[hif hb, .int .i64 i0, .int .i64 m] w fun e w' => DnOut Q hb sv pv lv n sc vs lo m i0 W e w' := by
  have HH := hid h
  have HU := hid hd
  have ml := m_less
  have ms := m_swap
  clear h hd
  go_enter Try.func52, Try.ntmps52
  go_wp2
  go_loopw [7] (fun iv wr => ∃ (i : Nat) (vs' : List Nat), i0 ≤ i ∧ i < m ∧ iv = .int .i64 (i : Nat) ∧ Hid (vs'.length = vs.length ∧ vs'.Perm vs ∧ Hpp.Dn sc lo m i0 i vs' ∧ Hq Q hb sv pv lv n sc vs' W wr ∧ Hpp.Sm m vs' vs)) (fun iv _ => m - (intOf iv).toNat)
  case atStart => exact ⟨i0, vs, Nat.le_refl _, hi, rfl, hid ⟨rfl, .refl _, HU.out, HH.out, Hpp.Sm.refl _ _⟩⟩
  case round =>
    obtain ⟨i, vs', hi0, him, rfl, HR⟩ := hrel
    have hlo2 : lo ≤ i := by omega
    clear hlo hi
    obtain ⟨j1, hj1⟩ : ∃ j1 : Nat, 2 * (i : Int) + 1 = (j1 : Int) := ⟨2 * i + 1, by omega⟩
    have hj10 : ¬ (j1 : Int) < 0 := by omega
    by_cases h1 : m ≤ j1
    · have h1' : (m : Int) ≤ j1 := by omega
      have HN := hid (show ∀ k, 1 ≤ k → k < m → (k - 1) / 2 = i → ¬ Hpp.bef sc (vs'.getD k 0) (vs'.getD i 0) from fun k h1 h2 h3 => by omega)
      clear h1
      go_wp2
      go_ret
      exact dn_out HR.out.2.1 HR.out.2.2.2.2 HR.out.2.2.2.1 HR.out.2.2.1 hi0 HN.out
    · have h1' : ¬ (m : Int) ≤ j1 := by omega
      obtain ⟨j2, hj2⟩ : ∃ j2 : Nat, (j1 : Int) + 1 = (j2 : Int) := ⟨j1 + 1, by omega⟩
      by_cases h2 : j2 < m
      · have h2' : (j2 : Int) < m := by omega
        have C2 := hid (HR.out.2.2.2.1.less hn (i := j2) (j := j1) (by rw [HR.out.1]; omega) (by rw [HR.out.1]; omega))
        by_cases hb2 : Hpp.bef sc (vs'.getD j2 0) (vs'.getD j1 0)
        · rw [decide_eq_true hb2] at C2
          have HOJ := hid (show ∀ k, 1 ≤ k → k < m → (k - 1) / 2 = i → ¬ Hpp.bef sc (vs'.getD k 0) (vs'.getD j2 0) from fun k h1 h2 h3 => by
            have : k = j1 ∨ k = j2 := by omega
            rcases this with rfl | rfl
            · exact Hpp.bef_asym hb2
            · exact Hpp.bef_irr _ _)
          clear hb2
          by_cases hb3 : Hpp.bef sc (vs'.getD j2 0) (vs'.getD i 0)
          · have HN := hid (HR.out.2.2.1.step hlo2 hi0 (j := j2) (by omega) (by omega) (by omega) (by rw [HR.out.1]; exact hm) hb3 HOJ.out)
            have C3 := hid (fun (w2 : World) (h2 : Hq Q hb sv pv lv n sc vs' W w2) => h2.less hn (i := j2) (j := i) (by rw [HR.out.1]; omega) (by rw [HR.out.1]; omega))
            have C4 := hid (fun (w2 : World) (h2 : Hq Q hb sv pv lv n sc vs' W w2) => h2.swap hn (i := i) (j := j2) (by rw [HR.out.1]; omega) (by rw [HR.out.1]; omega))
            rw [decide_eq_true hb3] at C3
            have HP := hid ((Hpp.swp_perm (i := i) (j := j2) (by rw [HR.out.1]; omega) (by rw [HR.out.1]; omega)).trans HR.out.2.1)
            clear hb3
            go_wp2_with (fail)
            go_at_call 96
            refine (C2.out).mono ?_
            rintro e w6 ⟨rfl, h6⟩
            have H6 := hid h6
            clear h6
            go_wp2_with (fail)
            go_at_call 96
            refine (C3.out _ H6.out).mono ?_
            rintro e w7 ⟨rfl, h7⟩
            have H7 := hid h7
            clear h7
            go_wp2_with (fail)
            go_at_call 99
            refine (C4.out _ H7.out).mono ?_
            rintro e w8 ⟨rfl, h8⟩
            have H8 := hid h8
            clear h8
            go_wp2
            exact ⟨⟨j2, Hpp.swp vs' i j2, by omega, by omega, rfl, hid ⟨by rw [Hpp.swp_len]; exact HR.out.1, HP.out, HN.out, H8.out, HR.out.2.2.2.2.swp (by omega) (by omega) (by rw [HR.out.1]; exact hm)⟩⟩, by simp only [intOf]; omega⟩
          · have HN := hid (show ∀ k, 1 ≤ k → k < m → (k - 1) / 2 = i → ¬ Hpp.bef sc (vs'.getD k 0) (vs'.getD i 0) from fun k h1 h2 h3 => Hpp.not_trans hb3 (HOJ.out k h1 h2 h3))
            have C3 := hid (fun (w2 : World) (h2 : Hq Q hb sv pv lv n sc vs' W w2) => h2.less hn (i := j2) (j := i) (by rw [HR.out.1]; omega) (by rw [HR.out.1]; omega))
            rw [decide_eq_false hb3] at C3
            clear hb3
            go_wp2_with (fail)
            go_at_call 96
            refine (C2.out).mono ?_
            rintro e w6 ⟨rfl, h6⟩
            have H6 := hid h6
            clear h6
            go_wp2_with (fail)
            go_at_call 96
            refine (C3.out _ H6.out).mono ?_
            rintro e w7 ⟨rfl, h7⟩
            have H7 := hid h7
            clear h7
            go_wp2
            go_ret
            exact dn_out HR.out.2.1 HR.out.2.2.2.2 H7.out HR.out.2.2.1 hi0 HN.out
        · rw [decide_eq_false hb2] at C2
          have HOJ := hid (show ∀ k, 1 ≤ k → k < m → (k - 1) / 2 = i → ¬ Hpp.bef sc (vs'.getD k 0) (vs'.getD j1 0) from fun k h1 h2 h3 => by
            have : k = j1 ∨ k = j2 := by omega
            rcases this with rfl | rfl
            · exact Hpp.bef_irr _ _
            · exact hb2)
          clear hb2
          by_cases hb3 : Hpp.bef sc (vs'.getD j1 0) (vs'.getD i 0)
          · have HN := hid (HR.out.2.2.1.step hlo2 hi0 (j := j1) (by omega) (by omega) (by omega) (by rw [HR.out.1]; exact hm) hb3 HOJ.out)
            have C3 := hid (fun (w2 : World) (h2 : Hq Q hb sv pv lv n sc vs' W w2) => h2.less hn (i := j1) (j := i) (by rw [HR.out.1]; omega) (by rw [HR.out.1]; omega))
            have C4 := hid (fun (w2 : World) (h2 : Hq Q hb sv pv lv n sc vs' W w2) => h2.swap hn (i := i) (j := j1) (by rw [HR.out.1]; omega) (by rw [HR.out.1]; omega))
            rw [decide_eq_true hb3] at C3
            have HP := hid ((Hpp.swp_perm (i := i) (j := j1) (by rw [HR.out.1]; omega) (by rw [HR.out.1]; omega)).trans HR.out.2.1)
            clear hb3
            go_wp2_with (fail)
            go_at_call 96
            refine (C2.out).mono ?_
            rintro e w6 ⟨rfl, h6⟩
            have H6 := hid h6
            clear h6
            go_wp2_with (fail)
            go_at_call 96
            refine (C3.out _ H6.out).mono ?_
            rintro e w7 ⟨rfl, h7⟩
            have H7 := hid h7
            clear h7
            go_wp2_with (fail)
            go_at_call 99
            refine (C4.out _ H7.out).mono ?_
            rintro e w8 ⟨rfl, h8⟩
            have H8 := hid h8
            clear h8
            go_wp2
            exact ⟨⟨j1, Hpp.swp vs' i j1, by omega, by omega, rfl, hid ⟨by rw [Hpp.swp_len]; exact HR.out.1, HP.out, HN.out, H8.out, HR.out.2.2.2.2.swp (by omega) (by omega) (by rw [HR.out.1]; exact hm)⟩⟩, by simp only [intOf]; omega⟩
          · have HN := hid (show ∀ k, 1 ≤ k → k < m → (k - 1) / 2 = i → ¬ Hpp.bef sc (vs'.getD k 0) (vs'.getD i 0) from fun k h1 h2 h3 => Hpp.not_trans hb3 (HOJ.out k h1 h2 h3))
            have C3 := hid (fun (w2 : World) (h2 : Hq Q hb sv pv lv n sc vs' W w2) => h2.less hn (i := j1) (j := i) (by rw [HR.out.1]; omega) (by rw [HR.out.1]; omega))
            rw [decide_eq_false hb3] at C3
            clear hb3
            go_wp2_with (fail)
            go_at_call 96
            refine (C2.out).mono ?_
            rintro e w6 ⟨rfl, h6⟩
            have H6 := hid h6
            clear h6
            go_wp2_with (fail)
            go_at_call 96
            refine (C3.out _ H6.out).mono ?_
            rintro e w7 ⟨rfl, h7⟩
            have H7 := hid h7
            clear h7
            go_wp2
            go_ret
            exact dn_out HR.out.2.1 HR.out.2.2.2.2 H7.out HR.out.2.2.1 hi0 HN.out
      · have h2' : ¬ (j2 : Int) < m := by omega
        have HOJ := hid (show ∀ k, 1 ≤ k → k < m → (k - 1) / 2 = i → ¬ Hpp.bef sc (vs'.getD k 0) (vs'.getD j1 0) from fun k h1 h2 h3 => by
          obtain rfl : k = j1 := by omega
          exact Hpp.bef_irr _ _)
        by_cases hb3 : Hpp.bef sc (vs'.getD j1 0) (vs'.getD i 0)
        · have HN := hid (HR.out.2.2.1.step hlo2 hi0 (j := j1) (by omega) (by omega) (by omega) (by rw [HR.out.1]; exact hm) hb3 HOJ.out)
          have C3 := hid (fun (w2 : World) (h2 : Hq Q hb sv pv lv n sc vs' W w2) => h2.less hn (i := j1) (j := i) (by rw [HR.out.1]; omega) (by rw [HR.out.1]; omega))
          have C4 := hid (fun (w2 : World) (h2 : Hq Q hb sv pv lv n sc vs' W w2) => h2.swap hn (i := i) (j := j1) (by rw [HR.out.1]; omega) (by rw [HR.out.1]; omega))
          rw [decide_eq_true hb3] at C3
          have HP := hid ((Hpp.swp_perm (i := i) (j := j1) (by rw [HR.out.1]; omega) (by rw [HR.out.1]; omega)).trans HR.out.2.1)
          clear hb3
          go_wp2_with (fail)
          go_at_call 96
          refine (C3.out _ HR.out.2.2.2.1).mono ?_
          rintro e w7 ⟨rfl, h7⟩
          have H7 := hid h7
          clear h7
          go_wp2_with (fail)
          go_at_call 99
          refine (C4.out _ H7.out).mono ?_
          rintro e w8 ⟨rfl, h8⟩
          have H8 := hid h8
          clear h8
          go_wp2
          exact ⟨⟨j1, Hpp.swp vs' i j1, by omega, by omega, rfl, hid ⟨by rw [Hpp.swp_len]; exact HR.out.1, HP.out, HN.out, H8.out, HR.out.2.2.2.2.swp (by omega) (by omega) (by rw [HR.out.1]; exact hm)⟩⟩, by simp only [intOf]; omega⟩
        · have HN := hid (show ∀ k, 1 ≤ k → k < m → (k - 1) / 2 = i → ¬ Hpp.bef sc (vs'.getD k 0) (vs'.getD i 0) from fun k h1 h2 h3 => Hpp.not_trans hb3 (HOJ.out k h1 h2 h3))
          have C3 := hid (fun (w2 : World) (h2 : Hq Q hb sv pv lv n sc vs' W w2) => h2.less hn (i := j1) (j := i) (by rw [HR.out.1]; omega) (by rw [HR.out.1]; omega))
          rw [decide_eq_false hb3] at C3
          clear hb3
          go_wp2_with (fail)
          go_at_call 96
          refine (C3.out _ HR.out.2.2.2.1).mono ?_
          rintro e w7 ⟨rfl, h7⟩
          have H7 := hid h7
          clear h7
          go_wp2
          go_ret
          exact dn_out HR.out.2.1 HR.out.2.2.2.2 H7.out HR.out.2.2.1 hi0 HN.out
/-- .. of none. -/
theorem down52_none {Q : Nat → Prop} {hb : Nat} {sv pv lv : Value} {n : Nat} {sc : List Int} {vs : List Nat} {W w : World} (h : Hq Q hb sv pv lv n sc vs W w) :
    Calls Try.prog 52 #[hif hb, .int .i64 0, .int .i64 0] w fun e w' => DnOut Q hb sv pv lv n sc vs 0 0 0 W e w' := by
  have HO := hid (show DnOut Q hb sv pv lv n sc vs 0 0 0 W (.returned (.bool false)) w from ⟨false, vs, rfl, .refl _, Hpp.Sm.refl _ _, h, (fun h => by cases h), (fun _ _ => ⟨fun k h1 h2 => by omega, fun k h1 h2 => by omega⟩), (fun _ _ => Hpp.HO.nil _ _)⟩)
  clear h
  go_enter Try.func52, Try.ntmps52
  go_wp2
  go_loopw [7] (fun iv wr => iv = .int .i64 0 ∧ wr = w) (fun _ _ => 0)
  case atStart => exact ⟨rfl, rfl⟩
  case round =>
    obtain ⟨rfl, hw⟩ := hrel
    rw [hw]
    clear hw
    go_wp2
    go_ret
    exact HO.out
end Go.Proofs.Ytjbnkkjihcoojaa
