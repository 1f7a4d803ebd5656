/- container/heap's Remove, Fix, Init. -/
import Derived.Test.YtjbnkkjihcoojaaHfn
namespace Go.Proofs.Ytjbnkkjihcoojaa
open Go.RowKit Go.Maps
set_option linter.unusedVariables false
set_option maxRecDepth 100000

set_option maxHeartbeats 2000000 in
theorem remove42 {Q : Nat → Prop} {hb : Nat} {sv pv lv : Value} {n m : Nat} {sc : List Int} {vs : List Nat} {pl : List Int} {W : World} (H : Hp Q hb sv pv lv n sc vs pl W) (hp : Hpp.Pl n vs pl) (hn : n ≤ 1048576) (hm : vs.length = m + 1) (hml : m < 1048576) (ho : HO0 sc vs) {i : Nat} (hi : i ≤ m) :
    Calls Try.prog 42 #[hif hb, .int .i64 i] W fun e w' => e = .returned (.iface 3 (.int .i64 ((vs.getD i 0 : Nat) + 1 : Int))) ∧ HsL Q hb sv pv lv n sc (vs.erase (vs.getD i 0)) W w' := by
  have HQ := hid (show Hq Q hb sv pv lv n sc vs W W from ⟨pl, H, hp, Fq.refl _ _⟩)
  have m1 := m_pop
  have m2 := m_len
  have m3 := m_swap
  have C1 := hid HQ.out.len
  rw [hm, show (((m + 1 : Nat)) : Int) = (m : Int) + 1 by omega] at C1
  by_cases him : i = m
  · subst him
    have C4 := hid (pop97 H hp hn hm (by omega))
    have HP2 := hid (Hpp.take_perm hm rfl (List.Perm.refl vs))
    have HOT := hid ((ho.cut hm).take (by omega))
    have hne : ((i : Int) != (i : Int)) = false := by simp
    clear H hp ho
    generalize vs.getD i 0 = u at *
    go_enter Try.func42, Try.ntmps42
    go_wp2_with (fail)
    go_at_call 47
    refine C1.out.mono ?_
    rintro e w2 ⟨rfl, hw2⟩
    rw [hw2]
    clear hw2 C1
    go_wp2_with (fail)
    go_at_call 97
    refine C4.out.mono ?_
    rintro e w4 ⟨rfl, h4⟩
    have HO := hid (show HsL Q hb sv pv lv n sc (vs.erase u) W w4 from ⟨_, h4, HP2.out, HOT.out⟩)
    clear h4 C4
    go_wp2
    go_ret
    exact ⟨rfl, HO.out⟩
  · have hlt : i < m := by omega
    have hne : ((m : Int) != (i : Int)) = true := by simp; omega
    have C2 := hid (HQ.out.swap hn (i := i) (j := m) (by omega) (by omega))
    have HS := hid (Hpp.swp_perm (vs := vs) (i := i) (j := m) (by omega) (by omega))
    have hl1 : (Hpp.swp vs i m).length = m + 1 := by rw [Hpp.swp_len]; exact hm
    have hlast : (Hpp.swp vs i m).getD m 0 = vs.getD i 0 := by rw [Hpp.swp_get (by omega) (by omega), if_pos rfl]
    have C3 := hid (show ∀ w2, Hq Q hb sv pv lv n sc (Hpp.swp vs i m) W w2 → Calls Try.prog 52 #[hif hb, .int .i64 i, .int .i64 m] w2 fun e w' => DnOut Q hb sv pv lv n sc (Hpp.swp vs i m) 0 m i W e w' from
      fun w2 h2 => down52 h2 hn (i0 := i) (by omega) hlt (Nat.zero_le _) (by omega) (Hpp.Dn.cut ho hm hlt))
    have HM := hid (show m < 1048576 ∧ i < m from ⟨hml, hlt⟩)
    generalize Hpp.swp vs i m = vs1 at *
    have HL1 := hid hl1
    have HLA := hid hlast
    -- the last part
    have FIN := hid (show ∀ vs2 w3, vs2.Perm vs1 → Hpp.Sm m vs2 vs1 → Hpp.HO sc 0 m vs2 → Hq Q hb sv pv lv n sc vs2 W w3 → Calls Try.prog 97 #[.pointer (some ⟨hb, 1, none⟩)] w3 fun e w' => e = .returned (.iface 3 (.int .i64 ((vs.getD i 0 : Nat) + 1 : Int))) ∧ HsL Q hb sv pv lv n sc (vs.erase (vs.getD i 0)) W w' from by
      rintro vs2 w3 hp2 hs2 hho ⟨pl2, hq2, hq3, hq4⟩
      have hl2 : vs2.length = m + 1 := by rw [hp2.length_eq]; exact hl1
      have hu2 : vs2.getD m 0 = vs.getD i 0 := by rw [hs2 m (Nat.le_refl _)]; exact hlast
      have C4 := pop97 hq2 hq3 hn hl2 (by omega)
      rw [hu2] at C4
      refine C4.mono ?_
      rintro e w4 ⟨rfl, h4⟩
      exact ⟨rfl, _, h4.on hq4, Hpp.take_perm hl2 hu2 (hp2.trans HS.out), hho.take (by omega)⟩)
    clear H hp ho hl1 hlast hm hlt him
    generalize vs.getD i 0 = u at *
    go_enter Try.func42, Try.ntmps42
    go_wp2_with (fail)
    go_at_call 47
    refine C1.out.mono ?_
    rintro e w2 ⟨rfl, hw2⟩
    rw [hw2]
    clear hw2 C1
    go_wp2_with (fail)
    go_at_call 99
    refine C2.out.mono ?_
    rintro e w2 ⟨rfl, h2⟩
    have H2 := hid h2
    clear h2 C2
    go_wp2_with (fail)
    go_at_call 52
    refine (C3.out _ H2.out).mono ?_
    rintro e w3 ⟨b, vs2, rfl, hp2, hs2, hq2, ha, hb2, hc2⟩
    have HP2 := hid hp2
    have HS2 := hid hs2
    have HQ2 := hid hq2
    cases b with
    | true =>
      have HA := hid (ha rfl)
      clear ha hb2 hc2 hp2 hs2 hq2 C3
      go_wp2_with (fail)
      go_at_call 97
      refine (FIN.out vs2 w3 HP2.out HS2.out HA.out HQ2.out).mono ?_
      rintro e w4 ⟨rfl, h4⟩
      have HO := hid h4
      clear h4
      go_wp2
      go_ret
      exact ⟨rfl, HO.out⟩
    | false =>
      have C5 := hid (up51 hq2 hn (m := m) (j := i) (by rw [hp2.length_eq, HL1.out]; omega) HM.out.2 (by rw [hp2.length_eq, HL1.out]; have := HM.out.1; omega) (hb2 rfl rfl))
      clear ha hb2 hc2 hp2 hs2 hq2 C3
      go_wp2_with (fail)
      go_at_call 51
      refine C5.out.mono ?_
      rintro e w4 ⟨rfl, vs3, hp3, ho3, hs3, hq3⟩
      have HP3 := hid (hp3.trans HP2.out)
      have HS3 := hid (show Hpp.Sm m vs3 vs1 from fun k hk => (hs3 k hk).trans (HS2.out k hk))
      have HO3 := hid ho3
      have HQ3 := hid hq3
      clear hp3 ho3 hs3 hq3 C5
      go_wp2_with (fail)
      go_at_call 97
      refine (FIN.out vs3 w4 HP3.out HS3.out HO3.out HQ3.out).mono ?_
      rintro e w5 ⟨rfl, h4⟩
      have HO := hid h4
      clear h4
      go_wp2
      go_ret
      exact ⟨rfl, HO.out⟩
/-- As HsL, the row's value kept. -/
def Hs (Q : Nat → Prop) (hb : Nat) (sv pv lv : Value) (n : Nat) (sc : List Int) (L : List Nat) (W w' : World) : Prop := ∃ vs, Hq Q hb sv pv lv n sc vs W w' ∧ vs.Perm L ∧ HO0 sc vs
set_option maxHeartbeats 2000000 in
theorem fix44 {Q : Nat → Prop} {hb : Nat} {sv pv lv : Value} {n : Nat} {sc : List Int} {vs : List Nat} {W w : World} (h : Hq Q hb sv pv lv n sc vs W w) (hn : n ≤ 1048576) (hml : vs.length ≤ 1048576) {i : Nat} (hi : i < vs.length) (hd : Hpp.Dn sc 0 vs.length i i vs) :
    Calls Try.prog 44 #[hif hb, .int .i64 i] w fun e w' => e = .returned (.tuple #[]) ∧ Hs Q hb sv pv lv n sc vs W w' := by
  have m2 := m_len
  have C1 := hid h.len
  have C2 := hid (down52 h hn (i0 := i) (Nat.le_refl _) hi (Nat.zero_le _) hml hd)
  have HM := hid (show vs.length ≤ 1048576 ∧ i < vs.length from ⟨hml, hi⟩)
  clear h hd
  obtain ⟨m, hm⟩ : ∃ m, vs.length = m := ⟨_, rfl⟩
  have HMM := hid hm
  rw [hm] at C1 C2
  clear hm hml hi
  go_enter Try.func44, Try.ntmps44
  go_wp2_with (fail)
  go_at_call 47
  refine C1.out.mono ?_
  rintro e w2 ⟨rfl, hw2⟩
  rw [hw2]
  clear hw2 C1
  go_wp2_with (fail)
  go_at_call 52
  refine C2.out.mono ?_
  rintro e w3 ⟨b, vs2, rfl, hp2, hs2, hq2, ha, hb2, hc2⟩
  cases b with
  | true =>
    have HO := hid (show Hs Q hb sv pv lv n sc vs W w3 from ⟨vs2, hq2, hp2, by unfold HO0; rw [hp2.length_eq, HMM.out]; exact ha rfl⟩)
    clear ha hb2 hc2 hp2 hs2 hq2 C2
    go_wp2
    go_end0
    exact ⟨rfl, HO.out⟩
  | false =>
    have C5 := hid (up51 hq2 hn (m := m) (j := i) (by rw [hp2.length_eq, HMM.out]; exact Nat.le_refl _) (by rw [← HMM.out]; exact HM.out.2) (by rw [hp2.length_eq]; exact HM.out.1) (hb2 rfl rfl))
    have HP2 := hid hp2
    clear ha hb2 hc2 hp2 hs2 hq2 C2
    go_wp2_with (fail)
    go_at_call 51
    refine C5.out.mono ?_
    rintro e w4 ⟨rfl, vs3, hp3, ho3, hs3, hq3⟩
    have HO := hid (show Hs Q hb sv pv lv n sc vs W w4 from ⟨vs3, hq3, hp3.trans HP2.out, by unfold HO0; rw [hp3.length_eq, HP2.out.length_eq, HMM.out]; exact ho3⟩)
    clear hp3 ho3 hs3 hq3 C5
    go_wp2
    go_end0
    exact ⟨rfl, HO.out⟩
set_option maxHeartbeats 2000000 in
theorem init53 {Q : Nat → Prop} {hb : Nat} {sv pv lv : Value} {n : Nat} {sc : List Int} {vs : List Nat} {W w : World} (h : Hq Q hb sv pv lv n sc vs W w) (hn : n ≤ 1048576) (hml : vs.length ≤ 1048576) :
    Calls Try.prog 53 #[hif hb] w fun e w' => e = .returned (.tuple #[]) ∧ Hs Q hb sv pv lv n sc vs W w' := by
  have m2 := m_len
  have C1 := hid h.len
  have HH := hid h
  clear h
  obtain ⟨m, hm⟩ : ∃ m, vs.length = m := ⟨_, rfl⟩
  have HMM := hid hm
  rw [hm] at C1 hml
  obtain ⟨q, hq⟩ : ∃ q, m / 2 = q := ⟨_, rfl⟩
  have hq1 : (m : Int) / 2 = (q : Int) := by omega
  have HQ := hid hq
  clear hm hq
  go_enter Try.func53, Try.ntmps53
  go_wp2_with (fail)
  go_at_call 47
  refine C1.out.mono ?_
  rintro e w2 ⟨rfl, hw2⟩
  rw [hw2]
  clear hw2 C1
  go_wp2
  go_loopw [3] (fun iv wr => ∃ (i : Nat) (z : Int) (vs' : List Nat), i ≤ q ∧ iv = .int .i64 z ∧ z = (i : Int) - 1 ∧ Hid (vs'.Perm vs ∧ Hpp.HO sc i m vs' ∧ Hq Q hb sv pv lv n sc vs' W wr)) (fun iv _ => (intOf iv + 1).toNat)
  case atStart => exact ⟨q, _, vs, Nat.le_refl _, rfl, rfl, hid ⟨.refl _, by rw [← HQ.out]; exact Hpp.HO.half _ _ _, HH.out⟩⟩
  case round =>
    obtain ⟨i, z, vs', hi, rfl, hz, HR⟩ := hrel
    rcases Nat.eq_zero_or_pos i with h0 | h0
    · have hz2 : ¬ 0 ≤ z := by omega
      have HO := hid (show Hs Q hb sv pv lv n sc vs W wr from ⟨vs', HR.out.2.2, HR.out.1, by unfold HO0; rw [HR.out.1.length_eq, HMM.out, ← h0]; exact HR.out.2.1⟩)
      clear hz h0
      go_wp2
      go_end0
      exact ⟨rfl, HO.out⟩
    · obtain ⟨k, rfl⟩ : ∃ k, i = k + 1 := ⟨i - 1, by omega⟩
      obtain rfl : z = (k : Int) := by omega
      have hqm : 2 * q ≤ m := by have := HQ.out; omega
      have C2 := hid (down52 HR.out.2.2 hn (lo := k) (m := m) (i0 := k) (by rw [HR.out.1.length_eq, HMM.out]; exact Nat.le_refl _) (by omega) (Nat.le_refl _) (by rw [HR.out.1.length_eq, HMM.out]; exact hml) (Hpp.Dn.init HR.out.2.1))
      clear hz
      go_wp2_with (fail)
      go_at_call 52
      refine C2.out.mono ?_
      rintro e w3 ⟨b, vs2, rfl, hp2, hs2, hq2, ha, hb2, hc2⟩
      have HN := hid (show vs2.Perm vs ∧ Hpp.HO sc k m vs2 ∧ Hq Q hb sv pv lv n sc vs2 W w3 from ⟨hp2.trans HR.out.1, by cases b; exact hc2 rfl rfl; exact ha rfl, hq2⟩)
      clear ha hb2 hc2 hp2 hs2 hq2 C2
      go_wp2
      exact ⟨⟨k, _, vs2, by omega, rfl, rfl, HN⟩, by simp only [intOf]; omega⟩
end Go.Proofs.Ytjbnkkjihcoojaa
