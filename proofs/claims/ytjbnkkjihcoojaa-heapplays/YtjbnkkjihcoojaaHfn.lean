/- container/heap's calls: Push, Pop, Remove, Fix, Init. -/
import Derived.Test.YtjbnkkjihcoojaaUpd
import Derived.Test.YtjbnkkjihcoojaaPsh
namespace Go.Proofs.Ytjbnkkjihcoojaa
open Go.RowKit Go.Maps
set_option linter.unusedVariables false
set_option maxRecDepth 100000

theorem Hq.len {Q : Nat → Prop} {hb : Nat} {sv pv lv : Value} {n : Nat} {sc : List Int} {vs : List Nat} {W w : World} (h : Hq Q hb sv pv lv n sc vs W w) :
    Calls Try.prog 47 #[.pointer (some ⟨hb, 1, none⟩)] w fun e w' => e = .returned (.int .i64 vs.length) ∧ w' = w := by
  obtain ⟨pl, h1, h2, h3⟩ := h
  exact len47 h1
theorem HqL.of {Q : Nat → Prop} {hb : Nat} {sv pv lv lv' : Value} {n : Nat} {sc : List Int} {vs : List Nat} {W w' : World} (h : Hq Q hb sv pv lv' n sc vs W w') (hl : ∀ g, lv'.ownBlock = some g → lv.ownBlock = some g ∨ W.heap.size ≤ g) : HqL Q hb sv pv lv n sc vs W w' := by
  obtain ⟨pl, h1, h2, h3⟩ := h
  exact ⟨lv', pl, h1, h2, h3, hl⟩
/-- What a call leaves: the variables in it as a row in order. -/
def HO0 (sc : List Int) (vs : List Nat) : Prop := Hpp.HO sc 0 vs.length vs
def HsL (Q : Nat → Prop) (hb : Nat) (sv pv lv : Value) (n : Nat) (sc : List Int) (L : List Nat) (W w' : World) : Prop := ∃ vs, HqL Q hb sv pv lv n sc vs W w' ∧ vs.Perm L ∧ HO0 sc vs
theorem Hq.to {Q : Nat → Prop} {hb : Nat} {sv pv lv : Value} {n : Nat} {sc : List Int} {vs : List Nat} {W w : World} (h : Hq Q hb sv pv lv n sc vs W w) (W2 : World) (hf : Fq Q W2 W) : Hq Q hb sv pv lv n sc vs W2 w := by
  obtain ⟨pl, h1, h2, h3⟩ := h
  exact ⟨pl, h1, h2, hf.trans h3⟩
theorem HqL.on {Q : Nat → Prop} {hb : Nat} {sv pv lv : Value} {n : Nat} {sc : List Int} {vs : List Nat} {W w w' : World} (h : HqL Q hb sv pv lv n sc vs w w') (hf : Fq Q W w) : HqL Q hb sv pv lv n sc vs W w' := by
  obtain ⟨lv', pl, h1, h2, h3, h4⟩ := h
  exact ⟨lv', pl, h1, h2, hf.trans h3, fun g e => (h4 g e).imp id (fun h => Nat.le_trans hf.size h)⟩
theorem Hq.perm_len {vs vs' : List Nat} (h : vs'.Perm vs) : vs'.length = vs.length := h.length_eq
set_option maxHeartbeats 2000000 in
theorem push40 {Q : Nat → Prop} {hb : Nat} {sv pv lv : Value} {n : Nat} {sc : List Int} {vs : List Nat} {pl : List Int} {W : World} (H : Hp Q hb sv pv lv n sc vs pl W) (hp : Hpp.Pl n vs pl) (hn : n ≤ 1048576) (hml : vs.length < 1048576) (ho : HO0 sc vs) {u : Nat} (hu : u < n) (hv : u ∉ vs) :
    Calls Try.prog 40 #[hif hb, .iface 3 (.int .i64 ((u : Int) + 1))] W fun e w' => e = .returned (.tuple #[]) ∧ HsL Q hb sv pv lv n sc (u :: vs) W w' := by
  have C1 := hid (push98 H hp hn (by omega) hu hv)
  have m1 := m_push
  have m2 := m_len
  have hl : (vs ++ [u]).length = vs.length + 1 := by simp
  have HUp := hid (Hpp.Up.push ho u)
  have HL0 := hid hl
  have HM := hid hml
  obtain ⟨m, hm⟩ : ∃ m, vs.length = m := ⟨_, rfl⟩
  rw [hm] at hl HUp hml
  clear H hp
  go_enter Try.func40, Try.ntmps40
  go_wp2_with (fail)
  go_at_call 98
  refine C1.out.mono ?_
  rintro e w2 ⟨rfl, lv', pl', h1, h2, h3, h4⟩
  have HQ2 := hid (show Hq Q hb sv pv lv' n sc (vs ++ [u]) W w2 from ⟨pl', h1, h2, h3⟩)
  have HL := hid h4
  have C2 := hid HQ2.out.len
  rw [hl] at C2
  have C3 := hid (up51 HQ2.out hn (m := (vs ++ [u]).length) (j := m) (Nat.le_refl _) (by rw [hl]; omega) (by rw [hl]; omega) HUp.out)
  clear h1 h2 h3 h4 C1 hl hm
  rw [show (((m + 1 : Nat)) : Int) = (m : Int) + 1 by omega] at C2
  go_wp2_with (fail)
  go_at_call 47
  refine C2.out.mono ?_
  rintro e w3 ⟨rfl, hw3⟩
  rw [hw3]
  clear hw3 C2
  go_wp2_with (fail)
  go_at_call 51
  refine C3.out.mono ?_
  rintro e w3 ⟨rfl, vs', hp', ho', hs', hq'⟩
  have HO := hid (show HsL Q hb sv pv lv n sc (u :: vs) W w3 from ⟨vs', HqL.of hq' HL.out, hp'.trans List.perm_append_comm, by unfold HO0; rw [hp'.length_eq]; exact ho'⟩)
  clear hp' ho' hs' hq' C3
  go_wp2
  go_end0
  exact ⟨rfl, HO.out⟩
set_option maxHeartbeats 2000000 in
theorem pop41 {Q : Nat → Prop} {hb : Nat} {sv pv lv : Value} {n m : Nat} {sc : List Int} {vs : List Nat} {pl : List Int} {W : World} (H : Hp Q hb sv pv lv n sc vs pl W) (hp : Hpp.Pl n vs pl) (hn : n ≤ 1048576) (hm : vs.length = m + 1) (hml : m < 1048576) (ho : HO0 sc vs) :
    Calls Try.prog 41 #[hif hb] W fun e w' => e = .returned (.iface 3 (.int .i64 ((vs.getD 0 0 : Nat) + 1 : Int))) ∧ HsL Q hb sv pv lv n sc (vs.erase (vs.getD 0 0)) W w' := by
  have HQ := hid (show Hq Q hb sv pv lv n sc vs W W from ⟨pl, H, hp, Fq.refl _ _⟩)
  have m1 := m_pop
  have m2 := m_len
  have m3 := m_swap
  have C1 := hid HQ.out.len
  rw [hm, show (((m + 1 : Nat)) : Int) = (m : Int) + 1 by omega] at C1
  have C2 := hid (HQ.out.swap hn (i := 0) (j := m) (by omega) (by omega))
  have HS := hid (Hpp.swp_perm (vs := vs) (i := 0) (j := m) (by omega) (by omega))
  have hl1 : (Hpp.swp vs 0 m).length = m + 1 := by rw [Hpp.swp_len]; exact hm
  have hlast : (Hpp.swp vs 0 m).getD m 0 = vs.getD 0 0 := by rw [Hpp.swp_get (by omega) (by omega), if_pos rfl]
  have C3 := hid (show ∀ w2, Hq Q hb sv pv lv n sc (Hpp.swp vs 0 m) W w2 → Calls Try.prog 52 #[hif hb, .int .i64 0, .int .i64 m] w2 fun e w' => DnOut Q hb sv pv lv n sc (Hpp.swp vs 0 m) 0 m 0 W e w' from by
    intro w2 h2
    rcases Nat.eq_zero_or_pos m with h0 | h0
    · subst h0; exact down52_none h2
    · exact down52 h2 hn (i0 := 0) (by omega) h0 (Nat.le_refl _) (by omega) (Hpp.Dn.cut ho hm h0))
  have HM := hid hml
  generalize Hpp.swp vs 0 m = vs1 at *
  have HL1 := hid hl1
  have HLA := hid hlast
  clear H hp ho hl1 hlast hm
  go_enter Try.func41, Try.ntmps41
  go_wp2_with (fail)
  go_at_call 47
  refine C1.out.mono ?_
  rintro e w2 ⟨rfl, hw2⟩
  rw [hw2]
  clear hw2 C1
  go_wp2_with (fail)
  go_at_call 99
  refine C2.out.mono ?_
  rintro e w2 ⟨rfl, h2⟩
  have H2 := hid h2
  clear h2 C2
  go_wp2_with (fail)
  go_at_call 52
  refine (C3.out _ H2.out).mono ?_
  rintro e w3 ⟨b, vs2, rfl, hp2, hs2, ⟨pl2, hq2, hq3, hq4⟩, ha, hb2, hc2⟩
  have HHO := hid (show Hpp.HO sc 0 m vs2 from by
    cases b
    · exact hc2 rfl rfl
    · exact ha rfl)
  have hl2 : vs2.length = m + 1 := by rw [hp2.length_eq]; exact HL1.out
  have hu2 : vs2.getD m 0 = vs.getD 0 0 := by rw [hs2 m (Nat.le_refl _)]; exact HLA.out
  have C4 := hid (pop97 hq2 hq3 hn hl2 (by have := HM.out; omega))
  rw [hu2] at C4
  have HP2 := hid (Hpp.take_perm hl2 hu2 (hp2.trans HS.out))
  have HOT := hid (HHO.out.take (by omega))
  have HF := hid hq4
  clear ha hb2 hc2 hp2 hs2 hq2 hq3 hq4 C3 hl2 hu2
  go_wp2_with (fail)
  go_at_call 97
  refine C4.out.mono ?_
  rintro e w4 ⟨rfl, h4⟩
  have HO := hid (show HsL Q hb sv pv lv n sc (vs.erase (vs.getD 0 0)) W w4 from ⟨_, h4.on HF.out, HP2.out, HOT.out⟩)
  clear h4 C4
  go_wp2
  go_ret
  exact ⟨rfl, HO.out⟩
end Go.Proofs.Ytjbnkkjihcoojaa
