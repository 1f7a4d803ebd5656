/- Bump. -/
import Derived.Test.YtjnifadfcnpdoaaSof
namespace Go.Proofs.Ytjnifadfcnpdoaa
open Go.RowKit Go.Maps Go.Shelf
set_option linter.unusedVariables false
set_option maxRecDepth 100000

namespace Qp
/-- Are all numbers variables? -/
def okB (n : Nat) (l : List Int) : Bool := l.all (fun x => decide (1 ≤ x) && decide (x ≤ n))
theorem okB_iff {n : Nat} {l : List Int} : okB n l = true ↔ ∀ x ∈ l, 1 ≤ x ∧ x ≤ n := by simp [okB]
def bL (n : Nat) (l : List Int) (L : List Nat) : List Nat := if okB n l then bmp l L else L
def bS (n : Nat) (l : List Int) (L : List Nat) (st : List Int) : List Int := if okB n l then sts st (st.getD (L.getLastD 0) 0 + 1) (gone l L) else st
def bE (n : Nat) (l : List Int) : Int := if okB n l then 0 else 2
theorem gone_nil (L : List Nat) : gone [] L = [] := by simp [gone, inL]
theorem bL_nil (n : Nat) (L : List Nat) : bL n [] L = L := by
  show bmp [] L = L
  rw [bmp, gone_nil, List.append_nil]
  exact List.filter_eq_self.2 (fun v _ => by simp [inL])
theorem bS_nil (n : Nat) (L : List Nat) (st : List Int) : bS n [] L st = st := by simp [bS, okB, gone_nil, sts]
theorem bL_mem {n : Nat} {l : List Int} {L : List Nat} {x : Nat} : x ∈ bL n l L ↔ x ∈ L := by unfold bL; split; exact bmp_mem; exact Iff.rfl
end Qp
def BumpOut (A : Adr) (n : Nat) (K : Int) (L : List Nat) (st : List Int) (l : List Int) (W : World) (e : Ending) (w' : World) : Prop :=
  e = .returned (.int .i64 (Qp.bE n l)) ∧ Qx A n (K + 1048577) (Qp.bL n l L) (Qp.bS n l L st) w' ∧ Fa A W w'
theorem bump17_nil (v : Value) (W : World) : Calls Try.prog 17 #[.pointer none, v] W fun e w' => e = .returned (.int .i64 1) ∧ w' = W := by
  go_enter Try.func17, Try.ntmps17
  go_wp2
  go_ret
  exact ⟨rfl, rfl⟩
theorem gone_le {n : Nat} {l : List Int} {L : List Nat} (hn : L.Nodup) (hr : ∀ v ∈ L, 1 ≤ v ∧ v ≤ n) : (Qp.gone l L).length ≤ n := by
  have h3 : (Qp.gone l L).length ≤ L.length := List.length_filter_le _ _
  have h4 := List.Nodup.length_le_of_subset (l₂ := List.range' 1 n) hn (fun x hx => by have := hr x hx; rw [List.mem_range'_1]; omega)
  simp at h4
  omega
theorem bump17_end {A : Adr} {n : Nat} {K : Int} {L : List Nat} {st : List Int} {W : World} (H : Qx A n K L st W) (hK : 0 ≤ K) (hk : K + 1048577 ≤ 4611686018427387904) {l : List Int} (hok : Qp.okB n l = true) (h0 : 0 < (Qp.gone l L).length)
    {o : Option Addr} {c : Nat} {w : World} (ho : w.ownsRow W.heap.size 3 1 (.slice o (Qp.gone l L).length c) (Qp.gone l L).length (inn (Qp.gone l L))) (hb : Below W.heap.size W w) :
    Calls Try.prog 31 #[.pointer (some ⟨A.qb, 0, none⟩), .slice o (Qp.gone l L).length c] w fun e w' => e = .returned (.tuple #[]) ∧ BumpOut A n K L st l W (.returned (.int .i64 0)) w' := by
  have hgl := gone_le (l := l) H.rg.2.1 H.rg.1
  have hmx := H.rg.2.2.1
  have hN : Nrow A w o c (Qp.gone l L) := ⟨own_base ho (Nat.zero_le _), fun b hb' ha => by
    have := (own_blk ho hb').1
    have := H.lt ha
    omega⟩
  refine (move31 (H.below hb) hN h0 (by omega) (fun v hv => (List.mem_filter.1 hv).1) hK).mono ?_
  rintro e w' ⟨rfl, q1, q2⟩
  refine ⟨rfl, by simp [Qp.bE, hok], ?_, (Fq.of_below hb).trans q2⟩
  rw [Qp.mvs_gone H.rg.2.1] at q1
  unfold Qp.bL Qp.bS
  rw [if_pos hok, if_pos hok]
  exact q1.mono (by omega) hk
theorem Qp.okB_take {n : Nat} {l : List Int} {k : Nat} (hk : k < l.length) (h : Qp.okB n (l.take k) = true) (h2 : 1 ≤ l.getD k 0 ∧ l.getD k 0 ≤ n) : Qp.okB n (l.take (k + 1)) = true := by
  rw [take_snocI l hk, Qp.okB_iff]
  intro x hx
  rcases List.mem_append.1 hx with hx | hx
  · exact Qp.okB_iff.1 h x hx
  · rw [List.mem_singleton.1 hx]; exact h2
theorem Qp.okB_bad {n : Nat} {l : List Int} {k : Nat} (hk : k < l.length) (h2 : ¬ (1 ≤ l.getD k 0 ∧ l.getD k 0 ≤ n)) : Qp.okB n l = false := by
  cases h : Qp.okB n l
  · rfl
  · exact absurd (Qp.okB_iff.1 h _ (by rw [List.getD_eq_getElem?_getD, List.getElem?_eq_getElem hk]; exact List.getElem_mem hk)) h2
set_option maxHeartbeats 4000000 in
theorem bump17 {A : Adr} {n : Nat} {K : Int} {L : List Nat} {st : List Int} {W : World} (H : Qx A n K L st W) (hL : ∀ v, 1 ≤ v → v ≤ n → v ∈ L) (hK : 0 ≤ K) (hk : K + 1048577 ≤ 4611686018427387904) {a : Option Addr} {c : Nat} {l : List Int} (h : Iw W a l) (hl8 : l.length ≤ 1048576) :
    Calls Try.prog 17 #[.pointer (some ⟨A.qb, 0, none⟩), .slice a l.length c] W fun e w' => BumpOut A n K L st l W e w' := by
  have HE := hid (show Qp.okB n l = false → BumpOut A n K L st l W (.returned (.int .i64 2)) W from fun he => by
    refine ⟨by simp [Qp.bE, he], ?_, Fq.refl _ _⟩
    unfold Qp.bL Qp.bS
    rw [he]
    exact H.mono (by omega) hk)
  rcases Nat.eq_zero_or_pos l.length with h0 | h0
  · have hl : l = [] := List.length_eq_zero_iff.1 h0
    subst hl
    have HO := hid (show BumpOut A n K L st [] W (.returned (.int .i64 0)) W from ⟨rfl, by rw [Qp.bL_nil, Qp.bS_nil]; exact H.mono (by omega) hk, Fq.refl _ _⟩)
    clear H hL h HE
    go_enter Try.func17, Try.ntmps17
    go_wp2
    go_loopw [11] (fun i wr => i = .int .i64 0 ∧ wr = W) (fun _ _ => 0)
    case atStart => exact ⟨rfl, rfl⟩
    case round =>
      obtain ⟨rfl, hw⟩ := hrel
      rw [hw]
      clear hw
      go_wp2
      go_ret
      exact HO.out
  · obtain ⟨b, off, rfl⟩ := h.blk h0
    have HH := hid (fun (k : Nat) (hk : k < l.length) => h.at hk)
    obtain ⟨ah, bh, rk, lk, h1, h2⟩ := id H
    have hmx := h2.mx
    have CN := hid (fun (v : Int) (hv : v < 1 ∨ ((n + 1 : Nat) : Int) ≤ v) => has30_no h1 (by omega) (by omega) v hv)
    have CY := hid (fun (v : Nat) (hv : 1 ≤ v) (hv2 : v < n + 1) => has30_ok h1 (by omega) hv hv2)
    have CI := hid (fun (hok : Qp.okB n l = true) => inOrder32 (c := c) H hL h h0 hl8 (Qp.okB_iff.1 hok))
    have CM := hid (fun (hok : Qp.okB n l = true) (o : Option Addr) (c : Nat) (w : World) ho hb => bump17_end (o := o) (c := c) (w := w) H hK hk hok (by
      have hx : l.getD 0 0 ∈ l := by rw [List.getD_eq_getElem?_getD, List.getElem?_eq_getElem h0]; exact List.getElem_mem h0
      have := Qp.okB_iff.1 hok _ hx
      exact List.length_pos_of_mem (a := (l.getD 0 0).toNat) (List.mem_filter.2 ⟨hL _ (by omega) (by omega), by unfold Qp.inL; rw [decide_eq_true_eq, Int.toNat_of_nonneg (by omega)]; exact hx⟩)) ho hb)
    have HT8 := hid hl8
    obtain ⟨t, ht⟩ : ∃ t, l.length = t := ⟨_, rfl⟩
    have HT := hid ht
    rw [ht] at CI
    rw [ht] at h0 ⊢
    have h0' : (0 : Int) < t := by omega
    clear H hL h h1 h2 hmx ht hl8
    go_enter Try.func17, Try.ntmps17
    go_wp2_with (fail)
    go_loopw [11] (fun i wr => ∃ k : Nat, k ≤ t ∧ i = .int .i64 (k : Nat) ∧ Hid (Qp.okB n (l.take k) = true) ∧ wr = W) (fun i _ => t - (intOf i).toNat)
    case atStart => exact ⟨0, Nat.zero_le _, rfl, hid rfl, rfl⟩
    case round =>
      obtain ⟨k, hkt, rfl, HR, hw⟩ := hrel
      rw [hw]
      clear hw
      by_cases hlt : k < t
      · have hlt' : (k : Int) < t := by omega
        have hkl : k < l.length := by rw [HT.out]; exact hlt
        have hwk : wrap64 ((k : Int) + 1) = (k : Int) + 1 := by have := HT8.out; unfold wrap64; omega
        have x1 := HH.out k hkl
        by_cases hv : 1 ≤ l.getD k 0 ∧ l.getD k 0 ≤ n
        · have HN := hid (Qp.okB_take hkl HR.out hv)
          have C1 := hid (CY.out (l.getD k 0).toNat (by omega) (by omega))
          rw [Int.toNat_of_nonneg (by omega)] at C1
          generalize l.getD k 0 = v at *
          clear hv hkl
          go_wp2_with (fail)
          go_at_call 30
          refine C1.out.mono ?_
          rintro e w4 ⟨rfl, hw4⟩
          rw [hw4]
          clear hw4
          go_wp2_with (fail)
          simp only [hwk]
          go_roundw
          case rel => exact ⟨k + 1, hlt, rfl, HN, trivial⟩
          case measure => simp only [intOf]; exact meas hlt
        · have HO := hid (HE.out (Qp.okB_bad hkl hv))
          have C1 := hid (CN.out (l.getD k 0) (by omega))
          generalize l.getD k 0 = v at *
          clear hv hkl
          go_wp2_with (fail)
          go_at_call 30
          refine C1.out.mono ?_
          rintro e w4 ⟨rfl, hw4⟩
          rw [hw4]
          clear hw4
          go_wp2
          go_ret
          exact HO.out
      · have hge : ¬ (k : Int) < t := by omega
        have hok : Qp.okB n l = true := by
          have := HR.out
          rw [List.take_of_length_le (by rw [HT.out]; omega)] at this
          exact this
        have C1 := hid (CI.out hok)
        have C2 := hid (CM.out hok)
        clear CI CM HR hok
        go_wp2_with (fail)
        go_at_call 32
        refine C1.out.mono ?_
        rintro e w4 ⟨o, c4, rfl, ho, hb⟩
        have C3 := hid (C2.out o c4 w4 ho hb)
        clear C1 C2 ho hb
        generalize (Qp.gone l L).length = z at *
        go_wp2_with (fail)
        go_at_call 31
        refine C3.out.mono ?_
        rintro e w5 ⟨rfl, hO⟩
        have HO := hid hO
        clear hO C3
        go_wp2
        go_ret
        exact HO.out
end Go.Proofs.Ytjnifadfcnpdoaa
