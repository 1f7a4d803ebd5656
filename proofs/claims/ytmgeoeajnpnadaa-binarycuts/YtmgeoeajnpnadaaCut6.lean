/- A proof's bytes that are cut short, as a call. -/
import Derived.Test.YtmgeoeajnpnadaaTell
namespace Go.Proofs.Ytmgeoeajnpnadaa
open Go.RowKit
set_option linter.unusedVariables false
set_option linter.unusedSimpArgs false

theorem rem_fits (nn : Int) (z : Nat) (hz : z ≤ 6000) : ∃ K : Nat, K ≤ z ∧ wrap64 ((IntKind.u64.wrap nn).tmod ((z : Int) + 1)) = (K : Int) := by
  have h0 : 0 ≤ IntKind.u64.wrap nn := by
    simp [IntKind.wrap, IntKind.bits, IntKind.signed]
    first | done | exact Int.emod_nonneg _ (by decide)
  generalize IntKind.u64.wrap nn = u at h0
  have h1 := Int.tmod_nonneg ((z : Int) + 1) h0
  have h2 := Int.tmod_lt_of_pos u (show (0 : Int) < (z : Int) + 1 by omega)
  generalize u.tmod ((z : Int) + 1) = r at h1 h2
  refine ⟨r.toNat, by omega, ?_⟩
  unfold wrap64
  omega
theorem Row.take {k : IntKind} {lo hi : Int} {w : World} {a : Option Addr} {xs : List Int} (h : Row k lo hi w a xs) (j : Nat) : Row k lo hi w a (xs.take j) := by
  refine ⟨fun x hx => h.1 x (List.mem_of_mem_take hx), ?_⟩
  rcases h.2 with h0 | ⟨b, off, e, hb, hc⟩
  · left; rw [h0]; simp
  · right
    refine ⟨b, off, e, hb, fun i hi => ?_⟩
    rw [List.length_take] at hi
    rw [hc i (by omega)]
    simp [List.getD, List.getElem?_take, show i < j by omega]

set_option maxRecDepth 100000 in
set_option maxHeartbeats 8000000 in
theorem law6_long (a : Option Addr) (n c : Nat) (nn : Int) (w : World) (h : ¬ n ≤ 6000) :
    Calls Try.prog 6 #[.slice a n c, .int .i64 nn] w fun e w' => e = .returned (.bool true) ∧ Below w.heap.size w w' := by
  have CW := hid (works9 w)
  have hA' : (6000 : Int) < n := by omega
  clear h
  go_enter Try.func6, Try.ntmps6
  go_wp2_with (go_at_call 9; refine CW.out.mono ?_; clear CW; rintro e W4 ⟨rfl, hb4⟩; have HB4 := hid hb4; clear hb4)
  go_ret
  exact ⟨rfl, HB4.out⟩

set_option maxRecDepth 100000 in
set_option maxHeartbeats 8000000 in
theorem law6_err (a : Option Addr) (n c : Nat) (nn : Int) (xs : List Int) (w : World) (hn : xs.length = n) (hA : n ≤ 6000) (hc : n ≤ c) (hm : c ≤ 9223372036854775807) (h : Bts w a xs) (ss : List Lra.Stp) (rest : List Int) (hs : Bin.Says xs ss rest) (hr : rest ≠ []) :
    Calls Try.prog 6 #[.slice a n c, .int .i64 nn] w fun e w' => e = .returned (.bool true) ∧ Below w.heap.size w w' := by
  have CW := hid (worksB w)
  have hA' : ¬ (6000 : Int) < n := by omega
  have CA := hid (bad14 a n c xs ss rest _ hn hc hm (by omega) hs hr rfl w w (Below.refl _ _) h)
  generalize (Bin.text ss).length = tn at CA
  clear hn hA hc hm h hs hr
  go_enter Try.func6, Try.ntmps6
  go_wp2_with (first
    | (go_at_call 14; refine CA.out.mono ?_; clear CA; rintro e W1 ⟨rfl, _, hb1⟩; have HB1 := hid hb1; clear hb1)
    | (go_at_call 9; refine (CW.out _ HB1.out).mono ?_; clear CW; rintro e W4 ⟨rfl, hb4⟩; have HB4 := hid hb4; clear hb4))
  go_ret
  exact ⟨rfl, HB4.out⟩

set_option maxRecDepth 100000 in
set_option maxHeartbeats 8000000 in
theorem law6_good (a : Option Addr) (n c : Nat) (nn : Int) (xs : List Int) (w : World) (hn : xs.length = n) (hA : n ≤ 6000) (hc : n ≤ c) (hm : c ≤ 9223372036854775807) (h : Bts w a xs) (ss : List Lra.Stp) (hs : Bin.Says xs ss []) :
    Calls Try.prog 6 #[.slice a n c, .int .i64 nn] w fun e w' => e = .returned (.bool true) ∧ Below w.heap.size w w' := by
  have CW := hid (worksB w)
  have hA' : ¬ (6000 : Int) < n := by omega
  obtain ⟨K, hK, hKw⟩ := rem_fits nn n hA
  obtain ⟨sn, hsn⟩ : ∃ sn, ss.length = sn := ⟨_, rfl⟩
  have hsl : sn ≤ 6000 := by have := hs.small.1; omega
  have CA := hid (good14 a n c xs ss sn hn hc hm (by omega) hs hsn w w (Below.refl _ _) h)
  have hKl : (xs.take K).length = K := by rw [List.length_take]; omega
  obtain ⟨ts, rest, ht⟩ := Bin.says_ex _ (xs.take K) (Nat.le_refl _) (h.byt.take K)
  obtain ⟨vs, hvs⟩ := hs.cut ht
  obtain ⟨tn, htn⟩ : ∃ tn, ts.length = tn := ⟨_, rfl⟩
  have htsn : tn ≤ sn := by rw [← htn, ← hsn, hvs, List.length_append]; omega
  have hKi : (K : Int) ≤ n := by omega
  have hKc : (K : Int) ≤ c := by omega
  by_cases hr : rest = []
  · subst hr
    have CB := hid (fun (W : World) (hW : Below w.heap.size w W) => good14 a K c (xs.take K) ts tn hKl (by omega) hm (by omega) ht htn w W hW ((h.take K).below hW))
    have htsn' : (tn : Int) ≤ sn := by omega
    have HTN := hid htn
    have HVS := hid hvs
    have C13 := hid (fun (W : World) (hW : Below w.heap.size w W) (a1 a2 : Option Addr) (c1 c2 : Nat) (h1 : Steps W a1 ts) (h2 : Steps W a2 ss) => (same13 a1 a2 tn c1 tn c2 ts ts W htn htn (by omega) (by omega) h1 (by rw [hvs] at h2; exact h2.front)).mono (R' := fun e w' => e = .returned (.bool true) ∧ Below w.heap.size w w') fun e w' q => ⟨by rw [q.1]; simp, hW.trans (q.2.mono hW.size)⟩)
    clear hn hA hc hm h hs hsn htn ht hvs hKl hK
    go_enter Try.func6, Try.ntmps6
    go_wp2_with (first
      | (go_at_call 14; refine CA.out.mono ?_; clear CA; rintro e W1 ⟨a1, c1, rfl, hs1, hc1, _, hb1⟩; have HB1 := hid hb1; have HS1 := hid hs1; have hc1' : (sn : Int) ≤ c1 := by omega
         have hc1'' : (tn : Int) ≤ c1 := by omega
         clear hb1 hs1)
      | (go_at_call 14; refine (CB.out _ HB1.out).mono ?_; clear CB; rintro e W2 ⟨a2, c2, rfl, hs2, hc2, hx2, hb2⟩; have HB2 := hid hb2; have HS2 := hid hs2; have HS1b := hid (HS1.out.below hx2); clear hb2 hs2 hx2)
      | (go_at_call 13; refine (C13.out _ HB2.out _ _ _ _ HS2.out HS1b.out).mono ?_; clear C13; rintro e W3 ⟨rfl, hb3⟩; have HB3 := hid hb3; clear hb3)
      | (go_at_call 9; refine (CW.out _ HB3.out).mono ?_; clear CW; rintro e W4 ⟨rfl, hb4⟩; have HB4 := hid hb4; clear hb4))
    go_ret
    exact ⟨rfl, HB4.out⟩
  · obtain ⟨hp1, hp2, hp3⟩ := hs.less ht hr
    obtain ⟨P, hP⟩ : ∃ P, (Bin.text ts).length = P := ⟨_, rfl⟩
    rw [hP] at hp1 hp3
    have hPl : (xs.take P).length = P := by rw [List.length_take]; omega
    have CB := hid (fun (W : World) (hW : Below w.heap.size w W) => bad14 a K c (xs.take K) ts rest P hKl (by omega) hm (by omega) ht hr hP w W hW ((h.take K).below hW))
    have CD := hid (fun (W : World) (hW : Below w.heap.size w W) => good14 a P c (xs.take P) ts tn hPl (by omega) hm (by omega) hp3 htn w W hW ((h.take P).below hW))
    have htsn' : (tn : Int) < sn := by omega
    have htsn'' : (tn : Int) ≤ sn := by omega
    have hPK : (P : Int) < K := by omega
    have hPn : (P : Int) ≤ n := by omega
    have hPc : (P : Int) ≤ c := by omega
    have HTN := hid htn
    have HVS := hid hvs
    have C13 := hid (fun (W : World) (hW : Below w.heap.size w W) (a1 a2 : Option Addr) (c1 c2 : Nat) (h1 : Steps W a1 ts) (h2 : Steps W a2 ss) => (same13 a1 a2 tn c1 tn c2 ts ts W htn htn (by omega) (by omega) h1 (by rw [hvs] at h2; exact h2.front)).mono (R' := fun e w' => e = .returned (.bool true) ∧ Below w.heap.size w w') fun e w' q => ⟨by rw [q.1]; simp, hW.trans (q.2.mono hW.size)⟩)
    clear hn hA hc hm h hs hsn htn ht hvs hKl hK hr hp2 hp3 hPl hP hp1
    go_enter Try.func6, Try.ntmps6
    go_wp2_with (first
      | (go_at_call 14; refine CA.out.mono ?_; clear CA; rintro e W1 ⟨a1, c1, rfl, hs1, hc1, _, hb1⟩; have HB1 := hid hb1; have HS1 := hid hs1; have hc1' : (sn : Int) ≤ c1 := by omega
         have hc1'' : (tn : Int) ≤ c1 := by omega
         clear hb1 hs1)
      | (go_at_call 14; refine (CB.out _ HB1.out).mono ?_; clear CB; rintro e W2 ⟨rfl, hx2, hb2⟩; have HB2 := hid hb2; have HS1b := hid (HS1.out.below hx2); clear hb2 hx2)
      | (go_at_call 14; refine (CD.out _ HB2.out).mono ?_; clear CD; rintro e W3 ⟨a2, c2, rfl, hs2, hc2, hx2, hb2⟩; have HB3 := hid hb2; have HS2 := hid hs2; have HS1c := hid (HS1b.out.below hx2); clear hb2 hs2 hx2)
      | (go_at_call 13; refine (C13.out _ HB3.out _ _ _ _ HS2.out HS1c.out).mono ?_; clear C13; rintro e W4 ⟨rfl, hb3⟩; have HB4 := hid hb3; clear hb3)
      | (go_at_call 9; refine (CW.out _ HB4.out).mono ?_; clear CW; rintro e W5 ⟨rfl, hb4⟩; have HB5 := hid hb4; clear hb4))
    go_ret
    exact ⟨rfl, HB5.out⟩
theorem law6 (a : Option Addr) (n c : Nat) (nn : Int) (xs : List Int) (w : World) (hn : xs.length = n) (hc : n ≤ c) (hm : c ≤ 9223372036854775807) (h : Bts w a xs) :
    Calls Try.prog 6 #[.slice a n c, .int .i64 nn] w fun e w' => e = .returned (.bool true) ∧ Below w.heap.size w w' := by
  by_cases hA : n ≤ 6000
  · obtain ⟨ss, rest, hs⟩ := Bin.says_ex _ xs (Nat.le_refl _) h.byt
    by_cases hr : rest = []
    · subst hr
      exact law6_good a n c nn xs w hn hA hc hm h ss hs
    · exact law6_err a n c nn xs w hn hA hc hm h ss rest hs hr
  · exact law6_long a n c nn w hA
end Go.Proofs.Ytmgeoeajnpnadaa
