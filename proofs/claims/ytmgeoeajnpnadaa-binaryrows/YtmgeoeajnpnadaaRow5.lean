/- Two proofs' bytes one behind the other, as a call. -/
import Derived.Test.YtmgeoeajnpnadaaTell
namespace Go.Proofs.Ytmgeoeajnpnadaa
open Go.RowKit
set_option linter.unusedVariables false
set_option linter.unusedSimpArgs false

set_option maxRecDepth 100000 in
set_option maxHeartbeats 8000000 in
theorem law5_long (a : Option Addr) (n c : Nat) (a' : Option Addr) (n' c' : Nat) (w : World) (h : ¬ n ≤ 6000 ∨ ¬ n' ≤ 6000) :
    Calls Try.prog 5 #[.slice a n c, .slice a' n' c'] w fun e w' => e = .returned (.bool true) ∧ Below w.heap.size w w' := by
  have CW := hid (works9 w)
  by_cases hA : n ≤ 6000
  · have hB : ¬ n' ≤ 6000 := by rcases h with h | h; exact absurd hA h; exact h
    have hA' : ¬ (6000 : Int) < n := by omega
    have hB' : (6000 : Int) < n' := by omega
    clear h hA hB
    go_enter Try.func5, Try.ntmps5
    go_wp2_with (go_at_call 9; refine CW.out.mono ?_; clear CW; rintro e W4 ⟨rfl, hb4⟩; have HB4 := hid hb4; clear hb4)
    go_ret
    exact ⟨rfl, HB4.out⟩
  · have hA' : (6000 : Int) < n := by omega
    clear h hA
    go_enter Try.func5, Try.ntmps5
    go_wp2_with (go_at_call 9; refine CW.out.mono ?_; clear CW; rintro e W4 ⟨rfl, hb4⟩; have HB4 := hid hb4; clear hb4)
    go_ret
    exact ⟨rfl, HB4.out⟩

set_option maxRecDepth 100000 in
set_option maxHeartbeats 8000000 in
theorem law5_err (a : Option Addr) (n c : Nat) (a' : Option Addr) (n' c' : Nat) (xs bs : List Int) (w : World) (hn : xs.length = n) (hn' : bs.length = n') (hA : n ≤ 6000) (hB : n' ≤ 6000) (hc : n ≤ c) (hm : c ≤ 9223372036854775807) (hc' : n' ≤ c') (hm' : c' ≤ 9223372036854775807) (h : Bts w a xs) (h' : Bts w a' bs) (ss : List Lra.Stp) (rest : List Int) (hs : Bin.Says xs ss rest) (hr : rest ≠ []) :
    Calls Try.prog 5 #[.slice a n c, .slice a' n' c'] w fun e w' => e = .returned (.bool true) ∧ Below w.heap.size w w' := by
  have CW := hid (worksB w)
  have hA' : ¬ (6000 : Int) < n := by omega
  have hB' : ¬ (6000 : Int) < n' := by omega
  have CA := hid (bad14 a n c xs ss rest _ hn hc hm (by omega) hs hr rfl w w (Below.refl _ _) h)
  generalize (Bin.text ss).length = tn at CA
  have CB := hid (fun (W : World) (hW : Below w.heap.size w W) => any14 a' n' c' bs hn' hc' hm' (by omega) w W hW (h'.below hW))
  clear hn hn' hA hB hc hm hc' hm' h h' hs hr
  go_enter Try.func5, Try.ntmps5
  go_wp2_with (first
    | (go_at_call 14; refine CA.out.mono ?_; clear CA; rintro e W1 ⟨rfl, _, hb1⟩; have HB1 := hid hb1; clear hb1)
    | (go_at_call 14; refine (CB.out _ HB1.out).mono ?_; clear CB; rintro e W2 ⟨x2, y2, z2, rfl, _, hb2⟩; have HB2 := hid hb2; clear hb2)
    | (go_at_call 9; refine (CW.out _ HB2.out).mono ?_; clear CW; rintro e W4 ⟨rfl, hb4⟩; have HB4 := hid hb4; clear hb4))
  go_ret
  exact ⟨rfl, HB4.out⟩

set_option maxRecDepth 100000 in
set_option maxHeartbeats 8000000 in
theorem law5_bad (a : Option Addr) (n c : Nat) (a' : Option Addr) (n' c' : Nat) (xs bs : List Int) (w : World) (hn : xs.length = n) (hn' : bs.length = n') (hA : n ≤ 6000) (hB : n' ≤ 6000) (hc : n ≤ c) (hm : c ≤ 9223372036854775807) (hc' : n' ≤ c') (hm' : c' ≤ 9223372036854775807) (h : Bts w a xs) (h' : Bts w a' bs) (ss : List Lra.Stp) (hs : Bin.Says xs ss []) (ts : List Lra.Stp) (rest : List Int) (ht : Bin.Says bs ts rest) (hr : rest ≠ []) :
    Calls Try.prog 5 #[.slice a n c, .slice a' n' c'] w fun e w' => e = .returned (.bool true) ∧ Below w.heap.size w w' := by
  have CW := hid (worksB w)
  have hA' : ¬ (6000 : Int) < n := by omega
  have hB' : ¬ (6000 : Int) < n' := by omega
  obtain ⟨sn, hsn⟩ : ∃ sn, ss.length = sn := ⟨_, rfl⟩
  obtain ⟨tn, htn⟩ : ∃ tn, (Bin.text ts).length = tn := ⟨_, rfl⟩
  have hst := hs.append ht
  have hlen : (xs ++ bs).length = n + n' := by rw [List.length_append, hn, hn']
  have htx : (Bin.text (ss ++ ts)).length = n + tn := by
    rw [Bin.text_append, List.length_append, htn]
    have := hs.small.2
    simp at this
    omega
  have htnl : tn ≤ n' := by have := ht.small.2; omega
  have CA := hid (good14 a n c xs ss sn hn hc hm (by omega) hs hsn w w (Below.refl _ _) h)
  have CB := hid (fun (W : World) (hW : Below w.heap.size w W) => bad14 a' n' c' bs ts rest tn hn' hc' hm' (by omega) ht hr htn w W hW (h'.below hW))
  have CVA := hid (fun (W : World) (hW : Below w.heap.size w W) => to_str W a n c xs (h.below hW) hn)
  have CVB := hid (fun (W : World) (hW : Below w.heap.size w W) => to_str W a' n' c' bs (h'.below hW) hn')
  have hby : Bin.Byt (xs ++ bs) := fun x hx => by
    rcases List.mem_append.1 hx with hx | hx
    · exact h.byt x hx
    · exact h'.byt x hx
  have CVC := hid (fun (W : World) => (show ∃ cap W', (convert 9 26 (.string (strOfNums xs ++ strOfNums bs))).run Try.prog W = .ok (.slice (some ⟨W.heap.size, 0, none⟩) (n + n') cap) W' ∧ n + n' ≤ cap ∧ cap ≤ 9223372036854775807 ∧ Below W.heap.size W W' ∧ Bts W' (some ⟨W.heap.size, 0, none⟩) (xs ++ bs) by
    obtain ⟨cap, W', h1, h2, h3, h4, h5, _⟩ := to_bytes W (xs ++ bs) hby (by omega)
    rw [str_app]
    rw [hlen] at h1 h2
    exact ⟨cap, W', h1, h2, h3, h4, h5⟩))
  have CC := hid (fun (W : World) (hW : Below w.heap.size w W) (aa : Option Addr) (cc : Nat) (h1 : n + n' ≤ cc) (h2 : cc ≤ 9223372036854775807) (hb : Bts W aa (xs ++ bs)) => bad14 aa (n + n') cc (xs ++ bs) (ss ++ ts) rest (n + tn) hlen h1 h2 (by omega) hst hr htx w W hW hb)
  have hszA : (strOfNums xs).size = n := by rw [strOfNums_size, hn]
  have hszB : (strOfNums bs).size = n' := by rw [strOfNums_size, hn']
  have hcat : ¬ 9223372036854775807 < n + n' := by omega
  generalize strOfNums xs = SA at *
  generalize strOfNums bs = SB at *
  have hcat2 : ¬ 9223372036854775807 < SA.size + SB.size := by rw [hszA, hszB]; exact hcat
  clear hn hn' hA hB hc hm hc' hm' h h' hs hr hsn htn hst hlen htx ht hby
  go_enter Try.func5, Try.ntmps5
  go_wp2_with (first
    | (go_at_call 14; refine CA.out.mono ?_; clear CA; rintro e W1 ⟨a1, c1, rfl, _, hc1, _, hb1⟩; have HB1 := hid hb1; clear hb1)
    | (go_at_call 14; refine (CB.out _ HB1.out).mono ?_; clear CB; rintro e W2 ⟨rfl, _, hb2⟩
       have HB2 := hid hb2
       have cva := CVA.out W2 hb2
       have cvb := CVB.out W2 hb2
       obtain ⟨cap, W3, cvc, g1, g2, g3, g4⟩ := CVC.out W2
       have K3 := hid (CC.out W3 (hb2.trans (g3.mono hb2.size)) _ cap g1 g2 g4)
       clear hb2 CVA CVB CVC g1 g2 g3 g4 CC)
    | (go_at_call 14; refine K3.out.mono ?_; clear K3; rintro e W4 ⟨rfl, _, hb4⟩; have HB4 := hid hb4; clear hb4)
    | (go_at_call 9; refine (CW.out _ HB4.out).mono ?_; clear CW; rintro e W5 ⟨rfl, hb5⟩; have HB5 := hid hb5; clear hb5))
  go_ret
  exact ⟨rfl, HB5.out⟩

set_option maxRecDepth 100000 in
set_option maxHeartbeats 8000000 in
theorem law5_both (a : Option Addr) (n c : Nat) (a' : Option Addr) (n' c' : Nat) (xs bs : List Int) (w : World) (hn : xs.length = n) (hn' : bs.length = n') (hA : n ≤ 6000) (hB : n' ≤ 6000) (hc : n ≤ c) (hm : c ≤ 9223372036854775807) (hc' : n' ≤ c') (hm' : c' ≤ 9223372036854775807) (h : Bts w a xs) (h' : Bts w a' bs) (ss : List Lra.Stp) (hs : Bin.Says xs ss []) (ts : List Lra.Stp) (ht : Bin.Says bs ts []) :
    Calls Try.prog 5 #[.slice a n c, .slice a' n' c'] w fun e w' => e = .returned (.bool true) ∧ Below w.heap.size w w' := by
  have CW := hid (worksB w)
  have hA' : ¬ (6000 : Int) < n := by omega
  have hB' : ¬ (6000 : Int) < n' := by omega
  obtain ⟨sn, hsn⟩ : ∃ sn, ss.length = sn := ⟨_, rfl⟩
  obtain ⟨tn, htn⟩ : ∃ tn, ts.length = tn := ⟨_, rfl⟩
  have hst := hs.append ht
  have hlen : (xs ++ bs).length = n + n' := by rw [List.length_append, hn, hn']
  have hlst : (ss ++ ts).length = sn + tn := by rw [List.length_append, hsn, htn]
  have hsl : sn ≤ 6000 := by have := hs.small.1; omega
  have htl : tn ≤ 6000 := by have := ht.small.1; omega
  have CA := hid (good14 a n c xs ss sn hn hc hm (by omega) hs hsn w w (Below.refl _ _) h)
  have CB := hid (fun (W : World) (hW : Below w.heap.size w W) => good14 a' n' c' bs ts tn hn' hc' hm' (by omega) ht htn w W hW (h'.below hW))
  have CVA := hid (fun (W : World) (hW : Below w.heap.size w W) => to_str W a n c xs (h.below hW) hn)
  have CVB := hid (fun (W : World) (hW : Below w.heap.size w W) => to_str W a' n' c' bs (h'.below hW) hn')
  have hby : Bin.Byt (xs ++ bs) := fun x hx => by
    rcases List.mem_append.1 hx with hx | hx
    · exact h.byt x hx
    · exact h'.byt x hx
  have CVC := hid (fun (W : World) => (show ∃ cap W', (convert 9 26 (.string (strOfNums xs ++ strOfNums bs))).run Try.prog W = .ok (.slice (some ⟨W.heap.size, 0, none⟩) (n + n') cap) W' ∧ n + n' ≤ cap ∧ cap ≤ 9223372036854775807 ∧ Below W.heap.size W W' ∧ Bts W' (some ⟨W.heap.size, 0, none⟩) (xs ++ bs) by
    obtain ⟨cap, W', h1, h2, h3, h4, h5, _⟩ := to_bytes W (xs ++ bs) hby (by omega)
    rw [str_app]
    rw [hlen] at h1 h2
    exact ⟨cap, W', h1, h2, h3, h4, h5⟩))
  have CC := hid (fun (W : World) (hW : Below w.heap.size w W) (aa : Option Addr) (cc : Nat) (h1 : n + n' ≤ cc) (h2 : cc ≤ 9223372036854775807) (hb : Bts W aa (xs ++ bs)) => good14 aa (n + n') cc (xs ++ bs) (ss ++ ts) (sn + tn) hlen h1 h2 (by omega) hst hlst w W hW hb)
  have hszA : (strOfNums xs).size = n := by rw [strOfNums_size, hn]
  have hszB : (strOfNums bs).size = n' := by rw [strOfNums_size, hn']
  have hcat : ¬ 9223372036854775807 < n + n' := by omega
  generalize strOfNums xs = SA at *
  generalize strOfNums bs = SB at *
  have hcat2 : ¬ 9223372036854775807 < SA.size + SB.size := by rw [hszA, hszB]; exact hcat
  have HSN := hid hsn
  have HTN := hid htn
  clear hn hn' hA hB hc hm hc' hm' h h' hs hsn htn hst hlen ht hby hlst
  go_enter Try.func5, Try.ntmps5
  go_wp2_with (first
    | (go_at_call 14; refine CA.out.mono ?_; clear CA; rintro e W1 ⟨a1, c1, rfl, hs1, hc1, _, hb1⟩; have HB1 := hid hb1; have HS1 := hid hs1; clear hb1 hs1 hc1)
    | (go_at_call 14; refine (CB.out _ HB1.out).mono ?_; clear CB; rintro e W2 ⟨a2, c2, rfl, hs2, hc2, hx2, hb2⟩
       have HB2 := hid hb2
       have HS2 := hid hs2
       have HS1b := hid (HS1.out.below hx2)
       have cva := CVA.out W2 hb2
       have cvb := CVB.out W2 hb2
       obtain ⟨cap, W3, cvc, g1, g2, g3, g4⟩ := CVC.out W2
       have HX3 := hid g3
       have K3 := hid (CC.out W3 (hb2.trans (g3.mono hb2.size)) _ cap g1 g2 g4)
       clear hb2 CVA CVB CVC g1 g2 g3 g4 CC hs2 hc2 hx2 HS1)
    | (go_at_call 14; refine K3.out.mono ?_; clear K3; rintro e W4 ⟨a4, c4, rfl, hs4, hc4, hx4, hb4⟩
       have HB4 := hid hb4
       have hc4' : ((sn : Int) + tn) ≤ c4 := by omega
       have hc5 : (sn : Int) ≤ c4 := by omega
       have HX := hid ((HX3.out.trans (hx4.mono HX3.out.size)))
       have K13 := hid ((same13 a4 a1 sn c4 sn c1 ss ss W4 HSN.out HSN.out (by omega) (by omega) hs4.front (HS1b.out.below HX.out)).mono (R' := fun e w' => e = .returned (.bool true) ∧ Below W4.heap.size W4 w') fun e w' q => ⟨by rw [q.1]; simp, q.2⟩)
       have K13b := hid (fun (W5 : World) (h5 : Below W4.heap.size W4 W5) (aa : Option Addr) (cc : Nat) (hsm : Steps W5 aa ts) => (same13 aa a2 tn cc tn c2 ts ts W5 HTN.out HTN.out (by omega) (by omega) hsm ((HS2.out.below HX.out).below h5)).mono (R' := fun e w' => e = .returned (.bool true) ∧ Below W5.heap.size W5 w') fun e w' q => ⟨by rw [q.1]; simp, q.2⟩)
       have HSM := hid (hs4.mapped HSN.out)
       have HM0 := hid (show c4 = sn → ts = [] from fun h => List.eq_nil_of_length_eq_zero (by rw [HTN.out]; omega))
       clear hb4 hs4 hx4)
    | (go_at_call 13; refine K13.out.mono ?_; clear K13; rintro e W5 ⟨rfl, hb5⟩; have HX5 := hid hb5; clear hb5)
    | (go_at_call 13; refine (K13b.out _ HX5.out _ _ (by first | exact HSM.out.below HX5.out | exact .inl (HM0.out (by omega)))).mono ?_; clear K13b; rintro e W6 ⟨rfl, hb6⟩; have HB6 := hid (HB4.out.trans ((HX5.out.mono HB4.out.size).trans (hb6.mono (Nat.le_trans HB4.out.size HX5.out.size)))); clear hb6)
    | (go_at_call 9; refine (CW.out _ HB6.out).mono ?_; clear CW; rintro e W7 ⟨rfl, hb7⟩; have HB7 := hid hb7; clear hb7))
  all_goals
    go_ret
    exact ⟨rfl, HB7.out⟩
theorem law5 (a : Option Addr) (n c : Nat) (a' : Option Addr) (n' c' : Nat) (xs bs : List Int) (w : World) (hn : xs.length = n) (hn' : bs.length = n') (hc : n ≤ c) (hm : c ≤ 9223372036854775807) (hc' : n' ≤ c') (hm' : c' ≤ 9223372036854775807) (h : Bts w a xs) (h' : Bts w a' bs) :
    Calls Try.prog 5 #[.slice a n c, .slice a' n' c'] w fun e w' => e = .returned (.bool true) ∧ Below w.heap.size w w' := by
  by_cases hA : n ≤ 6000
  · by_cases hB : n' ≤ 6000
    · obtain ⟨ss, rest, hs⟩ := Bin.says_ex _ xs (Nat.le_refl _) h.byt
      obtain ⟨ts, rest', ht⟩ := Bin.says_ex _ bs (Nat.le_refl _) h'.byt
      by_cases hr : rest = []
      · subst hr
        by_cases hr' : rest' = []
        · subst hr'
          exact law5_both a n c a' n' c' xs bs w hn hn' hA hB hc hm hc' hm' h h' ss hs ts ht
        · exact law5_bad a n c a' n' c' xs bs w hn hn' hA hB hc hm hc' hm' h h' ss hs ts rest' ht hr'
      · exact law5_err a n c a' n' c' xs bs w hn hn' hA hB hc hm hc' hm' h h' ss rest hs hr
    · exact law5_long a n c a' n' c' w (.inr hB)
  · exact law5_long a n c a' n' c' w (.inl hA)
end Go.Proofs.Ytmgeoeajnpnadaa
