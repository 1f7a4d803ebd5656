/- Steps and bytes, there and back, as a call. -/
import Derived.Test.YtmgeoeajnpnadaaDoorTell
import Derived.Test.YtmgeoeajnpnadaaDoorLWrite
namespace Go.Proofs.YtmgeoeajnpnadaaDoor
open Go.RowKit
set_option linter.unusedVariables false
set_option linter.unusedSimpArgs false

theorem Tab.on {n : Nat} {w W : World} (h : Tab n w) (hb : Below n w W) (hn : n ≤ W.heap.size) : Tab W.heap.size W := fun w' hw => h w' (hb.trans (hw.mono hn))

set_option maxRecDepth 100000 in
set_option maxHeartbeats 8000000 in
theorem law3_tbad (a : Option Addr) (n c : Nat) (ss : List Lra.Stp) (a' : Option Addr) (n' c' : Nat) (bs : List Int) (w : World) (hn : ss.length = n) (hb : n ≤ 2199023255552) (hs : Steps w a ss) (hn' : bs.length = n') (hB : n' ≤ 6000) (hc' : n' ≤ c') (hm' : c' ≤ 9223372036854775807) (h' : Bts w a' bs) (hT : Tab w.heap.size w) (hmay : ss.all Lra.may = true) (ts : List Lra.Stp) (rest : List Int) (hts : Bin.Says bs ts rest) (hr : rest ≠ []) :
    Calls Tryd.prog 3 #[.slice a n c, .slice a' n' c'] w fun e w' => e = .returned (.bool true) ∧ Below w.heap.size w w' := by
  have C8 := hid (size8 a n c ss w hn (by omega) hs)
  have CW := hid (worksB w)
  have hB' : ¬ (6000 : Int) < n' := by omega
  obtain ⟨q, hq⟩ : ∃ q, (Bin.text ss).length = q := ⟨_, rfl⟩
  have e1 : Bin.out ss = Bin.text ss := by unfold Bin.out; rw [hmay]; rfl
  have e2 : Bin.err ss = 0 := by unfold Bin.err; rw [hmay]; rfl
  have hqo : (Bin.out ss).length = q := by rw [e1]; exact hq
  have C11 := hid (fun (W : World) (hW : Below w.heap.size w W) (h6 : ss.length + Lra.items ss ≤ 6000) => (write11 a n c ss W hn (by omega) (by omega) (hs.below hW)).mono (R' := fun e w' => ∃ o d, e = .returned (.tuple #[.slice o q d, .int .i64 0]) ∧ Bts w' o (Bin.text ss) ∧ q ≤ d ∧ d ≤ 9223372036854775807 ∧ q ≤ 500000 ∧ Below W.heap.size W w' ∧ Below w.heap.size w w') fun e w' r => by
    obtain ⟨o, d, he, hbt, g1, g2, hb'⟩ := r.bts hqo e2
    rw [e1] at hbt
    have := Bin.text_len hmay
    exact ⟨o, d, he, hbt, g1, g2, by omega, hb', hW.trans (hb'.mono hW.size)⟩)
  obtain ⟨TS, hTS⟩ : ∃ TS : ByteArray, (⟨(if ss.all Lra.may then Lra.textB ss else []).toArray⟩ : ByteArray) = TS := ⟨_, rfl⟩
  have C12 := hid (fun (W : World) (hW : Below w.heap.size w W) (h6 : ss.length + Lra.items ss ≤ 6000) => (write12 a n c ss W hn (by omega) (by omega) (hs.below hW) (hT.on hW hW.size)).mono (R' := fun e w' => e = .returned (.tuple #[.string TS, .int .i64 0]) ∧ Below W.heap.size W w' ∧ Below w.heap.size w w') fun e w' q => ⟨by have := q.1; unfold LOut at this; rw [this, hTS, hmay]; rfl, q.2, hW.trans (q.2.mono hW.size)⟩)
  have C14 := hid (fun (W : World) (hW : Below w.heap.size w W) (o : Option Addr) (d : Nat) (hbt : Bts W o (Bin.text ss)) (g1 : q ≤ d) (g2 : d ≤ 9223372036854775807) (g3 : q ≤ 500000) => good14 o q d (Bin.text ss) ss n hq g1 g2 (by omega) (Bin.says_text hmay) hn w W hW hbt)
  have C13 := hid (fun (W : World) (hW : Below w.heap.size w W) (o : Option Addr) (d : Nat) (hS : Steps W o ss) => (same13 a o n c n d ss ss W hn hn (by omega) (by omega) (hs.below hW) hS).mono (R' := fun e w' => e = .returned (.bool true) ∧ Below w.heap.size w w') fun e w' q => ⟨by rw [q.1]; simp, hW.trans (q.2.mono hW.size)⟩)
  obtain ⟨tn, htn⟩ : ∃ tn, (Bin.text ts).length = tn := ⟨_, rfl⟩
  have htl : (tn : Int) < n' := by
    have h1 := hts.small.2
    have h2 : 1 ≤ rest.length := by cases rest with | nil => exact absurd rfl hr | cons x r => simp
    omega
  have ht0 : (0 : Int) ≤ tn := by omega
  have CB := hid (fun (W : World) (hW : Below w.heap.size w W) => bad14 a' n' c' bs ts rest tn hn' hc' hm' (by omega) hts hr htn w W hW (h'.below hW))
  clear hn hb hs hn' hc' hm' h' hT hmay e1 e2 hqo hTS hts hq hr htn
  go_enter Tryd.func3, Tryd.ntmps3
  go_wp2_with (first
    | (go_at_call 4; refine C8.out.mono ?_; clear C8; rintro e W1 ⟨⟨z, rfl, hz⟩, hb1⟩; have HB1 := hid hb1; have HZ := hid hz; clear hz hb1; rcases Nat.lt_or_ge 6000 z with h6 | h6 <;> first | have h6' : (6000 : Int) < z := by omega | have h6' : ¬ (6000 : Int) < z := by omega)
    | (go_at_call 6; refine (C11.out _ HB1.out (HZ.out (by omega))).mono ?_; clear C11; rintro e W2 ⟨o2, d2, rfl, hbt, g1, g2, g3, hx2, hb2⟩; have HB2 := hid hb2; have HT2 := hid hbt; have HG := hid (And.intro g1 (And.intro g2 g3)); clear hb2 hx2 hbt g1 g2 g3)
    | (go_at_call 7; refine (C12.out _ HB2.out (HZ.out (by omega))).mono ?_; clear C12; rintro e W3 ⟨rfl, hx3, hb3⟩; have HB3 := hid hb3; have HT3 := hid (HT2.out.below hx3); clear hb3 hx3)
    | (go_at_call 8; refine (C14.out _ HB3.out _ _ HT3.out HG.out.1 HG.out.2.1 HG.out.2.2).mono ?_; clear C14; rintro e W4 ⟨o4, d4, rfl, hs4, _, _, hb4⟩; have HB4 := hid hb4; have HS4 := hid hs4; clear hb4 hs4)
    | (go_at_call 9; refine (C13.out _ HB4.out _ _ HS4.out).mono ?_; clear C13; rintro e W5 ⟨rfl, hb5⟩; have HB5 := hid hb5; clear hb5)
    | (go_at_call 8; refine (CB.out _ HB5.out).mono ?_; clear CB; rintro e W6 ⟨rfl, _, hb6⟩; have HB7 := hid hb6; clear hb6)
    | (go_at_call 5; refine (CW.out _ (by first | exact HB7.out | exact HB1.out)).mono ?_; rintro e W9 ⟨rfl, hb9⟩; have HB9 := hid hb9; clear hb9))
  all_goals
    go_ret
    exact ⟨rfl, HB9.out⟩

set_option maxRecDepth 100000 in
set_option maxHeartbeats 8000000 in
theorem law3_tgood (a : Option Addr) (n c : Nat) (ss : List Lra.Stp) (a' : Option Addr) (n' c' : Nat) (bs : List Int) (w : World) (hn : ss.length = n) (hb : n ≤ 2199023255552) (hs : Steps w a ss) (hn' : bs.length = n') (hB : n' ≤ 6000) (hc' : n' ≤ c') (hm' : c' ≤ 9223372036854775807) (h' : Bts w a' bs) (hT : Tab w.heap.size w) (hmay : ss.all Lra.may = true) (ts : List Lra.Stp) (hts : Bin.Says bs ts []) :
    Calls Tryd.prog 3 #[.slice a n c, .slice a' n' c'] w fun e w' => e = .returned (.bool true) ∧ Below w.heap.size w w' := by
  have C8 := hid (size8 a n c ss w hn (by omega) hs)
  have CW := hid (worksB w)
  have hB' : ¬ (6000 : Int) < n' := by omega
  obtain ⟨q, hq⟩ : ∃ q, (Bin.text ss).length = q := ⟨_, rfl⟩
  have e1 : Bin.out ss = Bin.text ss := by unfold Bin.out; rw [hmay]; rfl
  have e2 : Bin.err ss = 0 := by unfold Bin.err; rw [hmay]; rfl
  have hqo : (Bin.out ss).length = q := by rw [e1]; exact hq
  have C11 := hid (fun (W : World) (hW : Below w.heap.size w W) (h6 : ss.length + Lra.items ss ≤ 6000) => (write11 a n c ss W hn (by omega) (by omega) (hs.below hW)).mono (R' := fun e w' => ∃ o d, e = .returned (.tuple #[.slice o q d, .int .i64 0]) ∧ Bts w' o (Bin.text ss) ∧ q ≤ d ∧ d ≤ 9223372036854775807 ∧ q ≤ 500000 ∧ Below W.heap.size W w' ∧ Below w.heap.size w w') fun e w' r => by
    obtain ⟨o, d, he, hbt, g1, g2, hb'⟩ := r.bts hqo e2
    rw [e1] at hbt
    have := Bin.text_len hmay
    exact ⟨o, d, he, hbt, g1, g2, by omega, hb', hW.trans (hb'.mono hW.size)⟩)
  obtain ⟨TS, hTS⟩ : ∃ TS : ByteArray, (⟨(if ss.all Lra.may then Lra.textB ss else []).toArray⟩ : ByteArray) = TS := ⟨_, rfl⟩
  have C12 := hid (fun (W : World) (hW : Below w.heap.size w W) (h6 : ss.length + Lra.items ss ≤ 6000) => (write12 a n c ss W hn (by omega) (by omega) (hs.below hW) (hT.on hW hW.size)).mono (R' := fun e w' => e = .returned (.tuple #[.string TS, .int .i64 0]) ∧ Below W.heap.size W w' ∧ Below w.heap.size w w') fun e w' q => ⟨by have := q.1; unfold LOut at this; rw [this, hTS, hmay]; rfl, q.2, hW.trans (q.2.mono hW.size)⟩)
  have C14 := hid (fun (W : World) (hW : Below w.heap.size w W) (o : Option Addr) (d : Nat) (hbt : Bts W o (Bin.text ss)) (g1 : q ≤ d) (g2 : d ≤ 9223372036854775807) (g3 : q ≤ 500000) => good14 o q d (Bin.text ss) ss n hq g1 g2 (by omega) (Bin.says_text hmay) hn w W hW hbt)
  have C13 := hid (fun (W : World) (hW : Below w.heap.size w W) (o : Option Addr) (d : Nat) (hS : Steps W o ss) => (same13 a o n c n d ss ss W hn hn (by omega) (by omega) (hs.below hW) hS).mono (R' := fun e w' => e = .returned (.bool true) ∧ Below w.heap.size w w') fun e w' q => ⟨by rw [q.1]; simp, hW.trans (q.2.mono hW.size)⟩)
  obtain ⟨sn, hsn⟩ : ∃ sn, ts.length = sn := ⟨_, rfl⟩
  have hbe : bs = Bin.text ts := by have := hts.eq; simpa using this
  have hsm := hts.small.1
  have f1 : Bin.out ts = bs := by unfold Bin.out; rw [hts.may, hbe]; rfl
  have f2 : Bin.err ts = 0 := by unfold Bin.err; rw [hts.may]; rfl
  have CB := hid (fun (W : World) (hW : Below w.heap.size w W) => good14 a' n' c' bs ts sn hn' hc' hm' (by omega) hts hsn w W hW (h'.below hW))
  have CD := hid (fun (W : World) (hW : Below w.heap.size w W) (o : Option Addr) (d : Nat) (hS : Steps W o ts) => (write11 o sn d ts W hsn (by omega) (by omega) hS).mono (R' := fun e w' => ∃ o d, e = .returned (.tuple #[.slice o n' d, .int .i64 0]) ∧ Bts w' o bs ∧ Below w.heap.size w w') fun e w' r => by
    obtain ⟨o, d, he, hbt, _, _, hb'⟩ := r.bts (q := n') (by rw [f1]; exact hn') f2
    rw [f1] at hbt
    exact ⟨o, d, he, hbt, hW.trans (hb'.mono hW.size)⟩)
  obtain ⟨SB, hSB⟩ : ∃ SB, strOfNums bs = SB := ⟨_, rfl⟩
  have CV := hid (fun (W : World) (o : Option Addr) (d : Nat) (hbt : Bts W o bs) => (show (convert 23 9 (.slice o n' d)).run Tryd.prog W = .ok (.string SB) W by rw [← hSB]; exact to_str W o n' d bs hbt hn'))
  have CVB := hid (fun (W : World) (hW : Below w.heap.size w W) => (show (convert 23 9 (.slice a' n' c')).run Tryd.prog W = .ok (.string SB) W by rw [← hSB]; exact to_str W a' n' c' bs (h'.below hW) hn'))
  have heq : (SB.toList == SB.toList) = true := by simp
  clear hn hb hs hn' hc' hm' h' hT hmay e1 e2 hqo hTS hts hq hsn hbe hsm f1 f2 hSB
  go_enter Tryd.func3, Tryd.ntmps3
  go_wp2_with (first
    | (go_at_call 4; refine C8.out.mono ?_; clear C8; rintro e W1 ⟨⟨z, rfl, hz⟩, hb1⟩; have HB1 := hid hb1; have HZ := hid hz; clear hz hb1; rcases Nat.lt_or_ge 6000 z with h6 | h6 <;> first | have h6' : (6000 : Int) < z := by omega | have h6' : ¬ (6000 : Int) < z := by omega)
    | (go_at_call 6; refine (C11.out _ HB1.out (HZ.out (by omega))).mono ?_; clear C11; rintro e W2 ⟨o2, d2, rfl, hbt, g1, g2, g3, hx2, hb2⟩; have HB2 := hid hb2; have HT2 := hid hbt; have HG := hid (And.intro g1 (And.intro g2 g3)); clear hb2 hx2 hbt g1 g2 g3)
    | (go_at_call 7; refine (C12.out _ HB2.out (HZ.out (by omega))).mono ?_; clear C12; rintro e W3 ⟨rfl, hx3, hb3⟩; have HB3 := hid hb3; have HT3 := hid (HT2.out.below hx3); clear hb3 hx3)
    | (go_at_call 8; refine (C14.out _ HB3.out _ _ HT3.out HG.out.1 HG.out.2.1 HG.out.2.2).mono ?_; clear C14; rintro e W4 ⟨o4, d4, rfl, hs4, _, _, hb4⟩; have HB4 := hid hb4; have HS4 := hid hs4; clear hb4 hs4)
    | (go_at_call 9; refine (C13.out _ HB4.out _ _ HS4.out).mono ?_; clear C13; rintro e W5 ⟨rfl, hb5⟩; have HB5 := hid hb5; clear hb5)
    | (go_at_call 8; refine (CB.out _ HB5.out).mono ?_; clear CB; rintro e W6 ⟨o6, d6, rfl, hs6, _, _, hb6⟩; have HB6 := hid hb6; have HS6 := hid hs6; clear hb6 hs6)
    | (go_at_call 6; refine (CD.out _ HB6.out _ _ HS6.out).mono ?_; clear CD; rintro e W7 ⟨o7, d7, rfl, hbt, hb7⟩; have HB7 := hid hb7
       have cv1 := CV.out W7 o7 d7 hbt
       have cv2 := CVB.out W7 hb7
       clear hb7 hbt CV CVB)
    | (go_at_call 5; refine (CW.out _ (by first | exact HB7.out | exact HB1.out)).mono ?_; rintro e W9 ⟨rfl, hb9⟩; have HB9 := hid hb9; clear hb9))
  all_goals
    go_ret
    exact ⟨rfl, HB9.out⟩

set_option maxRecDepth 100000 in
set_option maxHeartbeats 8000000 in
theorem law3_fbad (a : Option Addr) (n c : Nat) (ss : List Lra.Stp) (a' : Option Addr) (n' c' : Nat) (bs : List Int) (w : World) (hn : ss.length = n) (hb : n ≤ 2199023255552) (hs : Steps w a ss) (hn' : bs.length = n') (hB : n' ≤ 6000) (hc' : n' ≤ c') (hm' : c' ≤ 9223372036854775807) (h' : Bts w a' bs) (hT : Tab w.heap.size w) (hmay : ss.all Lra.may = false) (ts : List Lra.Stp) (rest : List Int) (hts : Bin.Says bs ts rest) (hr : rest ≠ []) :
    Calls Tryd.prog 3 #[.slice a n c, .slice a' n' c'] w fun e w' => e = .returned (.bool true) ∧ Below w.heap.size w w' := by
  have C8 := hid (size8 a n c ss w hn (by omega) hs)
  have CW := hid (worksB w)
  have hB' : ¬ (6000 : Int) < n' := by omega
  have e1 : Bin.out ss = [] := by unfold Bin.out; rw [hmay]; rfl
  have e2 : Bin.err ss = 50 := by unfold Bin.err; rw [hmay]; rfl
  have hqo : (Bin.out ss).length = 0 := by rw [e1]; rfl
  have C11 := hid (fun (W : World) (hW : Below w.heap.size w W) (h6 : ss.length + Lra.items ss ≤ 6000) => (write11 a n c ss W hn (by omega) (by omega) (hs.below hW)).mono (R' := fun e w' => ∃ o d, e = .returned (.tuple #[.slice o 0 d, .int .i64 50]) ∧ Below W.heap.size W w' ∧ Below w.heap.size w w') fun e w' r => by
    obtain ⟨o, d, he, _, _, _, hb'⟩ := r.bts hqo e2
    exact ⟨o, d, he, hb', hW.trans (hb'.mono hW.size)⟩)
  obtain ⟨TS, hTS⟩ : ∃ TS : ByteArray, (⟨(if ss.all Lra.may then Lra.textB ss else []).toArray⟩ : ByteArray) = TS := ⟨_, rfl⟩
  have C12 := hid (fun (W : World) (hW : Below w.heap.size w W) (h6 : ss.length + Lra.items ss ≤ 6000) => (write12 a n c ss W hn (by omega) (by omega) (hs.below hW) (hT.on hW hW.size)).mono (R' := fun e w' => e = .returned (.tuple #[.string TS, .int .i64 40]) ∧ Below W.heap.size W w' ∧ Below w.heap.size w w') fun e w' q => ⟨by have := q.1; unfold LOut at this; rw [this, hTS, hmay]; rfl, q.2, hW.trans (q.2.mono hW.size)⟩)
  obtain ⟨tn, htn⟩ : ∃ tn, (Bin.text ts).length = tn := ⟨_, rfl⟩
  have htl : (tn : Int) < n' := by
    have h1 := hts.small.2
    have h2 : 1 ≤ rest.length := by cases rest with | nil => exact absurd rfl hr | cons x r => simp
    omega
  have ht0 : (0 : Int) ≤ tn := by omega
  have CB := hid (fun (W : World) (hW : Below w.heap.size w W) => bad14 a' n' c' bs ts rest tn hn' hc' hm' (by omega) hts hr htn w W hW (h'.below hW))
  clear hn hb hs hn' hc' hm' h' hT hmay e1 e2 hqo hTS hts hr htn
  go_enter Tryd.func3, Tryd.ntmps3
  go_wp2_with (first
    | (go_at_call 4; refine C8.out.mono ?_; clear C8; rintro e W1 ⟨⟨z, rfl, hz⟩, hb1⟩; have HB1 := hid hb1; have HZ := hid hz; clear hz hb1; rcases Nat.lt_or_ge 6000 z with h6 | h6 <;> first | have h6' : (6000 : Int) < z := by omega | have h6' : ¬ (6000 : Int) < z := by omega)
    | (go_at_call 6; refine (C11.out _ HB1.out (HZ.out (by omega))).mono ?_; clear C11; rintro e W2 ⟨o2, d2, rfl, hx2, hb2⟩; have HB2 := hid hb2; clear hb2 hx2)
    | (go_at_call 7; refine (C12.out _ HB2.out (HZ.out (by omega))).mono ?_; clear C12; rintro e W3 ⟨rfl, hx3, hb3⟩; have HB5 := hid hb3; clear hb3 hx3)
    | (go_at_call 8; refine (CB.out _ HB5.out).mono ?_; clear CB; rintro e W6 ⟨rfl, _, hb6⟩; have HB7 := hid hb6; clear hb6)
    | (go_at_call 5; refine (CW.out _ (by first | exact HB7.out | exact HB1.out)).mono ?_; rintro e W9 ⟨rfl, hb9⟩; have HB9 := hid hb9; clear hb9))
  all_goals
    go_ret
    exact ⟨rfl, HB9.out⟩

set_option maxRecDepth 100000 in
set_option maxHeartbeats 8000000 in
theorem law3_fgood (a : Option Addr) (n c : Nat) (ss : List Lra.Stp) (a' : Option Addr) (n' c' : Nat) (bs : List Int) (w : World) (hn : ss.length = n) (hb : n ≤ 2199023255552) (hs : Steps w a ss) (hn' : bs.length = n') (hB : n' ≤ 6000) (hc' : n' ≤ c') (hm' : c' ≤ 9223372036854775807) (h' : Bts w a' bs) (hT : Tab w.heap.size w) (hmay : ss.all Lra.may = false) (ts : List Lra.Stp) (hts : Bin.Says bs ts []) :
    Calls Tryd.prog 3 #[.slice a n c, .slice a' n' c'] w fun e w' => e = .returned (.bool true) ∧ Below w.heap.size w w' := by
  have C8 := hid (size8 a n c ss w hn (by omega) hs)
  have CW := hid (worksB w)
  have hB' : ¬ (6000 : Int) < n' := by omega
  have e1 : Bin.out ss = [] := by unfold Bin.out; rw [hmay]; rfl
  have e2 : Bin.err ss = 50 := by unfold Bin.err; rw [hmay]; rfl
  have hqo : (Bin.out ss).length = 0 := by rw [e1]; rfl
  have C11 := hid (fun (W : World) (hW : Below w.heap.size w W) (h6 : ss.length + Lra.items ss ≤ 6000) => (write11 a n c ss W hn (by omega) (by omega) (hs.below hW)).mono (R' := fun e w' => ∃ o d, e = .returned (.tuple #[.slice o 0 d, .int .i64 50]) ∧ Below W.heap.size W w' ∧ Below w.heap.size w w') fun e w' r => by
    obtain ⟨o, d, he, _, _, _, hb'⟩ := r.bts hqo e2
    exact ⟨o, d, he, hb', hW.trans (hb'.mono hW.size)⟩)
  obtain ⟨TS, hTS⟩ : ∃ TS : ByteArray, (⟨(if ss.all Lra.may then Lra.textB ss else []).toArray⟩ : ByteArray) = TS := ⟨_, rfl⟩
  have C12 := hid (fun (W : World) (hW : Below w.heap.size w W) (h6 : ss.length + Lra.items ss ≤ 6000) => (write12 a n c ss W hn (by omega) (by omega) (hs.below hW) (hT.on hW hW.size)).mono (R' := fun e w' => e = .returned (.tuple #[.string TS, .int .i64 40]) ∧ Below W.heap.size W w' ∧ Below w.heap.size w w') fun e w' q => ⟨by have := q.1; unfold LOut at this; rw [this, hTS, hmay]; rfl, q.2, hW.trans (q.2.mono hW.size)⟩)
  obtain ⟨sn, hsn⟩ : ∃ sn, ts.length = sn := ⟨_, rfl⟩
  have hbe : bs = Bin.text ts := by have := hts.eq; simpa using this
  have hsm := hts.small.1
  have f1 : Bin.out ts = bs := by unfold Bin.out; rw [hts.may, hbe]; rfl
  have f2 : Bin.err ts = 0 := by unfold Bin.err; rw [hts.may]; rfl
  have CB := hid (fun (W : World) (hW : Below w.heap.size w W) => good14 a' n' c' bs ts sn hn' hc' hm' (by omega) hts hsn w W hW (h'.below hW))
  have CD := hid (fun (W : World) (hW : Below w.heap.size w W) (o : Option Addr) (d : Nat) (hS : Steps W o ts) => (write11 o sn d ts W hsn (by omega) (by omega) hS).mono (R' := fun e w' => ∃ o d, e = .returned (.tuple #[.slice o n' d, .int .i64 0]) ∧ Bts w' o bs ∧ Below w.heap.size w w') fun e w' r => by
    obtain ⟨o, d, he, hbt, _, _, hb'⟩ := r.bts (q := n') (by rw [f1]; exact hn') f2
    rw [f1] at hbt
    exact ⟨o, d, he, hbt, hW.trans (hb'.mono hW.size)⟩)
  obtain ⟨SB, hSB⟩ : ∃ SB, strOfNums bs = SB := ⟨_, rfl⟩
  have CV := hid (fun (W : World) (o : Option Addr) (d : Nat) (hbt : Bts W o bs) => (show (convert 23 9 (.slice o n' d)).run Tryd.prog W = .ok (.string SB) W by rw [← hSB]; exact to_str W o n' d bs hbt hn'))
  have CVB := hid (fun (W : World) (hW : Below w.heap.size w W) => (show (convert 23 9 (.slice a' n' c')).run Tryd.prog W = .ok (.string SB) W by rw [← hSB]; exact to_str W a' n' c' bs (h'.below hW) hn'))
  have heq : (SB.toList == SB.toList) = true := by simp
  clear hn hb hs hn' hc' hm' h' hT hmay e1 e2 hqo hTS hts hsn hbe hsm f1 f2 hSB
  go_enter Tryd.func3, Tryd.ntmps3
  go_wp2_with (first
    | (go_at_call 4; refine C8.out.mono ?_; clear C8; rintro e W1 ⟨⟨z, rfl, hz⟩, hb1⟩; have HB1 := hid hb1; have HZ := hid hz; clear hz hb1; rcases Nat.lt_or_ge 6000 z with h6 | h6 <;> first | have h6' : (6000 : Int) < z := by omega | have h6' : ¬ (6000 : Int) < z := by omega)
    | (go_at_call 6; refine (C11.out _ HB1.out (HZ.out (by omega))).mono ?_; clear C11; rintro e W2 ⟨o2, d2, rfl, hx2, hb2⟩; have HB2 := hid hb2; clear hb2 hx2)
    | (go_at_call 7; refine (C12.out _ HB2.out (HZ.out (by omega))).mono ?_; clear C12; rintro e W3 ⟨rfl, hx3, hb3⟩; have HB5 := hid hb3; clear hb3 hx3)
    | (go_at_call 8; refine (CB.out _ HB5.out).mono ?_; clear CB; rintro e W6 ⟨o6, d6, rfl, hs6, _, _, hb6⟩; have HB6 := hid hb6; have HS6 := hid hs6; clear hb6 hs6)
    | (go_at_call 6; refine (CD.out _ HB6.out _ _ HS6.out).mono ?_; clear CD; rintro e W7 ⟨o7, d7, rfl, hbt, hb7⟩; have HB7 := hid hb7
       have cv1 := CV.out W7 o7 d7 hbt
       have cv2 := CVB.out W7 hb7
       clear hb7 hbt CV CVB)
    | (go_at_call 5; refine (CW.out _ (by first | exact HB7.out | exact HB1.out)).mono ?_; rintro e W9 ⟨rfl, hb9⟩; have HB9 := hid hb9; clear hb9))
  all_goals
    go_ret
    exact ⟨rfl, HB9.out⟩

set_option maxRecDepth 100000 in
set_option maxHeartbeats 8000000 in
theorem law3_long (a : Option Addr) (n c : Nat) (ss : List Lra.Stp) (a' : Option Addr) (n' c' : Nat) (w : World) (hn : ss.length = n) (hb : n ≤ 2199023255552) (hs : Steps w a ss) (hB : ¬ n' ≤ 6000) :
    Calls Tryd.prog 3 #[.slice a n c, .slice a' n' c'] w fun e w' => e = .returned (.bool true) ∧ Below w.heap.size w w' := by
  have C8 := hid (size8 a n c ss w hn (by omega) hs)
  have CW := hid (worksB w)
  have hB' : (6000 : Int) < n' := by omega
  clear hn hb hs
  go_enter Tryd.func3, Tryd.ntmps3
  go_wp2_with (first
    | (go_at_call 4; refine C8.out.mono ?_; clear C8; rintro e W1 ⟨⟨z, rfl, hz⟩, hb1⟩; have HB1 := hid hb1; clear hz hb1; rcases Nat.lt_or_ge 6000 z with h6 | h6 <;> first | have h6' : (6000 : Int) < z := by omega | have h6' : ¬ (6000 : Int) < z := by omega)
    | (go_at_call 5; refine (CW.out _ HB1.out).mono ?_; rintro e W9 ⟨rfl, hb9⟩; have HB9 := hid hb9; clear hb9))
  all_goals
    go_ret
    exact ⟨rfl, HB9.out⟩
theorem law3 (a : Option Addr) (n c : Nat) (ss : List Lra.Stp) (a' : Option Addr) (n' c' : Nat) (bs : List Int) (w : World) (hn : ss.length = n) (hb : n ≤ 2199023255552) (hs : Steps w a ss) (hn' : bs.length = n') (hc' : n' ≤ c') (hm' : c' ≤ 9223372036854775807) (h' : Bts w a' bs) (hT : Tab w.heap.size w) :
    Calls Tryd.prog 3 #[.slice a n c, .slice a' n' c'] w fun e w' => e = .returned (.bool true) ∧ Below w.heap.size w w' := by
  by_cases hB : n' ≤ 6000
  · obtain ⟨ts, rest, hts⟩ := Bin.says_ex _ bs (Nat.le_refl _) h'.byt
    cases hmay : ss.all Lra.may
    · by_cases hr : rest = []
      · subst hr
        exact law3_fgood a n c ss a' n' c' bs w hn hb hs hn' hB hc' hm' h' hT hmay ts hts
      · exact law3_fbad a n c ss a' n' c' bs w hn hb hs hn' hB hc' hm' h' hT hmay ts rest hts hr
    · by_cases hr : rest = []
      · subst hr
        exact law3_tgood a n c ss a' n' c' bs w hn hb hs hn' hB hc' hm' h' hT hmay ts hts
      · exact law3_tbad a n c ss a' n' c' bs w hn hb hs hn' hB hc' hm' h' hT hmay ts rest hts hr
  · exact law3_long a n c ss a' n' c' w hn hb hs hB
end Go.Proofs.YtmgeoeajnpnadaaDoor
