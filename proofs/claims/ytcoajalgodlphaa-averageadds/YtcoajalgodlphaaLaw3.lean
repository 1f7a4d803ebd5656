/- The law of adding: an average has the document's values. -/
import Derived.Test.YtcoajalgodlphaaAdr
import Derived.Test.YtcoajalgodlphaaLaw5
namespace Go.Proofs.Ytcoajalgodlphaa
open Go.RowKit Go.Maps Av
set_option linter.unusedVariables false
set_option linter.unusedSimpArgs false
set_option maxRecDepth 100000

theorem long3 {s : Int} {W : World} {a : Option Addr} {n c : Nat} (h : 1000 < n) :
    Calls Try.prog 3 #[.int .i64 s, .slice a n c] W fun e w' => e = .returned (.bool true) ∧ Below W.heap.size W w' := by
  have C := hid (works9 W)
  have hI : (1000 : Int) < n := by omega
  go_enter Try.func3, Try.ntmps3
  go_wp2_with (go_at_call 9; refine C.out.mono ?_; rintro e w7 ⟨rfl, b7⟩)
  go_ret
  exact ⟨rfl, b7⟩
set_option maxHeartbeats 4000000 in
theorem nil3 {s : Int} {W : World} {a : Option Addr} {n c : Nat} (h : n ≤ 1000) (hs : s < 0 ∨ 30 < s) :
    Calls Try.prog 3 #[.int .i64 s, .slice a n c] W fun e w' => e = .returned (.bool true) ∧ Below W.heap.size W w' := by
  have C := hid (works9 W)
  have C10 := hid (new10_no s W hs)
  have C11 := hid (new11_no s W hs)
  have hI : ¬ (1000 : Int) < n := by omega
  have hnJ : (n : Int) ≤ 1000 := by omega
  clear hs
  go_enter Try.func3, Try.ntmps3
  go_wp2_with (first
    | (go_at_call 10; refine C10.out.mono ?_; rintro e w7 ⟨rfl, hw7⟩; rw [hw7]; clear hw7)
    | (go_at_call 11; refine C11.out.mono ?_; rintro e w7 ⟨rfl, hw7⟩; rw [hw7]; clear hw7))
  go_loop [9] (fun iv => iv = .int .i64 0) (fun iv => 0)
  case atStart => rfl
  case round =>
    subst hrel
    by_cases h0 : (0 : Int) < n
    · go_wp2_with (go_at_call 9; refine C.out.mono ?_; rintro e w8 ⟨rfl, b8⟩)
      go_ret
      exact ⟨rfl, b8⟩
    · go_wp2_with (go_at_call 9; refine C.out.mono ?_; rintro e w8 ⟨rfl, b8⟩)
      go_ret
      exact ⟨rfl, b8⟩
/-- Both averages. -/
structure Tw3 (b b2 s : Nat) (v : Int) (k : Nat) (W wr : World) : Prop where
  am : Am 57 b s v k wr
  dm : Am 34 b2 s v k wr
  ne : b < b2
  bel : Below b W wr
  sz : b ≤ wr.heap.size
theorem Tw3.below {b b2 s : Nat} {v : Int} {k : Nat} {W wr w' : World} (H : Tw3 b b2 s v k W wr) (h : Below wr.heap.size wr w') : Tw3 b b2 s v k W w' :=
  ⟨H.am.below h, H.dm.below h, H.ne, H.bel.trans (h.mono H.sz), Nat.le_trans H.sz h.size⟩
/-- Between the two calls. -/
structure Mid3 (b b2 s : Nat) (v v' : Int) (k k' : Nat) (W wr : World) : Prop where
  am : Am 57 b s v' k' wr
  dm : Am 34 b2 s v k wr
  ne : b < b2
  bel : Below b W wr
  sz : b ≤ wr.heap.size
set_option maxHeartbeats 8000000 in
theorem law3_ok {s : Nat} {W : World} {a : Option Addr} {l : List Int} {c : Nat} (h : l.length ≤ 1000) (hs : s ≤ 30) (hI : Iw W a l) :
    Calls Try.prog 3 #[.int .i64 (s : Int), .slice a l.length c] W fun e w' => e = .returned (.bool true) ∧ Below W.heap.size W w' := by
  have C10 := hid (new10_ok s W hs)
  have C11 := hid (fun (w : World) => new11_ok s w hs)
  have HI := hid hI
  have hsh : Hid (l.length = 0) ∨ ∃ gb off, a = some ⟨gb, off, none⟩ := by
    rcases hI with rfl | ⟨gb, off, e, _⟩
    · exact .inl rfl
    · exact .inr ⟨gb, off, e⟩
  obtain ⟨n, hn⟩ : ∃ n, l.length = n := ⟨_, rfl⟩
  have HN := hid hn
  rw [hn] at h hsh ⊢
  have hnI : ¬ (1000 : Int) < n := by omega
  have hnJ : (n : Int) ≤ 1000 := by omega
  have HS := hid hs
  obtain ⟨sI, hsI⟩ : ∃ sI : Int, (s : Int) = sI := ⟨_, rfl⟩
  rw [hsI] at C10 C11 ⊢
  clear hI hs hn hsI
  rcases hsh with Z | ⟨gb, off, rfl⟩
  all_goals
    go_enter Try.func3, Try.ntmps3
    go_wp2_with (fail)
    go_at_call 10
    refine C10.out.mono ?_
    rintro e w1 ⟨rfl, a1, b1⟩
    have D11 := hid (C11.out w1)
    have hne := lt_of_blk a1.blk
    obtain ⟨b, hb⟩ : ∃ b, W.heap.size = b := ⟨_, rfl⟩
    obtain ⟨b2, hb2⟩ : ∃ b2, w1.heap.size = b2 := ⟨_, rfl⟩
    rw [hb2] at D11 hne
    rw [hb] at a1 b1 hne ⊢
    have H1 := hid (show Am 57 b s 0 0 w1 ∧ b < b2 ∧ Below b W w1 from ⟨a1, hne, b1⟩)
    have HB := hid hb
    have HB2 := hid hb2
    clear C10 C11 a1 b1 hne hb hb2
    go_wp2_with (fail)
    go_at_call 11
    refine D11.out.mono ?_
    rintro e w2 ⟨rfl, a2, b2'⟩
    have H2 := hid (show Tw3 b b2 s 0 0 W w2 from ⟨H1.out.1.below (HB2.out.symm ▸ b2'), a2, H1.out.2.1, H1.out.2.2.trans ((HB2.out.symm ▸ b2').mono (by have := H1.out.2.1; have := HB2.out; omega)), by have := b2'.size; have := HB2.out; have := H1.out.2.1; omega⟩)
    clear D11 a2 b2' H1
    go_wp2_with (fail)
    go_loopw [9] (fun iv wr => ∃ (i : Nat) (v : Int) (k : Nat), i ≤ n ∧ iv = .int .i64 (i : Int) ∧ Hid (Tw3 b b2 s v k W wr ∧ Ok s v k ∧ k ≤ i)) (fun iv _ => n - (intOf iv).toNat)
    case atStart => exact ⟨0, 0, 0, Nat.zero_le _, rfl, hid ⟨H2.out, ok0 HS.out, Nat.le_refl _⟩⟩
    case round =>
      obtain ⟨i, v, k, hin, rfl, HR⟩ := hrel
      by_cases hlt : i < n
      · first
        | (exfalso; have := Z.out; omega)
        | (have hx := cell_iw HI.out HN.out hlt HB.out HR.out.1.bel
           obtain ⟨y, hyl⟩ : ∃ y, l.getD i 0 = y := ⟨_, rfl⟩
           rw [hyl] at hx
           have hltI : (i : Int) < n := by omega
           have hwi : wrap64 ((i : Int) + 1) = (i : Int) + 1 := by unfold wrap64; omega
           have HCE := hid (fun (X : World) (hX : Below b W X) => show X.cell? ⟨gb, off + i, none⟩ = some (.int .i64 y) from hyl ▸ cell_iw HI.out HN.out hlt HB.out hX)
           by_cases hxr : y < 0 ∨ 1073741824 < y
           · have C12 := hid (fun (q : Nat) => add12_no (b := b) (wr.drewN q) hxr)
             have C13 := hid (fun (q : Nat) => add13_no (b := b2) (wr.drewN q) hxr)
             clear hxr
             go_wp2_with (fail)
             go_quiet ((first | (go_at_call 12; exact Calls.quiet_of_same (C12.out _)) | (go_at_call 13; exact Calls.quiet_of_same (C13.out _))))
             have H5 := hid (HR.out.1.below (Drawn.below (w := wr) ⟨nq, rfl⟩))
             have c51 := row_cell H5.out.dm.blk 1
             have c52 := row_cell H5.out.dm.blk 2
             generalize wr.drewN nq = w5 at *
             have C14 := hid (fun (q : Nat) => value14 (H5.out.am.below (Drawn.below (w := w5) ⟨q, rfl⟩)))
             have C15 := hid (fun (q : Nat) => count15 (H5.out.am.below (Drawn.below (w := w5) ⟨q, rfl⟩)))
             clear hx C12 C13
             go_wp2_with (fail)
             go_quiet ((first | (go_at_call 14; exact Calls.quiet_of_same (C14.out _)) | (go_at_call 15; exact Calls.quiet_of_same (C15.out _))))
             go_wp2
             go_roundw
             case rel => exact ⟨i + 1, v, k, hlt, by go_num, hid ⟨H5.out.below (Drawn.below ⟨_, rfl⟩), HR.out.2.1, Nat.le_succ_of_le HR.out.2.2⟩⟩
             case measure => simp [intOf]; omega
           · have hy0 : 0 ≤ y := by omega
             have hy1 : y ≤ 1073741824 := by omega
             have HO := hid (HR.out.2.1.add (x := y) hy0 hy1 (by have := HR.out.2.2; omega))
             have C12 := hid (fun (w : World) (hw : Drawn wr w) => add12_ok (HR.out.1.am.below hw.below) HR.out.2.1 (x := y) hy0 hy1)
             have C13 := hid (fun (w : World) (hw : Mid3 b b2 s v (avV s (k + 1) v y) k (k + 1) W w) => add13_ok hw.dm HR.out.2.1 (x := y) hy0 hy1)
             have M1 := hid (fun (w w' : World) (hw : Drawn wr w) (h1 : Am 57 b s (avV s (k + 1) v y) (k + 1) w') (h2 : Fq (fun g => g ≠ b) w w') => show Mid3 b b2 s v (avV s (k + 1) v y) k (k + 1) W w' from by
               have H5 := HR.out.1.below hw.below
               exact ⟨h1, H5.dm.keep h2 (by have := H5.ne; omega), H5.ne, H5.bel.trans (h2.bel H5.sz (Nat.le_refl _)), Nat.le_trans H5.sz h2.size⟩)
             have M2 := hid (fun (w w' : World) (hw : Mid3 b b2 s v (avV s (k + 1) v y) k (k + 1) W w) (h1 : Am 34 b2 s (avV s (k + 1) v y) (k + 1) w') (h2 : Fq (fun g => g ≠ b2) w w') => show Tw3 b b2 s (avV s (k + 1) v y) (k + 1) W w' from
               ⟨hw.am.keep h2 (by have := hw.ne; omega), h1, hw.ne, hw.bel.trans (h2.bel hw.sz (by have := hw.ne; omega)), Nat.le_trans hw.sz h2.size⟩)
             have HX := hid (fun (X : World) (hX : Drawn wr X) => HCE.out X (HR.out.1.bel.trans (hX.below.mono HR.out.1.sz)))
             generalize avV s (k + 1) v y = u at *
             clear hxr hy0 hy1
             go_wp2_with (fail)
             clear hx
             go_region_held3 (fun X => X.cell? ⟨gb, off + i, none⟩ = some (.int .i64 y))
               (first | exact HX.out _ ((Drawn.refl wr).drewN 1) | exact HCE.out _ HB5.out.bel | exact HCE.out _ HB6.out.bel)
               (first
                 | (go_at_call 12; refine (C12.out _ ((Drawn.refl wr).drewN 1)).mono ?_; rintro e w5 ⟨rfl, a5, f5⟩; have HB5 := hid (M1.out _ w5 ((Drawn.refl wr).drewN 1) a5 f5); clear C12 a5 f5)
                 | (go_at_call 13; refine (C13.out _ HB5.out).mono ?_; rintro e w6 ⟨rfl, a6, f6⟩; have HB6 := hid (M2.out _ w6 HB5.out a6 f6); clear C13 a6 f6))
             all_goals
               have c51 := row_cell HB6.out.dm.blk 1
               have c52 := row_cell HB6.out.dm.blk 2
               have C14 := hid (fun (q : Nat) => value14 (HB6.out.am.below (Drawn.below (w := w6) ⟨q, rfl⟩)))
               have C15 := hid (fun (q : Nat) => count15 (HB6.out.am.below (Drawn.below (w := w6) ⟨q, rfl⟩)))
               go_wp2_with (fail)
               go_quiet ((first | (go_at_call 14; exact Calls.quiet_of_same (C14.out _)) | (go_at_call 15; exact Calls.quiet_of_same (C15.out _))))
               go_wp2
               go_roundw
               case rel => exact ⟨i + 1, u, k + 1, hlt, by go_num, hid ⟨HB6.out.below (Drawn.below ⟨_, rfl⟩), HO.out, Nat.succ_le_succ HR.out.2.2⟩⟩
               case measure => simp [intOf]; omega)
      · have hltI : ¬ (i : Int) < n := by omega
        have C9 := hid (works9 wr)
        go_wp2_with (go_at_call 9; refine C9.out.mono ?_; rintro e w8 ⟨rfl, b8⟩)
        go_ret
        exact ⟨rfl, bfin HB.out (HR.out.1.bel.trans (b8.mono HR.out.1.sz))⟩
theorem law3 {s : Int} {W : World} {a : Option Addr} {l : List Int} {c : Nat} (hI : Iw W a l) :
    Calls Try.prog 3 #[.int .i64 s, .slice a l.length c] W fun e w' => e = .returned (.bool true) ∧ Below W.heap.size W w' := by
  by_cases h : l.length ≤ 1000
  · by_cases hs : s < 0 ∨ 30 < s
    · exact nil3 h hs
    · obtain ⟨n, rfl⟩ : ∃ n : Nat, s = n := ⟨s.toNat, by omega⟩
      exact law3_ok h (by omega) hI
  · exact long3 (by omega)
end Go.Proofs.Ytcoajalgodlphaa
