/- The law of bells. -/
import Derived.Test.YtcoajalgodlphaaBel
import Derived.Test.YtcoajalgodlphaaLaw8
namespace Go.Proofs.Ytcoajalgodlphaa
open Go.RowKit Go.Maps Av
set_option linter.unusedVariables false
set_option linter.unusedSimpArgs false
set_option maxRecDepth 100000

theorem rem_facts {t : Int} (h0 : 0 ≤ t) : ∃ N : Nat, N < 5000 ∧ t % 5000 = (N : Int) ∧ t.tmod 5000 = (N : Int) ∧ IntKind.i64.wrap (N : Int) = (N : Int) := by
  refine ⟨(t % 5000).toNat, by omega, by omega, ?_, ?_⟩
  · rw [Int.tmod_eq_emod_of_nonneg h0]; omega
  · rw [IntKind.wrap_i64]; omega
set_option maxHeartbeats 4000000 in
theorem nil7 {p t : Int} {W : World} (ht : 0 ≤ t ∧ t ≤ 65535) (h : p < 1 ∨ 2147483647 < p) :
    Calls Try.prog 7 #[.int .i64 p, .int .u16 t] W fun e w' => e = .returned (.bool true) ∧ Below W.heap.size W w' := by
  have C := hid (works9 W)
  have C22 := hid (bnew22_no p W h)
  have C23 := hid (bnew23_no p W h)
  obtain ⟨N, n1, n2, n3, n4⟩ := rem_facts ht.1
  clear h ht
  go_enter Try.func7, Try.ntmps7
  go_wp2_with (first
    | (go_at_call 22; refine C22.out.mono ?_; rintro e w7 ⟨rfl, hw7⟩; rw [hw7]; clear hw7)
    | (go_at_call 23; refine C23.out.mono ?_; rintro e w7 ⟨rfl, hw7⟩; rw [hw7]; clear hw7))
  go_loop [9] (fun iv => iv = .int .i64 0) (fun iv => 0)
  case atStart => rfl
  case round =>
    subst hrel
    by_cases h0 : 0 < N
    · have h0I : (0 : Int) < N := by omega
      go_wp2_with (go_at_call 9; refine C.out.mono ?_; rintro e w8 ⟨rfl, b8⟩)
      go_ret
      exact ⟨rfl, b8⟩
    · have h0I : ¬ (0 : Int) < N := by omega
      go_wp2_with (go_at_call 9; refine C.out.mono ?_; rintro e w8 ⟨rfl, b8⟩)
      go_ret
      exact ⟨rfl, b8⟩
/-- Both bells. -/
structure Bb (b b2 p r l n : Nat) (W wr : World) : Prop where
  pb : Bl 72 b p r l wr
  db : Bl 54 b2 p n r wr
  ne : b < b2
  bel : Below b W wr
  sz : b ≤ wr.heap.size
  sum : l + n = p * lby r
  lt : n < p * lby r
  r1 : 1 ≤ r
theorem Bb.toP {b b2 p r l n : Nat} {W wr w' : World} (H : Bb b b2 p r l n W wr) (f : Fq (fun g => g ≠ b) wr w') : Bl 54 b2 p n r w' ∧ Below b W w' ∧ b ≤ w'.heap.size :=
  ⟨H.db.keep f (by have := H.ne; omega), H.bel.trans (f.below H.sz (fun g hg e => by omega)), Nat.le_trans H.sz f.size⟩
set_option maxHeartbeats 8000000 in
theorem law7_ok {p : Nat} {t : Int} {W : World} (ht : 0 ≤ t ∧ t ≤ 65535) (h : 1 ≤ p) (hp : p ≤ 2147483647) :
    Calls Try.prog 7 #[.int .i64 (p : Int), .int .u16 t] W fun e w' => e = .returned (.bool true) ∧ Below W.heap.size W w' := by
  have C22 := hid (bnew22_ok p W h hp)
  have C23 := hid (fun (w : World) => bnew23_ok p w h hp)
  obtain ⟨N, n1, n2, n3, n4⟩ := rem_facts ht.1
  have HN := hid n1
  have HP := hid (And.intro h hp)
  obtain ⟨pI, hpI⟩ : ∃ pI : Int, (p : Int) = pI := ⟨_, rfl⟩
  rw [hpI] at C22 C23 ⊢
  clear h hp ht hpI n1
  go_enter Try.func7, Try.ntmps7
  go_wp2_with (fail)
  go_at_call 22
  refine C22.out.mono ?_
  rintro e w1 ⟨rfl, a1, b1⟩
  have D23 := hid (C23.out w1)
  have hne := lt_of_blk a1.blk
  obtain ⟨b, hb⟩ : ∃ b, W.heap.size = b := ⟨_, rfl⟩
  obtain ⟨b2, hb2⟩ : ∃ b2, w1.heap.size = b2 := ⟨_, rfl⟩
  rw [hb2] at D23 hne
  rw [hb] at a1 b1 hne ⊢
  have H1 := hid (show Bl 72 b p 1 p w1 ∧ b < b2 ∧ Below b W w1 from ⟨a1, hne, b1⟩)
  have HB := hid hb
  have HB2 := hid hb2
  clear C22 C23 a1 b1 hne hb hb2
  go_wp2_with (fail)
  go_at_call 23
  refine D23.out.mono ?_
  rintro e w2 ⟨rfl, a2, b2'⟩
  have H2 := hid (show Bb b b2 p 1 p 0 W w2 from ⟨H1.out.1.below (HB2.out.symm ▸ b2'), a2, H1.out.2.1, H1.out.2.2.trans ((HB2.out.symm ▸ b2').mono (by have := H1.out.2.1; have := HB2.out; omega)), by have := b2'.size; have := HB2.out; have := H1.out.2.1; omega, by rw [show lby 1 = 1 from by decide]; omega, by rw [show lby 1 = 1 from by decide]; have := HP.out.1; omega, by omega⟩)
  clear D23 a2 b2' H1
  go_wp2_with (fail)
  go_loopw [9] (fun iv wr => ∃ (i r l n : Nat), i ≤ N ∧ iv = .int .i64 (i : Int) ∧ Hid (Bb b b2 p r l n W wr ∧ r ≤ i + 1)) (fun iv _ => N - (intOf iv).toNat)
  case atStart => exact ⟨0, 1, p, 0, Nat.zero_le _, rfl, hid ⟨H2.out, by omega⟩⟩
  case round =>
    obtain ⟨i, r, l, n, hin, rfl, HR⟩ := hrel
    by_cases hlt : i < N
    · have hltI : (i : Int) < N := by omega
      have hwi : wrap64 ((i : Int) + 1) = (i : Int) + 1 := by have := HN.out; unfold wrap64; omega
      have hsum := HR.out.1.sum
      have hl := HR.out.1.lt
      have hr1 := HR.out.1.r1
      have hr2 := HR.out.2
      have hbd := bell_bd HP.out.2 hr1 (by have := HN.out; omega)
      by_cases hc : n + 1 < p * lby r
      · have C24 := hid (tick24_no HR.out.1.pb (by omega) (by omega))
        have C25 := hid (fun (w : World) (f : Fq (fun g => g ≠ b) wr w) => tick25_no (HR.out.1.toP f).1 HP.out.2 hr1 (by have := HN.out; omega) hc)
        have HS2 := hid (show l - 1 + (n + 1) = p * lby r ∧ n + 1 < p * lby r by omega)
        clear hsum hl hr1 hr2 hbd hc
        go_wp2_with (fail)
        go_at_call 24
        refine C24.out.mono ?_
        rintro e w5 ⟨rfl, p5, f5⟩
        have D25 := hid (C25.out w5 f5)
        have H5 := hid (show Bl 72 b p r (l - 1) w5 ∧ Fq (fun g => g ≠ b) wr w5 from ⟨p5, f5⟩)
        clear C24 C25 p5 f5
        go_wp2_with (fail)
        go_at_call 25
        refine D25.out.mono ?_
        rintro e w6 ⟨rfl, d6, f6⟩
        have H6 := hid (show Bb b b2 p r (l - 1) (n + 1) W w6 from by
          have h5 := HR.out.1.toP H5.out.2
          have hne := HR.out.1.ne
          exact ⟨H5.out.1.keep f6 (by omega), d6, hne, h5.2.1.trans (f6.below h5.2.2 (fun g hg e => by omega)), Nat.le_trans h5.2.2 f6.size, HS2.out.1, HS2.out.2, HR.out.1.r1⟩)
        have C26 := hid (fun (q : Nat) => round26 (H6.out.pb.below (Drawn.below ⟨q, rfl⟩)))
        have c2 := row_cell H6.out.db.blk 2
        clear D25 d6 f6
        go_wp2_with (fail)
        go_quiet ((go_at_call 26; exact Calls.quiet_of_same (C26.out _)))
        go_wp2
        go_roundw
        case rel => exact ⟨i + 1, r, l - 1, n + 1, hlt, by go_num, hid ⟨⟨H6.out.pb.below (Drawn.below ⟨_, rfl⟩), H6.out.db.below (Drawn.below ⟨_, rfl⟩), H6.out.ne, H6.out.bel.trans ((Drawn.below ⟨_, rfl⟩).mono H6.out.sz), H6.out.sz, H6.out.sum, H6.out.lt, H6.out.r1⟩, Nat.le_succ_of_le HR.out.2⟩⟩
        case measure => simp [intOf]; omega
      · have hc2 : n + 1 = p * lby r := by omega
        obtain rfl : l = 1 := by omega
        have C24 := hid (tick24_yes HR.out.1.pb HP.out.2 (by have := HN.out; omega))
        have C25 := hid (fun (w : World) (f : Fq (fun g => g ≠ b) wr w) => tick25_yes (HR.out.1.toP f).1 HP.out.2 hr1 (by have := HN.out; omega) hc2)
        have HS2 := hid (show p * lby (r + 1) + 0 = p * lby (r + 1) ∧ 0 < p * lby (r + 1) from ⟨rfl, Nat.mul_pos HP.out.1 (lby_bd (by omega)).1⟩)
        clear hsum hl hr1 hr2 hbd hc hc2
        go_wp2_with (fail)
        go_at_call 24
        refine C24.out.mono ?_
        rintro e w5 ⟨rfl, p5, f5⟩
        have D25 := hid (C25.out w5 f5)
        have H5 := hid (show Bl 72 b p (r + 1) (p * lby (r + 1)) w5 ∧ Fq (fun g => g ≠ b) wr w5 from ⟨p5, f5⟩)
        clear C24 C25 p5 f5
        go_wp2_with (fail)
        go_at_call 25
        refine D25.out.mono ?_
        rintro e w6 ⟨rfl, d6, f6⟩
        have H6 := hid (show Bb b b2 p (r + 1) (p * lby (r + 1)) 0 W w6 from by
          have h5 := HR.out.1.toP H5.out.2
          have hne := HR.out.1.ne
          exact ⟨H5.out.1.keep f6 (by omega), d6, hne, h5.2.1.trans (f6.below h5.2.2 (fun g hg e => by omega)), Nat.le_trans h5.2.2 f6.size, HS2.out.1, HS2.out.2, by omega⟩)
        have C26 := hid (fun (q : Nat) => round26 (H6.out.pb.below (Drawn.below ⟨q, rfl⟩)))
        have c2 := row_cell H6.out.db.blk 2
        clear D25 d6 f6
        go_wp2_with (fail)
        go_quiet ((go_at_call 26; exact Calls.quiet_of_same (C26.out _)))
        go_wp2
        go_roundw
        case rel => exact ⟨i + 1, r + 1, p * lby (r + 1), 0, hlt, by go_num, hid ⟨⟨H6.out.pb.below (Drawn.below ⟨_, rfl⟩), H6.out.db.below (Drawn.below ⟨_, rfl⟩), H6.out.ne, H6.out.bel.trans ((Drawn.below ⟨_, rfl⟩).mono H6.out.sz), H6.out.sz, H6.out.sum, H6.out.lt, H6.out.r1⟩, Nat.succ_le_succ HR.out.2⟩⟩
        case measure => simp [intOf]; omega
    · have hltI : ¬ (i : Int) < N := by omega
      have C9 := hid (works9 wr)
      go_wp2_with (go_at_call 9; refine C9.out.mono ?_; rintro e w8 ⟨rfl, b8⟩)
      go_ret
      exact ⟨rfl, bfin HB.out (HR.out.1.bel.trans (b8.mono HR.out.1.sz))⟩
theorem law7 {p t : Int} {W : World} (ht : 0 ≤ t ∧ t ≤ 65535) :
    Calls Try.prog 7 #[.int .i64 p, .int .u16 t] W fun e w' => e = .returned (.bool true) ∧ Below W.heap.size W w' := by
  by_cases h : p < 1 ∨ 2147483647 < p
  · exact nil7 ht h
  · obtain ⟨n, rfl⟩ : ∃ n : Nat, p = n := ⟨p.toNat, by omega⟩
    exact law7_ok ht (by omega) (by omega)
end Go.Proofs.Ytcoajalgodlphaa
