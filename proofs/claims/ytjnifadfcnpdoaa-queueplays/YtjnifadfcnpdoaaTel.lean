/- tells: a queue tells what the document's does. -/
import Derived.Test.YtjnifadfcnpdoaaDj
namespace Go.Proofs.Ytjnifadfcnpdoaa
open Go.RowKit Go.Maps
set_option linter.unusedVariables false
set_option linter.unusedSimpArgs false
set_option maxRecDepth 100000
theorem meas0 {k t : Nat} (h : k ≤ t) : t + 1 - ((k : Int) + 1).toNat < t + 1 - (k : Int).toNat := by omega
theorem inn_iw {W : World} {base n : Nat} {o : Option Addr} {c : Nat} {L : List Nat} (h : W.ownsRow base 3 1 (.slice o n c) n (inn L)) (hn : L.length = n) : Iw W o (L.map (fun v : Nat => (v : Int))) := by
  rcases Nat.eq_zero_or_pos n with h0 | h0
  · exact .inl (by have : L = [] := List.eq_nil_of_length_eq_zero (by omega); rw [this]; rfl)
  · obtain ⟨g, c', cur, e, _⟩ := own_some h h0
    cases e
    refine .inr ⟨g, 0, rfl, fun j hj => ?_⟩
    rw [List.length_map] at hj
    rw [Nat.zero_add, (own_cell h (by omega)).1, inn_at hj, List.getD_eq_getElem?_getD, List.getD_eq_getElem?_getD, List.getElem?_map, List.getElem?_eq_getElem hj]; rfl
set_option maxHeartbeats 8000000 in
theorem tells15 {A : Adr} {D : Da} {N n : Nat} {K : Int} {L : List Nat} {st : List Int} {mv : Nat} {W : World} (H : Bt A D N n K L st L st mv W) :
    Calls Try.prog 15 #[.pointer (some ⟨A.qb, 0, none⟩), .pointer (some ⟨D.qb, 0, none⟩)] W fun e w' => e = .returned (.bool true) ∧ Below W.heap.size W w' := by
  have hln := H.d.len
  have hmx := H.d.mx
  have C16 := hid (show Calls Try.prog 16 #[.pointer (some ⟨A.qb, 0, none⟩)] W fun e w' => ∃ o c, e = .returned (.slice o n c) ∧ w'.ownsRow W.heap.size 3 1 (.slice o n c) n (inn L) ∧ Below W.heap.size W w' from by
    have := order16 H.p.qx
    unfold OrdOut at this
    rw [hln] at this
    exact this)
  have HP := hid (fun (w : World) (hb : Below W.heap.size W w) => H.below hb)
  have HLN := hid hln
  have HMX := hid hmx
  have HC0 := hid (fun (w : World) (hb : Below W.heap.size W w) => show w.cell? ⟨D.qb, 0, none⟩ = some (.slice D.aR n D.cR) from row_cell (H.below hb).d.blk 0)
  clear H hln hmx
  go_enter Try.func15, Try.ntmps15
  go_wp2_with (fail)
  go_at_call 16
  refine C16.out.mono ?_
  rintro e w1 ⟨o, c, rfl, ow, b1⟩
  have HB1 := hid b1
  have HOW := hid ow
  have c0 := HC0.out w1 b1
  have HD := hid (fun (w : World) (hd : Drawn w1 w) => HP.out w (b1.trans (hd.below.mono b1.size)))
  have C22 := hid (fun (w : World) (hd : Drawn w1 w) => show Calls Try.prog 22 #[.slice o n c, .slice D.aR n D.cR] w fun e w' => e = .returned (.bool true) ∧ Drawn w w' from by
    have h1 := inn_iw (own_below HOW.out hd.below) HLN.out
    have h2 := inn_iw (HD.out w hd).d.rs HLN.out
    have := same22 (c := c) (d := D.cR) h1 h2 (by rw [List.length_map, HLN.out]; have := HMX.out; omega) (by rw [List.length_map, HLN.out]; have := HMX.out; omega)
    rw [List.length_map, HLN.out, decide_eq_true rfl] at this
    exact this)
  have C23 := hid (fun (w : World) (hd : Drawn w1 w) => (HD.out w hd).p.size)
  have hwn : wrap64 ((n : Int) + 1) = (n : Int) + 1 := by have := HMX.out; unfold wrap64; omega
  have C18a := hid (fun (w : World) (hd : Drawn w1 w) => show Calls Try.prog 18 #[.pointer (some ⟨A.qb, 0, none⟩), .int .i64 (-1)] w fun e w' => e = .returned (.int .i64 0) ∧ w' = w from by
    have := (HD.out w hd).p.stamp (-1)
    rw [if_neg (by omega)] at this
    exact this)
  have C18b := hid (fun (w : World) (hd : Drawn w1 w) => show Calls Try.prog 18 #[.pointer (some ⟨A.qb, 0, none⟩), .int .i64 ((n : Int) + 1)] w fun e w' => e = .returned (.int .i64 0) ∧ w' = w from by
    have := (HD.out w hd).p.stamp ((n : Int) + 1)
    rw [if_neg (by omega)] at this
    exact this)
  have hnn : ((n : Int) != (n : Int)) = false := by simp
  have C18a := hid (fun (q : Nat) => C18a.out (w1.drewN q) ⟨q, rfl⟩)
  have C18b := hid (fun (q : Nat) => C18b.out (w1.drewN q) ⟨q, rfl⟩)
  clear C16 ow b1
  go_wp2_with (fail)
  go_quiet (first
    | (go_at_call 22; exact Calls.quiet_of (C22.out _ ⟨_, rfl⟩))
    | (go_at_call 23; exact Calls.quiet_of_same (C23.out _ ⟨_, rfl⟩))
    | (go_at_call 18; with_reducible exact Calls.quiet_of_same (C18a.out _))
    | (go_at_call 18; with_reducible exact Calls.quiet_of_same (C18b.out _)))
  go_wp2_with (fail)
  clear c0 C22 C23 C18a C18b HD
  have hsl : Hid (n = 0) ∨ ∃ g, o = some ⟨g, 0, none⟩ := by
    rcases Nat.eq_zero_or_pos n with h0 | h0
    · exact .inl h0
    · obtain ⟨g, c', cur, e, _⟩ := own_some HOW.out h0
      cases e
      exact .inr ⟨g, rfl⟩
  rcases hsl with Zl | ⟨gl, hgl⟩
  case' inr => subst hgl
  all_goals
    go_loopw [6] (fun i wr => ∃ k : Nat, k ≤ n ∧ i = .int .i64 (k : Nat) ∧ Hid (∃ ys, wr.ownsRow W.heap.size 3 1 (.slice _ n c) n ys ∧ Below W.heap.size W wr)) (fun i _ => n - (intOf i).toNat)
    case atStart => exact ⟨0, Nat.zero_le _, rfl, hid ⟨_, own_below HOW.out (Drawn.below ⟨_, rfl⟩), HB1.out.trans ((Drawn.below ⟨_, rfl⟩).mono HB1.out.size)⟩⟩
    case round =>
      obtain ⟨k, hk, rfl, HR⟩ := hrel
      by_cases hlt : k < n
      · first
          | (exfalso; have := Zl.out; omega)
          | (have hlt' : (k : Int) < n := by omega
             have hk1 : wrap64 ((k : Int) + 1) = (k : Int) + 1 := by have := HMX.out; unfold wrap64; omega
             obtain ⟨ys, ho, hb1⟩ := HR.out
             obtain ⟨hg9, cur, hh9⟩ := own_blk ho rfl
             obtain ⟨y1, f1⟩ := own_cell ho hlt
             have hyl : ys.length = n := by have := ho.1; omega
             rw [List.getElem?_eq_getElem (by omega)] at y1
             have HN2 := hid (show ∃ ys', World.ownsRow _ W.heap.size 3 1 (.slice (some ⟨gl, 0, none⟩) n c) n ys' ∧ Below W.heap.size W _ from ⟨_, own_setc ho k (.int .i64 (-1)), hb1.setCell (p := ⟨gl, k, none⟩) hg9 (.int .i64 (-1))⟩)
             generalize ys[k]'(by omega) = z at y1
             clear ho hb1 hh9 hyl HR
             go_wp2_with (fail)
             simp only [hk1]
             go_roundw
             case rel => exact ⟨k + 1, hlt, rfl, HN2⟩
             case measure => simp only [intOf]; exact meas hlt)
      · have hge : ¬ (k : Int) < n := by omega
        obtain ⟨ys, ho, hb1⟩ := HR.out
        have HB2 := hid hb1
        clear ho hb1 HR HOW
        go_wp2_with (fail)
        go_loopw [7] (fun i wr => ∃ k : Nat, k ≤ n + 1 ∧ i = .int .i64 (k : Nat) ∧ Hid (Below W.heap.size W wr)) (fun i _ => n + 1 - (intOf i).toNat)
        case atStart => exact ⟨0, Nat.zero_le _, rfl, HB2⟩
        case round =>
          obtain ⟨j, hj, rfl, HJ⟩ := hrel
          have x0 := HC0.out _ HJ.out
          by_cases hle : j ≤ n
          · have hle' : (j : Int) ≤ n := by omega
            have hj1 : wrap64 ((j : Int) + 1) = (j : Int) + 1 := by have := HMX.out; unfold wrap64; omega
            have HB := hid (HP.out _ HJ.out)
            have C18 := hid (HB.out.p.stamp (j : Int))
            have C29 := hid (stamp29 HB.out.d (j : Int))
            obtain ⟨y, hy⟩ : ∃ y, (if 1 ≤ (j : Int) ∧ (j : Int) ≤ n then st.getD (j : Int).toNat 0 else 0) = y := ⟨_, rfl⟩
            rw [hy] at C18 C29
            have hyy : (y != y) = false := by simp
            have HJ1 := hid hj1
            clear hy HB HB2 hj1
            go_wp2_with (first
              | (go_at_call 18; refine C18.out.mono ?_; rintro e w4 ⟨rfl, hw4⟩; rw [hw4]; clear hw4)
              | (go_at_call 29; refine C29.out.mono ?_; rintro e w4 ⟨rfl, hw4⟩; rw [hw4]; clear hw4))
            rw [HJ1.out]
            exact ⟨⟨j + 1, by omega, rfl, HJ⟩, by simp only [intOf]; exact meas0 hle⟩
          · have hge2 : ¬ (j : Int) ≤ n := by omega
            clear HB2
            go_wp2
            go_ret
            exact ⟨rfl, HJ.out⟩
end Go.Proofs.Ytjnifadfcnpdoaa
