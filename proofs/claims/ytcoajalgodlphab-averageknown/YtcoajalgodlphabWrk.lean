/- The short trial; an average that was filled. -/
import Derived.Test.YtcoajalgodlphabAdp
namespace Go.Proofs.Ytcoajalgodlphab
open Go.RowKit Go.Maps Av
set_option linter.unusedVariables false
set_option linter.unusedSimpArgs false
set_option maxRecDepth 100000

theorem ok0 {s : Nat} (h : s ≤ 30) : Ok s 0 0 := ⟨h, by omega, by omega, by omega⟩
theorem Ok.add {s k : Nat} {v x : Int} (h : Ok s v k) (h0 : 0 ≤ x) (h1 : x ≤ 1073741824) (hk : k < 1048576) : Ok s (avV s (k + 1) v x) (k + 1) :=
  ⟨h.s30, (avV_bd h.v0 h.v62 h0 h1).1, (avV_bd h.v0 h.v62 h0 h1).2, by omega⟩
theorem Fq.bel {W W' : World} {b N : Nat} (h : Fq (fun g => g ≠ b) W W') (hN : N ≤ W.heap.size) (hb : N ≤ b) : Below N W W' := h.below hN (fun g hg e => by omega)
set_option maxHeartbeats 4000000 in
theorem works9 (W : World) : Calls Try.prog 14 #[] W fun e w' => e = .returned (.bool true) ∧ Below W.heap.size W w' := by
  have C10 := hid (new10_ok 2 W (by omega))
  go_enter Try.func14, Try.ntmps14
  go_wp2_with (fail)
  go_at_call 12
  refine C10.out.mono ?_
  rintro e w1 ⟨rfl, a1, b1⟩
  obtain ⟨b, hb⟩ : ∃ b, W.heap.size = b := ⟨_, rfl⟩
  rw [hb] at a1 b1 ⊢
  have HB := hid hb
  have HB1 := hid b1
  have C12 := hid (add12_ok a1 (ok0 (by omega)) (x := 8) (by omega) (by omega))
  rw [show avV 2 (0 + 1) 0 8 = 34359738368 from by decide, show 0 + 1 = 1 from rfl] at C12
  clear C10 a1 b1 hb
  go_wp2_with (fail)
  go_at_call 6
  refine C12.out.mono ?_
  rintro e w2 ⟨rfl, a2, f2⟩
  have HB2 := hid (HB1.out.trans (f2.bel (N := b) (by have := HB1.out.size; have := HB.out; omega) (Nat.le_refl _)))
  have C14 := hid (value14 a2)
  have C12 := hid (add12_ok a2 ⟨by omega, by omega, by omega, by omega⟩ (x := 0) (by omega) (by omega))
  rw [show avV 2 (1 + 1) 34359738368 0 = 17179869184 from by decide, show 1 + 1 = 2 from rfl] at C12
  clear a2 f2
  go_wp2_with (go_at_call 5; refine C14.out.mono ?_; rintro e w7 ⟨rfl, hw7⟩; rw [hw7]; clear hw7)
  go_at_call 6
  refine C12.out.mono ?_
  rintro e w3 ⟨rfl, a3, f3⟩
  have HB3 := hid (HB2.out.trans (f3.bel (N := b) (by have := HB2.out.size; have := HB.out; omega) (Nat.le_refl _)))
  have C14 := hid (value14 a3)
  have C15 := hid (count15 a3)
  have C19 := hid (luby19 15 w3 (by omega))
  rw [show lubyV 15 = 8 from by decide, show lubyE 15 = 0 from by decide] at C19
  clear a3 f3 HB1 HB2 C12
  go_wp2_with (first
    | (go_at_call 5; refine C14.out.mono ?_; rintro e w7 ⟨rfl, hw7⟩; rw [hw7]; clear hw7)
    | (go_at_call 7; refine C15.out.mono ?_; rintro e w7 ⟨rfl, hw7⟩; rw [hw7]; clear hw7)
    | (go_at_call 8; refine C19.out.mono ?_; rintro e w7 ⟨rfl, hw7⟩; rw [hw7]; clear hw7))
  go_ret
  exact ⟨rfl, HB.out ▸ HB3.out⟩
/-- A row of numbers that is only read. -/
def Iw (W : World) (a : Option Addr) (l : List Int) : Prop := l = [] ∨ ∃ b off, a = some ⟨b, off, none⟩ ∧ ∀ j, j < l.length → W.cell? ⟨b, off + j, none⟩ = some (.int .i64 (l.getD j 0))
theorem Iw.lt {W : World} {b off : Nat} {l : List Int} (h : ∀ j, j < l.length → W.cell? ⟨b, off + j, none⟩ = some (.int .i64 (l.getD j 0))) (hl : l ≠ []) : b < W.heap.size :=
  cell_lt (h 0 (List.length_pos_iff.2 hl))
theorem Iw.below {W W' : World} {a : Option Addr} {l : List Int} (h : Iw W a l) {N : Nat} (hb : Below N W W') (hN : ∀ b off, a = some ⟨b, off, none⟩ → l ≠ [] → b < N) : Iw W' a l := by
  rcases h with h | ⟨b, off, e, h⟩
  · exact .inl h
  · refine .inr ⟨b, off, e, fun j hj => ?_⟩
    rw [hb.cell (p := ⟨b, off + j, none⟩) (hN b off e (List.ne_nil_of_length_pos (by omega)))]
    exact h j hj
theorem Iw.all {W W' : World} {a : Option Addr} {l : List Int} (h : Iw W a l) (hb : Below W.heap.size W W') : Iw W' a l := by
  rcases h with h | ⟨b, off, e, h⟩
  · exact .inl h
  · refine Iw.below (.inr ⟨b, off, e, h⟩) hb (fun b' off' e' hl => ?_)
    rw [e] at e'
    cases e'
    exact Iw.lt h hl
/-- A filled average. -/
structure Fl (N b s n : Nat) (v : Int) (k : Nat) (W w' : World) : Prop where
  am : Am 39 b s v k w'
  ok : Ok s v k
  kn : k ≤ n
  new : N ≤ b
  bel : Below N W w'
def FillO (b s n : Nat) (W : World) (e : Ending) (w' : World) : Prop := ∃ v k, e = .returned (.pointer (some ⟨b, 0, none⟩)) ∧ Fl b b s n v k W w'
theorem filled16_no (s : Int) (W : World) (a : Option Addr) (n c : Nat) (h : s < 0 ∨ 30 < s) (hn : n ≤ 1000) :
    Calls Try.prog 4 #[.int .i64 s, .slice a n c] W fun e w' => e = .returned (.pointer none) ∧ w' = W := by
  have C := hid (new10_no s W h)
  have hnI : (n : Int) ≤ 1000 := by omega
  clear h
  go_enter Try.func4, Try.ntmps4
  go_wp2_with (go_at_call 12; refine C.out.mono ?_; rintro e w7 ⟨rfl, hw7⟩; rw [hw7]; clear hw7)
  go_loop [7] (fun iv => iv = .int .i64 0) (fun iv => 0)
  case atStart => rfl
  case round =>
    subst hrel
    by_cases h0 : (0 : Int) < n
    all_goals
      go_wp2
      go_ret
      exact ⟨rfl, rfl⟩
set_option maxHeartbeats 4000000 in
theorem filled16_ok {s : Nat} {W : World} {a : Option Addr} {l : List Int} {c : Nat} (hs : s ≤ 30) (hl : l.length ≤ 1000) (hI : Iw W a l) :
    Calls Try.prog 4 #[.int .i64 (s : Int), .slice a l.length c] W fun e w' => FillO W.heap.size s l.length W e w' := by
  have C := hid (new10_ok s W hs)
  obtain ⟨b, hb⟩ : ∃ b, W.heap.size = b := ⟨_, rfl⟩
  rw [hb] at C ⊢
  have HB := hid hb
  have HI := hid hI
  have hsh : Hid (l.length = 0) ∨ ∃ gb off, a = some ⟨gb, off, none⟩ := by
    rcases hI with rfl | ⟨gb, off, e, _⟩
    · exact .inl rfl
    · exact .inr ⟨gb, off, e⟩
  obtain ⟨n, hn⟩ : ∃ n, l.length = n := ⟨_, rfl⟩
  have HN := hid hn
  rw [hn] at hl hsh ⊢
  have hnI : (n : Int) ≤ 1000 := by omega
  have HS := hid hs
  obtain ⟨sI, hsI⟩ : ∃ sI : Int, (s : Int) = sI := ⟨_, rfl⟩
  rw [hsI] at C ⊢
  clear hI hs hb hl hn hsI
  rcases hsh with Z | ⟨gb, off, rfl⟩
  all_goals
    go_enter Try.func4, Try.ntmps4
    go_wp2_with (go_at_call 12; refine C.out.mono ?_; rintro e w1 ⟨rfl, a1, b1⟩)
    have HA := hid a1
    have HB1 := hid b1
    clear C a1 b1
    go_loopw [7] (fun iv wr => ∃ (i : Nat) (v : Int) (k : Nat), i ≤ n ∧ iv = .int .i64 (i : Int) ∧ Hid (Am 39 b s v k wr ∧ Ok s v k ∧ k ≤ i ∧ Below b W wr)) (fun iv _ => n - (intOf iv).toNat)
    case atStart => exact ⟨0, 0, 0, Nat.zero_le _, rfl, hid ⟨HA.out, ok0 HS.out, Nat.le_refl _, HB1.out⟩⟩
    case round =>
      obtain ⟨i, v, k, hi, rfl, HR⟩ := hrel
      by_cases hlt : i < n
      · first
        | (exfalso; have := Z.out; omega)
        | (obtain ⟨h1, h2, h3, h4⟩ := HR.out
           have hx : wr.cell? ⟨gb, off + i, none⟩ = some (.int .i64 (l.getD i 0)) := by
             rcases HI.out with e | ⟨g, o, e, hc⟩
             · have := HN.out; rw [e] at this; simp at this; omega
             · cases e
               have hnn := HN.out
               have hbl := HB.out
               have hlt2 := cell_lt (hc i (by omega))
               rw [h4.cell (p := ⟨gb, off + i, none⟩) (show gb < b by omega)]
               exact hc i (by omega)
           have hltI : (i : Int) < n := by omega
           have hwi : wrap64 ((i : Int) + 1) = (i : Int) + 1 := by unfold wrap64; omega
           generalize l.getD i 0 = x at hx
           by_cases hxr : x < 0 ∨ 1073741824 < x
           · have C := hid (add12_no (b := b) wr hxr)
             clear hxr h1 h2 h3 h4
             go_wp2_with (go_at_call 6; refine C.out.mono ?_; rintro e w7 ⟨rfl, hw7⟩; rw [hw7]; clear hw7)
             go_roundw
             case rel => exact ⟨i + 1, v, k, hlt, by go_num, hid ⟨HR.out.1, HR.out.2.1, Nat.le_succ_of_le HR.out.2.2.1, HR.out.2.2.2⟩⟩
             case measure => simp [intOf]; omega
           · have C := hid (add12_ok h1 h2 (x := x) (by omega) (by omega))
             have HO := hid (h2.add (x := x) (by omega) (by omega) (by omega))
             have HZ := hid (show b ≤ wr.heap.size from by have := h4.size; have := HB.out; omega)
             clear hxr h1 h2 h3 h4
             go_wp2_with (go_at_call 6; refine C.out.mono ?_; rintro e w7 ⟨rfl, a7, f7⟩)
             go_roundw
             case rel => exact ⟨i + 1, _, k + 1, hlt, by go_num, hid ⟨a7, HO.out, Nat.succ_le_succ HR.out.2.2.1, HR.out.2.2.2.trans (f7.bel HZ.out (Nat.le_refl _))⟩⟩
             case measure => simp [intOf]; omega)
      · have hltI : ¬ (i : Int) < n := by omega
        go_wp2
        go_ret
        exact ⟨v, k, rfl, HR.out.1, HR.out.2.1, Nat.le_trans HR.out.2.2.1 hi, Nat.le_refl _, HR.out.2.2.2⟩
end Go.Proofs.Ytcoajalgodlphab
