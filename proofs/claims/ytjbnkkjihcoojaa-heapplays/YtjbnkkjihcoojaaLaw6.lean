/- HeapRemoves. -/
import Derived.Test.YtjbnkkjihcoojaaLws
namespace Go.Proofs.Ytjbnkkjihcoojaa
open Go.RowKit Go.Maps
set_option linter.unusedVariables false
set_option maxRecDepth 100000

/-- A heap that holds the first k. -/
def Fst (W : World) (hb n k : Nat) (w : World) : Prop := ∃ sc L, L.Perm (List.range k) ∧ HxN W hb n sc L w
/-- The tail of the law, in words: a heap, and a row told of it that is not its own. -/
structure Tld (W : World) (M : Nat → Prop) (hb n : Nat) (sc : List Int) (L : List Nat) (o : Option Addr) (c : Nat) (base : Nat) (B w : World) : Prop where
  hx : HxO M hb n sc L B w
  low : ∀ g, M g → g < base
  top : ∀ g, M g → W.heap.size ≤ g
  bel : Below W.heap.size W B
theorem Tld.all {W : World} {M : Nat → Prop} {hb n : Nat} {sc : List Int} {L : List Nat} {o : Option Addr} {c base : Nat} {B w : World} (h : Tld W M hb n sc L o c base B w) : Below W.heap.size W w :=
  h.bel.trans (h.hx.2.below h.bel.size (fun g hg => ⟨by have := h.bel.size; omega, fun hm => by have := h.top g hm; omega⟩))
theorem Tld.next {W : World} {M : Nat → Prop} {hb n : Nat} {sc sc' : List Int} {L L' : List Nat} {o : Option Addr} {c base : Nat} {B w w' : World} (h : Tld W M hb n sc L o c base B w) (k : HxO (fun g => M g ∨ B.heap.size ≤ g) hb n sc' L' w w') : Tld W M hb n sc' L' o c base B w' :=
  ⟨h.hx.next k, h.low, h.top, h.bel⟩
theorem Tld.begin {W : World} {hb n : Nat} {sc : List Int} {L : List Nat} {o : Option Addr} {c : Nat} {w B : World} (h : HxN W hb n sc L w) (hb' : Below w.heap.size w B) : Tld W (fun g => W.heap.size ≤ g ∧ g < w.heap.size) hb n sc L o c w.heap.size B B :=
  ⟨HxO.refl (h.1.sharp hb'), fun g hg => hg.2, fun g hg => hg.1, h.2.trans (hb'.mono h.2.size)⟩
theorem order_n {M : Nat → Prop} {hb n k : Nat} {sc : List Int} {L : List Nat} {W : World} (h : Hx M hb n sc L W) (hL : L.length = k) :
    Calls Try.prog 20 #[.pointer (some ⟨hb, 0, none⟩)] W fun e w' => ∃ o c, e = .returned (.slice o k c) ∧ w'.ownsRow W.heap.size 3 1 (.slice o k c) k (ivs L) ∧ Below W.heap.size W w' := by
  subst hL
  exact order20_of h (sorts_all _ (by have := h.len; omega))
theorem Tld.order {W : World} {M : Nat → Prop} {hb n k : Nat} {sc : List Int} {L : List Nat} {o : Option Addr} {c base : Nat} {B w : World} (h : Tld W M hb n sc L o c base B w) (hL : L.length = k) :
    Calls Try.prog 20 #[.pointer (some ⟨hb, 0, none⟩)] w fun e w' => ∃ o' c', e = .returned (.slice o' k c') ∧ w'.ownsRow w.heap.size 3 1 (.slice o' k c') k (ivs L) ∧ Tld W M hb n sc L o c base B w' ∧ Below w.heap.size w w' :=
  (order_n h.hx.1 hL).mono fun e w' ⟨o', c', he, ho, hb'⟩ => ⟨o', c', he, ho, h.next (h.hx.1.below hb'), hb'⟩
theorem Tld.row {W : World} {M : Nat → Prop} {hb n k : Nat} {sc : List Int} {L : List Nat} {o : Option Addr} {c base : Nat} {v : Value} {xs : List Value} {B w : World} (h : Tld W M hb n sc L o c base B w) (ho : B.ownsRow base 3 1 v k xs) : w.ownsRow 0 3 1 v k xs := own_base (h.hx.row ho h.low) (Nat.zero_le _)
theorem Tld.bel' {W : World} {M : Nat → Prop} {hb n : Nat} {sc : List Int} {L : List Nat} {o : Option Addr} {c base : Nat} {B w w' : World} (h : Tld W M hb n sc L o c base B w) (hb' : Below w.heap.size w w') : Tld W M hb n sc L o c base B w' := h.next (h.hx.1.below hb')
set_option maxHeartbeats 8000000 in
theorem law6 (W : World) (a : Option Addr) (n cap : Nat) (zs : List Int) (hl : zs.length = n) (hz : Rw W a zs) (v : Int) (hv : I64 v) :
    Calls Try.prog 6 #[.slice a n cap, .int .i64 v] W fun e w' => e = .returned (.bool true) ∧ Below W.heap.size W w' := by
  by_cases hbig : 100 < n
  · have C := hid (works9 W)
    have hb : 100 < (n : Int) := by omega
    clear hz hl
    go_enter Try.func6, Try.ntmps6
    go_wp2_with (go_at_call 9; refine C.out.mono ?_; rintro e w4 ⟨rfl, hw4⟩)
    go_ret
    exact ⟨rfl, hw4⟩
  have hsm : ¬ (100 : Int) < n := by omega
  have C0 := hid (HxN.new n W (by omega))
  have HL := hid hl
  have HZ := hid hz
  have hn := hid (show n ≤ 100 by omega)
  clear hz hl hbig
  go_enter Try.func6, Try.ntmps6
  go_wp2_with (fail)
  go_at_call 10
  refine C0.out.mono ?_
  rintro e w1 ⟨hb, rfl, h1⟩
  have H1 := hid (show Fst W hb n 0 w1 from ⟨zer n, [], .refl _, h1⟩)
  clear C0 h1
  go_wp2_with (fail)
  go_loopw [7] (fun i wr => ∃ k : Nat, k ≤ n ∧ i = .int .i64 (k : Nat) ∧ Hid (Fst W hb n k wr)) (fun i _ => n - (intOf i).toNat)
  case atStart => exact ⟨0, Nat.zero_le _, rfl, H1⟩
  case round =>
    obtain ⟨k, hk, rfl, HF⟩ := hrel
    by_cases hlt : k < n
    · have hlt' : (k : Int) < n := by omega
      have hk1 : wrap64 ((k : Int) + 1) = (k : Int) + 1 := by have := hn.out; unfold wrap64; omega
      obtain ⟨b, off, rfl⟩ : ∃ b off, a = some ⟨b, off, none⟩ := by
        rcases HZ.out.shape with h | h
        · have := HL.out; omega
        · exact h
      obtain ⟨sc, L, hp, hx⟩ := HF.out
      have x1 := ((HZ.out.below hx.2).at (j := k) (by rw [HL.out]; exact hlt)).1
      generalize zs.getD k 0 = z at x1
      have C1 := hid (hx.bumpAny (u := k) hlt z)
      have HP := hid hp
      clear hx hp HF
      go_wp2_with (fail)
      go_at_call 19
      refine C1.out.mono ?_
      rintro e w2 ⟨r1, r2, sc2, L2, rfl, p2, h2⟩
      have C2 := hid (h2.push (u := k) hlt (fst_out (p2.trans HP.out)) _ rfl)
      have P2 := hid (fst_more (sc := sc2) (p2.trans HP.out))
      clear C1 h2 p2
      go_wp2_with (fail)
      go_at_call 16
      refine C2.out.mono ?_
      rintro e w3 ⟨rfl, h3⟩
      have H3 := hid (show Fst W hb n (k + 1) w3 from ⟨_, _, P2.out, h3⟩)
      clear C2 h3 P2
      go_wp2_with (fail)
      go_roundw
      case rel => exact ⟨k + 1, by omega, by go_num, H3⟩
      case measure => simp only [intOf]; omega
    · have hge : ¬ (k : Int) < n := by omega
      have hkn : k = n := by omega
      obtain ⟨sc, L, hp, hx⟩ := HF.out
      rw [hkn] at hp
      have hL := fst_len hp
      have C1 := hid (order_n hx.1 hL)
      have HX := hid hx
      have HP := hid hp
      have HLn := hid hL
      clear hx hp HF hL
      go_wp2_with (fail)
      go_at_call 20
      refine C1.out.mono ?_
      rintro e w2 ⟨o, c, rfl, ho, hb2⟩
      obtain ⟨M, T⟩ : ∃ M, Tld W M hb n sc L o c wr.heap.size w2 w2 := ⟨_, Tld.begin HX.out hb2⟩
      have HT := hid T
      have HO := hid ho
      have HS := hid T.hx.1.srt
      generalize wr.heap.size = base at HT HO
      clear C1 T ho hb2 HX HZ HL H1
      rcases var_or n v with hv1 | ⟨u, hu, rfl⟩
      · have C2 := hid (remove18_no HT.out.hx.1 v hv1)
        have C3 := hid (HT.out.order HLn.out)
        by_cases hv2 : v < 1
        · clear hv1
          go_wp2_with (fail)
          go_at_call 18
          refine C2.out.mono ?_
          rintro e w3 ⟨rfl, hw3⟩
          rw [hw3]
          clear hw3 C2
          go_wp2_with (fail)
          go_at_call 20
          refine C3.out.mono ?_
          rintro e w4 ⟨o4, c4, rfl, h4, T4, b4⟩
          have C4 := hid (same24 (own_base h4 (Nat.zero_le _)) (T4.row HO.out) (by have := hn.out; omega))
          rw [decide_eq_true rfl] at C4
          clear C3
          go_wp2_with (fail)
          go_at_call 24
          refine C4.out.mono ?_
          rintro e w5 ⟨rfl, hd5⟩
          have HB := hid (T4.bel' hd5.below).all
          have C5 := hid (works9 w5)
          clear C4 h4 T4 b4 hd5
          go_wp2_with (fail)
          go_at_call 9
          refine C5.out.mono ?_
          rintro e w6 ⟨rfl, hb6⟩
          go_wp2
          go_ret
          exact ⟨rfl, HB.out.trans (hb6.mono HB.out.size)⟩
        · have hv3 : (n : Int) < v := by omega
          clear hv1
          go_wp2_with (fail)
          go_at_call 18
          refine C2.out.mono ?_
          rintro e w3 ⟨rfl, hw3⟩
          rw [hw3]
          clear hw3 C2
          go_wp2_with (fail)
          go_at_call 20
          refine C3.out.mono ?_
          rintro e w4 ⟨o4, c4, rfl, h4, T4, b4⟩
          have C4 := hid (same24 (own_base h4 (Nat.zero_le _)) (T4.row HO.out) (by have := hn.out; omega))
          rw [decide_eq_true rfl] at C4
          clear C3
          go_wp2_with (fail)
          go_at_call 24
          refine C4.out.mono ?_
          rintro e w5 ⟨rfl, hd5⟩
          have HB := hid (T4.bel' hd5.below).all
          have C5 := hid (works9 w5)
          clear C4 h4 T4 b4 hd5
          go_wp2_with (fail)
          go_at_call 9
          refine C5.out.mono ?_
          rintro e w6 ⟨rfl, hb6⟩
          go_wp2
          go_ret
          exact ⟨rfl, HB.out.trans (hb6.mono HB.out.size)⟩
      · have hm := fst_in HP.out hu
        have C2 := hid (remove18_ok HT.out.hx.1 hu hm)
        have hlen : (L.erase u).length = n - 1 := by rw [List.length_erase_of_mem hm, HLn.out]
        have hout : u ∉ L.erase u := fun h => (HS.out.nodup.mem_erase_iff.1 h).1 rfl
        have HIN := hid (ins_erase HS.out hm)
        have HWT := hid (wot_erase HS.out.nodup u)
        have HLE := hid hlen
        have HOU := hid hout
        have hv1 : ¬ (u : Int) + 1 < 1 := by omega
        have hv2 : ¬ (n : Int) < (u : Int) + 1 := by omega
        have HU := hid hu
        clear hm hlen hout hu
        go_wp2_with (fail)
        go_at_call 18
        refine C2.out.mono ?_
        rintro e w3 ⟨rfl, h3⟩
        have T3 := hid (HT.out.next h3)
        have D1 := hid (has22_ok T3.out.hx.1 HU.out)
        rw [decide_eq_false HOU.out] at D1
        have D2 := hid (remove18_out T3.out.hx.1 HU.out HOU.out)
        have D3 := hid (T3.out.order HLE.out)
        clear C2 h3 HT
        go_wp2_with (first
          | (go_at_call 22; refine D1.out.mono ?_; rintro e w4 ⟨rfl, hw4⟩; rw [hw4]; clear hw4)
          | (go_at_call 18; refine D2.out.mono ?_; rintro e w4 ⟨rfl, hw4⟩; rw [hw4]; clear hw4))
        go_at_call 20
        refine D3.out.mono ?_
        rintro e w4 ⟨o4, c4, rfl, h4, T4, b4⟩
        have D4 := hid (without26 (T4.row HO.out) (by have := hn.out; omega) ((u : Int) + 1))
        rw [HWT.out] at D4
        unfold WotOut at D4
        rw [HLE.out] at D4
        have H4 := hid h4
        have HT4 := hid T4
        clear D1 D2 D3 h4 T4 b4 T3
        go_wp2_with (fail)
        go_at_call 26
        refine D4.out.mono ?_
        rintro e w5 ⟨o5, c5, rfl, h5, b5⟩
        have T5 := hid (HT4.out.bel' b5)
        have D5 := hid (same24 (own_base (own_below H4.out b5) (Nat.zero_le _)) (own_base h5 (Nat.zero_le _)) (by have := hn.out; omega))
        rw [decide_eq_true rfl] at D5
        clear D4 h5 b5 HT4 H4
        go_wp2_with (fail)
        go_at_call 24
        refine D5.out.mono ?_
        rintro e w6 ⟨rfl, hd6⟩
        have T6 := hid (T5.out.bel' hd6.below)
        have D6 := hid (size21 T6.out.hx.1)
        rw [HLE.out] at D6
        have D7 := hid (push16_ok T6.out.hx.1 HU.out HOU.out)
        rw [HIN.out] at D7
        have hsz : (((n - 1 : Nat) : Int)) = (n : Int) - 1 := by have := HU.out; omega
        rw [hsz] at D6
        have hsw : wrap64 ((n : Int) - 1) = (n : Int) - 1 := by have := HU.out; have := hn.out; unfold wrap64; omega
        clear D5 hd6 T5
        go_wp2_with (go_at_call 21; refine D6.out.mono ?_; rintro e w4 ⟨rfl, hw4⟩; rw [hw4]; clear hw4)
        go_at_call 16
        refine D7.out.mono ?_
        rintro e w7 ⟨rfl, h7⟩
        have T7 := hid (T6.out.next h7)
        have D8 := hid (T7.out.order HLn.out)
        clear D6 D7 h7 T6
        go_wp2_with (fail)
        go_at_call 20
        refine D8.out.mono ?_
        rintro e w8 ⟨o8, c8, rfl, h8, T8, b8⟩
        have D9 := hid (same24 (own_base h8 (Nat.zero_le _)) (T8.row HO.out) (by have := hn.out; omega))
        rw [decide_eq_true rfl] at D9
        have HT8 := hid T8
        clear D8 h8 T8 b8 T7
        go_wp2_with (fail)
        go_at_call 24
        refine D9.out.mono ?_
        rintro e w9 ⟨rfl, hd9⟩
        have HB := hid (HT8.out.bel' hd9.below).all
        have C5 := hid (works9 w9)
        clear D9 hd9 HT8
        go_wp2_with (fail)
        go_at_call 9
        refine C5.out.mono ?_
        rintro e w6 ⟨rfl, hb6⟩
        go_wp2
        go_ret
        exact ⟨rfl, HB.out.trans (hb6.mono HB.out.size)⟩
end Go.Proofs.Ytjbnkkjihcoojaa
