/- HeapPops. -/
import Derived.Test.YtjbnkkjihcoojaaLaw6
import Derived.Test.YtjbnkkjihcoojaaOpa
import Derived.Test.YtjbnkkjihcoojaaPps
namespace Go.Proofs.Ytjbnkkjihcoojaa
open Go.RowKit Go.Maps
set_option linter.unusedVariables false
set_option maxRecDepth 100000

/-- More than is looked at? -/
def big (n : Int) (t : Nat) : Bool := decide ((100 < n ∧ n ≤ 1048576) ∨ 200 < t)
theorem large8 (n : Int) (a : Option Addr) (t c : Nat) (W : World) : Calls Try.prog 8 #[.int .i64 n, .slice a t c] W fun e w' => e = .returned (.bool (big n t)) ∧ w' = W := by
  unfold big
  by_cases h1 : 100 < n
  · by_cases h2 : n ≤ 1048576
    · have hd : decide ((100 < n ∧ n ≤ 1048576) ∨ 200 < t) = true := decide_eq_true (.inl ⟨h1, h2⟩)
      rw [hd]
      go_enter Try.func8, Try.ntmps8
      go_wp2
      go_ret
      exact ⟨rfl, rfl⟩
    · have hd : decide ((100 < n ∧ n ≤ 1048576) ∨ 200 < t) = decide (200 < (t : Int)) := by
        by_cases h3 : 200 < t
        · rw [decide_eq_true (.inr h3), decide_eq_true (by omega)]
        · rw [decide_eq_false (by omega), decide_eq_false (by omega)]
      rw [hd]
      clear hd
      go_enter Try.func8, Try.ntmps8
      go_wp2
      go_ret
      exact ⟨rfl, rfl⟩
  · have hd : decide ((100 < n ∧ n ≤ 1048576) ∨ 200 < t) = decide (200 < (t : Int)) := by
      by_cases h3 : 200 < t
      · rw [decide_eq_true (.inr h3), decide_eq_true (by omega)]
      · rw [decide_eq_false (by omega), decide_eq_false (by omega)]
    rw [hd]
    clear hd
    go_enter Try.func8, Try.ntmps8
    go_wp2
    go_ret
    exact ⟨rfl, rfl⟩
/-- A heap, whatever it holds. -/
def Any (W : World) (hb n : Nat) (w : World) : Prop := ∃ sc L, HxN W hb n sc L w
theorem Any.push {W : World} {hb n : Nat} {w : World} (h : Any W hb n w) (v : Int) :
    Calls Try.prog 16 #[.pointer (some ⟨hb, 0, none⟩), .int .i64 v] w fun e w' => ∃ r : Int, e = .returned (.int .i64 r) ∧ Any W hb n w' := by
  obtain ⟨sc, L, h⟩ := h
  rcases var_or n v with hv | ⟨u, hu, rfl⟩
  · exact (push16_no h.1 v hv).mono fun e w' ⟨he, hw⟩ => ⟨_, he, sc, L, by rw [hw]; exact h⟩
  · by_cases hm : u ∈ L
    · exact (push16_in h.1 hu hm).mono fun e w' ⟨he, hw⟩ => ⟨_, he, sc, L, by rw [hw]; exact h⟩
    · exact (h.push hu hm _ rfl).mono fun e w' ⟨he, hw⟩ => ⟨_, he, _, _, hw⟩
theorem Any.remove {W : World} {hb n : Nat} {w : World} (h : Any W hb n w) (v : Int) :
    Calls Try.prog 18 #[.pointer (some ⟨hb, 0, none⟩), .int .i64 v] w fun e w' => ∃ r : Int, e = .returned (.int .i64 r) ∧ Any W hb n w' := by
  obtain ⟨sc, L, h⟩ := h
  rcases var_or n v with hv | ⟨u, hu, rfl⟩
  · exact (remove18_no h.1 v hv).mono fun e w' ⟨he, hw⟩ => ⟨_, he, sc, L, by rw [hw]; exact h⟩
  · by_cases hm : u ∈ L
    · exact (remove18_ok h.1 hu hm).mono fun e w' ⟨he, hw⟩ => ⟨_, he, _, _, h.next hw⟩
    · exact (remove18_out h.1 hu hm).mono fun e w' ⟨he, hw⟩ => ⟨_, he, sc, L, by rw [hw]; exact h⟩
theorem Any.pop {W : World} {hb n : Nat} {w : World} (h : Any W hb n w) :
    Calls Try.prog 17 #[.pointer (some ⟨hb, 0, none⟩)] w fun e w' => ∃ (r : Int) (b : Bool), e = .returned (.tuple #[.int .i64 r, .bool b]) ∧ Any W hb n w' := by
  obtain ⟨sc, L, h⟩ := h
  cases L with
  | nil => exact (pop17_no h.1).mono fun e w' ⟨he, hw⟩ => ⟨_, _, he, sc, [], by rw [hw]; exact h⟩
  | cons u L => exact h.pop.mono fun e w' ⟨he, hw⟩ => ⟨_, _, he, _, _, hw⟩
theorem Any.bump {W : World} {hb n : Nat} {w : World} (h : Any W hb n w) (v by_ : Int) :
    Calls Try.prog 19 #[.pointer (some ⟨hb, 0, none⟩), .int .i64 v, .int .i64 by_] w fun e w' => ∃ (r1 : Bool) (r2 : Int), e = .returned (.tuple #[.bool r1, .int .i64 r2]) ∧ Any W hb n w' := by
  obtain ⟨sc, L, h⟩ := h
  rcases var_or n v with hv | ⟨u, hu, rfl⟩
  · exact (bump19_no h.1 v by_ hv).mono fun e w' ⟨he, hw⟩ => ⟨_, _, he, sc, L, by rw [hw]; exact h⟩
  · exact (h.bumpAny hu by_).mono fun e w' ⟨r1, r2, sc', L', he, _, hw⟩ => ⟨_, _, he, _, _, hw⟩
theorem Any.below {W : World} {hb n : Nat} {w w' : World} (h : Any W hb n w) (hb' : Below w.heap.size w w') : Any W hb n w' := by
  obtain ⟨sc, L, h⟩ := h
  exact ⟨sc, L, h.below hb'⟩
theorem mod8 {kd : Int} (h : 0 ≤ kd) : kd.tmod 8 = 0 ∨ kd.tmod 8 = 1 ∨ kd.tmod 8 = 2 ∨ kd.tmod 8 = 3 ∨ kd.tmod 8 = 4 ∨ kd.tmod 8 = 5 ∨ kd.tmod 8 = 6 ∨ kd.tmod 8 = 7 := by
  rw [Int.tmod_eq_emod_of_nonneg h]
  have h1 := Int.emod_nonneg kd (b := 8) (by decide)
  have h2 := Int.emod_lt_of_pos kd (b := 8) (by decide)
  generalize kd % 8 = r at *
  omega
theorem meas4 {k n : Nat} (h : k < n) : n - ((k : Int) + 1).toNat < n - (k : Int).toNat := by omega
def slen : Value → Nat
  | .slice _ n _ => n
  | _ => 0
set_option maxHeartbeats 8000000 in
theorem law4 (W : World) (n : Int) (hn : I64 n) (a : Option Addr) (t cap : Nat) (ss : List Opr) (hl : ss.length = t) (hs : Ops W a ss) :
    Calls Try.prog 4 #[.int .i64 n, .slice a t cap] W fun e w' => e = .returned (.bool true) ∧ Below W.heap.size W w' := by
  have CL := hid (large8 n a t cap W)
  cases hbg : big n t with
  | true =>
    rw [hbg] at CL
    have C := hid (works9 W)
    clear hs hl hbg
    go_enter Try.func4, Try.ntmps4
    go_wp2_with (first
      | (go_at_call 8; refine CL.out.mono ?_; rintro e w4 ⟨rfl, hw4⟩; rw [hw4]; clear hw4)
      | (go_at_call 9; refine C.out.mono ?_; rintro e w4 ⟨rfl, hw4⟩))
    go_ret
    exact ⟨rfl, hw4⟩
  | false =>
    rw [hbg] at CL
    have hb0 := of_decide_eq_false hbg
    clear hbg
    by_cases hbad : n < 0 ∨ 1048576 < n
    · have C0 := hid (new10_no n W hbad)
      have C := hid (works9 W)
      clear hs hl hb0 hbad
      go_enter Try.func4, Try.ntmps4
      go_wp2_with (first
        | (go_at_call 8; refine CL.out.mono ?_; rintro e w4 ⟨rfl, hw4⟩; rw [hw4]; clear hw4)
        | (go_at_call 10; refine C0.out.mono ?_; rintro e w4 ⟨rfl, hw4⟩; rw [hw4]; clear hw4)
        | (go_at_call 9; refine C.out.mono ?_; rintro e w4 ⟨rfl, hw4⟩))
      go_ret
      exact ⟨rfl, hw4⟩
    obtain ⟨m, rfl⟩ : ∃ m : Nat, n = (m : Int) := ⟨n.toNat, by omega⟩
    have hm := hid (show m ≤ 100 by omega)
    have ht := hid (show t ≤ 200 by omega)
    have C0 := hid (HxN.new m W (by omega))
    have HL := hid hl
    have HS := hid hs
    clear hs hl hb0 hbad
    go_enter Try.func4, Try.ntmps4
    go_wp2_with (go_at_call 8; refine CL.out.mono ?_; rintro e w4 ⟨rfl, hw4⟩; rw [hw4]; clear hw4)
    go_at_call 10
    refine C0.out.mono ?_
    rintro e w1 ⟨hb, rfl, h1⟩
    have H1 := hid (show Any W hb m w1 from ⟨_, _, h1⟩)
    clear C0 h1 CL
    go_wp2_with (fail)
    go_loopw [7] (fun i wr => ∃ k : Nat, k ≤ t ∧ i = .int .i64 (k : Nat) ∧ Hid (Any W hb m wr)) (fun i _ => t - (intOf i).toNat)
    case atStart => exact ⟨0, Nat.zero_le _, rfl, H1⟩
    case round =>
      obtain ⟨k, hk, rfl, HF⟩ := hrel
      by_cases hlt : k < t
      · have hlt' : (k : Int) < t := by omega
        have hk1 : wrap64 ((k : Int) + 1) = (k : Int) + 1 := by have := ht.out; unfold wrap64; omega
        obtain ⟨b, off, rfl⟩ : ∃ b off, a = some ⟨b, off, none⟩ := by
          rcases HS.out.shape with h | h
          · have := HL.out; omega
          · exact h
        have hbel : Below W.heap.size W wr := by obtain ⟨sc, L, h⟩ := HF.out; exact h.2
        obtain ⟨hok, hbl, x0, x1, x2⟩ := (HS.out.below hbel).at (j := k) (by rw [HL.out]; exact hlt)
        have HOK := hid hok
        generalize ss[k]'(by rw [HL.out]; exact hlt) = q at *
        obtain ⟨kd, v, by_⟩ := q
        simp only at x0 x1 x2
        clear hok hbel
        have hr := mod8 HOK.out.kind.1
        simp only at hr
        have HA := hid (HF.out.below (below_box wr (.cells #[.int .u8 kd, .int .i64 v, .int .i64 by_] 33)))
        have P1 := hid (HA.out.push v)
        have P2 := hid HA.out.pop
        have P3 := hid (HA.out.remove v)
        have P4 := hid (HA.out.bump v by_)
        clear HF HOK
        rcases hr with hr | hr | hr | hr | hr | hr | hr | hr
        · go_wp2_with (go_at_call 16; refine P1.out.mono ?_; rintro e w3 ⟨r, rfl, h3⟩)
          simp only [hk1]
          go_roundw
          case rel => exact ⟨k + 1, hlt, rfl, hid h3⟩
          case measure => simp only [intOf]; exact meas4 hlt
        · go_wp2_with (go_at_call 16; refine P1.out.mono ?_; rintro e w3 ⟨r, rfl, h3⟩)
          simp only [hk1]
          go_roundw
          case rel => exact ⟨k + 1, hlt, rfl, hid h3⟩
          case measure => simp only [intOf]; exact meas4 hlt
        · go_wp2_with (go_at_call 17; refine P2.out.mono ?_; rintro e w3 ⟨r, r2, rfl, h3⟩)
          simp only [hk1]
          go_roundw
          case rel => exact ⟨k + 1, hlt, rfl, hid h3⟩
          case measure => simp only [intOf]; exact meas4 hlt
        · go_wp2_with (go_at_call 18; refine P3.out.mono ?_; rintro e w3 ⟨r, rfl, h3⟩)
          simp only [hk1]
          go_roundw
          case rel => exact ⟨k + 1, hlt, rfl, hid h3⟩
          case measure => simp only [intOf]; exact meas4 hlt
        · go_wp2_with (go_at_call 19; refine P4.out.mono ?_; rintro e w3 ⟨r, r2, rfl, h3⟩)
          simp only [hk1]
          go_roundw
          case rel => exact ⟨k + 1, hlt, rfl, hid h3⟩
          case measure => simp only [intOf]; exact meas4 hlt
        · go_wp2_with (go_at_call 19; refine P4.out.mono ?_; rintro e w3 ⟨r, r2, rfl, h3⟩)
          simp only [hk1]
          go_roundw
          case rel => exact ⟨k + 1, hlt, rfl, hid h3⟩
          case measure => simp only [intOf]; exact meas4 hlt
        · go_wp2_with (fail)
          simp only [hk1]
          go_roundw
          case rel => exact ⟨k + 1, hlt, rfl, HA⟩
          case measure => simp only [intOf]; exact meas4 hlt
        · go_wp2_with (fail)
          simp only [hk1]
          go_roundw
          case rel => exact ⟨k + 1, hlt, rfl, HA⟩
          case measure => simp only [intOf]; exact meas4 hlt
      · have hge : ¬ (k : Int) < t := by omega
        obtain ⟨sc, L, hx⟩ := HF.out
        obtain ⟨q, hL⟩ : ∃ q, L.length = q := ⟨_, rfl⟩
        have C1 := hid (order_n hx.1 hL)
        have HX := hid hx
        have HLn := hid hL
        have hq := hid (show q ≤ 100 by have := hx.1.len; have := hm.out; omega)
        clear hx HF hL HS HL H1
        go_wp2_with (fail)
        go_at_call 20
        refine C1.out.mono ?_
        rintro e w2 ⟨o, c, rfl, ho, hb2⟩
        have HP := hid (show PopJ W hb m sc L o q c 0 0 (.slice none 0 0) w2 from by
          have h := HX.out.2
          have hb3 : Below W.heap.size W w2 := h.trans (hb2.mono h.size)
          refine ⟨fun g => W.heap.size ≤ g ∧ g < wr.heap.size, HX.out.1.sharp hb2, own_base ho h.size, fun g e hm => ?_, World.ownsRow_nil _ _ _ _, fun g e => ?_, fun g e => ?_, fun g hm => hm.1, hb3⟩
          · have := (own_lt ho e).1; omega
          · cases e
          · cases e)
        have C2 := hid (size21 (HX.out.1.sharp hb2))
        rw [HLn.out] at C2
        have HS2 := hid (HX.out.1.srt)
        have HLT := hid (fun (x : Nat) (hx : x ∈ L) => HX.out.1.lt hx)
        clear C1 ho hb2 HX
        go_wp2_with (go_at_call 21; refine C2.out.mono ?_; rintro e w3 ⟨rfl, hw3⟩; rw [hw3]; clear hw3)
        go_loopw [11] (fun ov wr => ∃ j : Nat, j ≤ q ∧ Hid (PopJ W hb m sc L o q c j j ov wr)) (fun ov _ => q - slen ov)
        case atStart => exact ⟨0, Nat.zero_le _, HP⟩
        case round =>
          obtain ⟨j, hj, HJ⟩ := hrel
          obtain ⟨M, HI⟩ := HJ.out
          obtain ⟨oo, cc, rfl⟩ := own_slc HI.out
          have HI := hid HI
          by_cases hlt : j < q
          · have hjL : j < L.length := by rw [HLn.out]; exact hlt
            have hdr : L.drop j = L.getD j 0 :: L.drop (j + 1) := by rw [Hpp.getD_el L hjL]; exact List.drop_eq_getElem_cons hjL
            have hx := HI.out.hx
            rw [hdr] at hx
            have C3 := hid (pop17_ok hx)
            have hu : L.getD j 0 < m := hx.lt (.head _)
            have hou : L.getD j 0 ∉ L.drop (j + 1) := by
              have := hx.srt.nodup
              exact (List.nodup_cons.1 this).1
            have HU := hid hu
            have HOU := hid hou
            have HJL := hid hjL
            have hge2 : ¬ (q : Int) < j := by omega
            obtain ⟨u, hue⟩ : ∃ u, L.getD j 0 = u := ⟨_, rfl⟩
            rw [hue] at C3 HU HOU
            have HE := hid hue
            clear hx hdr hu hou hjL hue
            go_wp2_with (fail)
            go_at_call 17
            refine C3.out.mono ?_
            rintro e w5 ⟨rfl, h5⟩
            have HP5 := hid (HI.out.next h5)
            have C4 := hid (has22_ok h5.1 HU.out)
            rw [decide_eq_false HOU.out] at C4
            clear C3 h5 HI HJ
            by_cases hj0 : 0 < j
            · have hj0' : (0 : Int) < j := by omega
              have hw1 : wrap64 ((j : Int) - 1) = ((j - 1 : Nat) : Int) := by have := hq.out; unfold wrap64; omega
              have hjq : ((j - 1 : Nat) : Int) < j := by omega
              have hjp : (0 : Int) ≤ ((j - 1 : Nat) : Int) := by omega
              obtain ⟨M5, HI5⟩ := HP5.out
              have y1 : ∃ b5, oo = some ⟨b5, 0, none⟩ ∧ w5.cell? ⟨b5, j - 1, none⟩ = some (.int .i64 ((L.getD (j - 1) 0 : Nat) + 1 : Int)) := by
                obtain ⟨b5, c5, e5, q5⟩ := own_at (own_base HI5.out (Nat.zero_le _)) hj0
                cases e5
                refine ⟨b5, rfl, ?_⟩
                rw [q5 (j - 1) (by omega)]
                have : (L.take j).getD (j - 1) 0 = L.getD (j - 1) 0 := by
                  rw [List.getD_eq_getElem?_getD, List.getD_eq_getElem?_getD, List.getElem?_take_of_lt (by omega)]
                rw [this]
              obtain ⟨b5, rfl, y1⟩ := y1
              have hbf : Hpp.bef sc (L.getD (j - 1) 0) (L.getD j 0) := by
                rw [Hpp.getD_el L (by have := HJL.out; omega), Hpp.getD_el L HJL.out]
                exact List.pairwise_iff_getElem.1 HS2.out (j - 1) j _ _ (by omega)
              rw [HE.out] at hbf
              have hv : L.getD (j - 1) 0 < m := HLT.out _ (by rw [Hpp.getD_el L (by have := HJL.out; omega)]; exact List.getElem_mem _)
              have HV := hid hv
              have HBF := hid hbf
              generalize L.getD (j - 1) 0 = v at *
              have SV := hid (fun (w : World) (hb : PopJ W hb m sc L o q c (j + 1) j (.slice (some ⟨b5, 0, none⟩) j cc) w) => show Calls Try.prog 23 #[.pointer (some ⟨_, 0, none⟩), .int .i64 ((v : Int) + 1)] w fun e w' => e = .returned (.int .i64 (sc.getD v 0)) ∧ Drawn w w' from by
                obtain ⟨M, h⟩ := hb
                exact score23_ok h.hx HV.out)
              have SU := hid (fun (w : World) (hb : PopJ W hb m sc L o q c (j + 1) j (.slice (some ⟨b5, 0, none⟩) j cc) w) => show Calls Try.prog 23 #[.pointer (some ⟨_, 0, none⟩), .int .i64 ((u : Int) + 1)] w fun e w' => e = .returned (.int .i64 (sc.getD u 0)) ∧ Drawn w w' from by
                obtain ⟨M, h⟩ := hb
                exact score23_ok h.hx HU.out)
              clear hbf hv HI5
              rcases HBF.out with hs | ⟨hs, hvu⟩
              · have hs1 : ¬ sc.getD v 0 < sc.getD u 0 := by omega
                have hs2 : (sc.getD v 0 == sc.getD u 0) = false := by rw [beq_eq_false_iff_ne]; omega
                generalize sc.getD v 0 = s1 at *
                generalize sc.getD u 0 = s2 at *
                clear hs HBF
                go_wp2_with (go_at_call 22; refine C4.out.mono ?_; rintro e w6 ⟨rfl, hw6⟩; rw [hw6]; clear hw6)
                go_at_call 23
                refine (SV.out _ HP5.out).mono ?_
                rintro e w6 ⟨rfl, hd6⟩
                have HP6 := hid (HP5.out.below hd6.below)
                clear hd6
                go_wp2_with (fail)
                go_at_call 23
                refine (SU.out _ HP6.out).mono ?_
                rintro e w7 ⟨rfl, hd7⟩
                have HP7 := hid (HP6.out.below hd7.below)
                clear hd7
                go_wp2_with (fail)
                go_at_call 23
                refine (SV.out _ HP7.out).mono ?_
                rintro e w8 ⟨rfl, hd8⟩
                have HP8 := hid (HP7.out.below hd8.below)
                clear hd8
                go_wp2_with (fail)
                go_at_call 23
                refine (SU.out _ HP8.out).mono ?_
                rintro e w9 ⟨rfl, hd9⟩
                have HP9 := hid (HP8.out.below hd9.below)
                clear hd9
                obtain ⟨g, c9, X, hr, hP⟩ := HP9.out.more HJL.out (by have := hq.out; omega)
                rw [HE.out] at hr
                have HRN := hid hr
                have HPX := hid hP
                clear hr hP HP5 HP6 HP7 HP8 HP9 SV SU
                go_wp2_with (at_builtin; refine wpList_append_run rfl (.tmp 116) (.tmp 118) 42 42 rfl rfl rfl HRN.out ?_)
                go_roundw
                case rel => exact ⟨j + 1, hlt, HPX⟩
                case measure => simp only [slen]; omega
              · have hs1 : ¬ sc.getD v 0 < sc.getD u 0 := by omega
                have hs2 : (sc.getD v 0 == sc.getD u 0) = true := by rw [beq_iff_eq]; exact hs
                have hvu' : ¬ (u : Int) + 1 ≤ (v : Int) + 1 := by omega
                generalize sc.getD v 0 = s1 at *
                generalize sc.getD u 0 = s2 at *
                clear hs HBF hvu
                go_wp2_with (go_at_call 22; refine C4.out.mono ?_; rintro e w6 ⟨rfl, hw6⟩; rw [hw6]; clear hw6)
                go_at_call 23
                refine (SV.out _ HP5.out).mono ?_
                rintro e w6 ⟨rfl, hd6⟩
                have HP6 := hid (HP5.out.below hd6.below)
                clear hd6
                go_wp2_with (fail)
                go_at_call 23
                refine (SU.out _ HP6.out).mono ?_
                rintro e w7 ⟨rfl, hd7⟩
                have HP7 := hid (HP6.out.below hd7.below)
                clear hd7
                go_wp2_with (fail)
                go_at_call 23
                refine (SV.out _ HP7.out).mono ?_
                rintro e w8 ⟨rfl, hd8⟩
                have HP8 := hid (HP7.out.below hd8.below)
                clear hd8
                go_wp2_with (fail)
                go_at_call 23
                refine (SU.out _ HP8.out).mono ?_
                rintro e w9 ⟨rfl, hd9⟩
                have HP9 := hid (HP8.out.below hd9.below)
                clear hd9
                obtain ⟨g, c9, X, hr, hP⟩ := HP9.out.more HJL.out (by have := hq.out; omega)
                rw [HE.out] at hr
                have HRN := hid hr
                have HPX := hid hP
                clear hr hP HP5 HP6 HP7 HP8 HP9 SV SU
                go_wp2_with (at_builtin; refine wpList_append_run rfl (.tmp 116) (.tmp 118) 42 42 rfl rfl rfl HRN.out ?_)
                go_roundw
                case rel => exact ⟨j + 1, hlt, HPX⟩
                case measure => simp only [slen]; omega
            · have hj0' : ¬ (0 : Int) < j := by omega
              obtain ⟨g, c9, X, hr, hP⟩ := HP5.out.more HJL.out (by have := hq.out; omega)
              rw [HE.out] at hr
              have HRN := hid hr
              have HPX := hid hP
              clear hr hP HP5
              go_wp2_with (first
                | (go_at_call 22; refine C4.out.mono ?_; rintro e w6 ⟨rfl, hw6⟩; rw [hw6]; clear hw6)
                | (at_builtin; refine wpList_append_run rfl (.tmp 116) (.tmp 118) 42 42 rfl rfl rfl HRN.out ?_))
              go_roundw
              case rel => exact ⟨j + 1, hlt, HPX⟩
              case measure => simp only [slen]; omega
          · have hjq : j = q := by omega
            subst hjq
            have hdr : L.drop j = [] := List.drop_of_length_le (by rw [HLn.out]; exact Nat.le_refl _)
            have htk : L.take j = L := List.take_of_length_le (by rw [HLn.out]; exact Nat.le_refl _)
            have hx := HI.out.hx
            rw [hdr] at hx
            have ho := HI.out.out
            rw [htk] at ho
            have C3 := hid (pop17_no hx)
            have C4 := hid (same24 (own_base ho (Nat.zero_le _)) (own_base HI.out.row (Nat.zero_le _)) (by have := hq.out; omega))
            rw [decide_eq_true rfl] at C4
            have HB := hid HI.out.bel
            have C5 := hid (fun (w : World) (hd : Drawn _ w) => size21 (hx.below hd.below).1)
            rw [show ((([] : List Nat).length : Nat) : Int) = 0 from rfl] at C5
            clear hx hdr htk ho HI HJ
            go_wp2_with (fail)
            go_at_call 17
            refine C3.out.mono ?_
            rintro e w5 ⟨rfl, hw5⟩
            rw [hw5]
            clear hw5 C3
            go_wp2_with (fail)
            go_at_call 24
            refine C4.out.mono ?_
            rintro e w6 ⟨rfl, hd6⟩
            have D5 := hid (C5.out _ hd6)
            have HB6 := hid (HB.out.trans (hd6.below.mono HB.out.size))
            have C6 := hid (works9 w6)
            clear C4 hd6 C5
            go_wp2_with (go_at_call 21; refine D5.out.mono ?_; rintro e w7 ⟨rfl, hw7⟩; rw [hw7]; clear hw7)
            go_at_call 9
            refine C6.out.mono ?_
            rintro e w8 ⟨rfl, hb8⟩
            go_wp2
            go_ret
            exact ⟨rfl, HB6.out.trans (hb8.mono HB6.out.size)⟩
end Go.Proofs.Ytjbnkkjihcoojaa
