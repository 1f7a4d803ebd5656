/- works: the examples' heap. -/
import Derived.Test.YtjbnkkjihcoojaaSam
namespace Go.Proofs.Ytjbnkkjihcoojaa
open Go.RowKit Go.Maps
set_option linter.unusedVariables false
set_option maxRecDepth 100000

/-- A heap all of whose memory is new. -/
def HxN (W0 : World) (hb n : Nat) (sc : List Int) (L : List Nat) (w : World) : Prop := Hx (fun g => W0.heap.size ≤ g) hb n sc L w ∧ Below W0.heap.size W0 w
theorem Hx.more {M M' : Nat → Prop} {hb n : Nat} {sc : List Int} {L : List Nat} {W : World} (h : Hx M hb n sc L W) (hm : ∀ g, M g → M' g) : Hx M' hb n sc L W := by
  obtain ⟨sv, pv, lv, vs, pl, h1, h2⟩ := h
  exact ⟨sv, pv, lv, vs, pl, h1.less (fun g hq => ⟨hq.1, fun k => hq.2 (hm g k)⟩), h2⟩
theorem HxN.next {W0 : World} {hb n : Nat} {sc sc' : List Int} {L L' : List Nat} {w w' : World} (h : HxN W0 hb n sc L w) (k : HxO (fun g => W0.heap.size ≤ g) hb n sc' L' w w') : HxN W0 hb n sc' L' w' := by
  have hs := h.2.size
  refine ⟨k.1.more (fun g hg => hg.elim id (fun h => Nat.le_trans hs h)), h.2.trans (k.2.below hs (fun g hg => ⟨by omega, by omega⟩))⟩
theorem HxN.below {W0 : World} {hb n : Nat} {sc : List Int} {L : List Nat} {w w' : World} (h : HxN W0 hb n sc L w) (hb' : Below w.heap.size w w') : HxN W0 hb n sc L w' := h.next (h.1.below hb')
theorem HxN.push {W0 : World} {hb n : Nat} {sc : List Int} {L : List Nat} {w : World} (h : HxN W0 hb n sc L w) {u : Nat} (hu : u < n) (hm : u ∉ L) (K : List Nat) (hK : Hpp.ins sc u L = K) :
    Calls Try.prog 16 #[.pointer (some ⟨hb, 0, none⟩), .int .i64 ((u : Int) + 1)] w fun e w' => e = .returned (.int .i64 0) ∧ HxN W0 hb n sc K w' := by
  subst hK
  exact (push16_ok h.1 hu hm).mono fun e w' ⟨he, hw⟩ => ⟨he, h.next hw⟩
theorem HxN.bump {W0 : World} {hb n : Nat} {sc : List Int} {L : List Nat} {w : World} (h : HxN W0 hb n sc L w) {u : Nat} (hu : u < n) (by_ : Int) (h1 : 0 ≤ by_) (h2 : by_ ≤ 1152921504606846976) (h3 : sc.getD u 0 + by_ ≤ 1152921504606846976) (sc' : List Int) (K : List Nat) (hs : sc.set u (sc.getD u 0 + by_) = sc') (hK : Hpp.srt sc' L = K) :
    Calls Try.prog 19 #[.pointer (some ⟨hb, 0, none⟩), .int .i64 ((u : Int) + 1), .int .i64 by_] w fun e w' => e = .returned (.tuple #[.bool false, .int .i64 0]) ∧ HxN W0 hb n sc' K w' := by
  subst hs
  subst hK
  exact (bump19_ok h.1 hu by_ h1 h2 h3).mono fun e w' ⟨he, hw⟩ => ⟨he, h.next hw⟩
theorem HxN.bumpH {W0 : World} {hb n : Nat} {sc : List Int} {L : List Nat} {w : World} (h : HxN W0 hb n sc L w) {u : Nat} (hu : u < n) (by_ : Int) (h1 : 0 ≤ by_) (h2 : by_ ≤ 1152921504606846976) (h3 : 1152921504606846976 < sc.getD u 0 + by_) (sc' : List Int) (K : List Nat) (hs : Hpp.halves (sc.set u (sc.getD u 0 + by_)) = sc') (hK : Hpp.srt sc' L = K) :
    Calls Try.prog 19 #[.pointer (some ⟨hb, 0, none⟩), .int .i64 ((u : Int) + 1), .int .i64 by_] w fun e w' => e = .returned (.tuple #[.bool true, .int .i64 0]) ∧ HxN W0 hb n sc' K w' := by
  subst hs
  subst hK
  exact (bump19_up h.1 hu by_ h1 h2 h3).mono fun e w' ⟨he, hw⟩ => ⟨he, h.next hw⟩
theorem HxN.top {W0 : World} {hb n u : Nat} {sc : List Int} {L : List Nat} {w : World} (h : HxN W0 hb n sc (u :: L) w) :
    Calls Try.prog 27 #[.pointer (some ⟨hb, 0, none⟩)] w fun e w' => e = .returned (.tuple #[.int .i64 ((u : Int) + 1), .bool true]) ∧ HxN W0 hb n sc (u :: L) w' :=
  (top27_ok h.1).mono fun e w' ⟨he, hw⟩ => ⟨he, h.below hw.below⟩
theorem HxN.pop {W0 : World} {hb n u : Nat} {sc : List Int} {L : List Nat} {w : World} (h : HxN W0 hb n sc (u :: L) w) :
    Calls Try.prog 17 #[.pointer (some ⟨hb, 0, none⟩)] w fun e w' => e = .returned (.tuple #[.int .i64 ((u : Int) + 1), .bool true]) ∧ HxN W0 hb n sc L w' :=
  (pop17_ok h.1).mono fun e w' ⟨he, hw⟩ => ⟨he, h.next hw⟩
theorem HxN.order {W0 : World} {hb n : Nat} {sc : List Int} {L : List Nat} {w : World} (h : HxN W0 hb n sc L w) (hs : Sorts L.length) :
    Calls Try.prog 20 #[.pointer (some ⟨hb, 0, none⟩)] w fun e w' => ∃ o c, e = .returned (.slice o L.length c) ∧ w'.ownsRow 0 3 1 (.slice o L.length c) L.length (ivs L) ∧ HxN W0 hb n sc L w' :=
  (order20_of h.1 hs).mono fun e w' ⟨o, c, he, ho, hb'⟩ => ⟨o, c, he, own_base ho (Nat.zero_le _), h.below hb'⟩
theorem HxN.new (n : Nat) (W : World) (hn : n ≤ 1048576) : Calls Try.prog 10 #[.int .i64 n] W fun e w' => ∃ hb, e = .returned (.tuple #[.pointer (some ⟨hb, 0, none⟩), .int .i64 0]) ∧ HxN W hb n (zer n) [] w' :=
  (new10 n W hn).mono fun e w' ⟨hb, he, h1, h2⟩ => ⟨hb, he, h1, h2⟩
/-- A row of two. -/
theorem two_row (W : World) (x y : Nat) : (W.alloc (.cells #[.int .i64 ((x : Int) + 1), .int .i64 ((y : Int) + 1)] 3)).ownsRow 0 3 1 (.slice (some ⟨W.heap.size, 0, none⟩) 2 2) 2 (ivs [x, y]) :=
  own_mk (Nat.zero_le _) (heap_alloc_new W _) (Nat.le_refl _) (by unfold maxLen; omega) rfl rfl
set_option maxHeartbeats 2000000 in
theorem works9 (W : World) : Calls Try.prog 9 #[] W fun e w' => e = .returned (.bool true) ∧ Below W.heap.size W w' := by
  have C0 := hid (HxN.new 4 W (by omega))
  rw [show ((4 : Nat) : Int) = 4 from rfl] at C0
  have Z := hid (show zer 4 = [0, 0, 0, 0] from rfl)
  rw [Z.out] at C0
  clear Z
  go_enter Try.func9, Try.ntmps9
  go_wp2_with (fail)
  go_at_call 10
  refine C0.out.mono ?_
  rintro e w1 ⟨hb, rfl, h1⟩
  have C1 := hid (h1.push (u := 2) (by omega) (by simp) [2] (by decide))
  rw [show (((2 : Nat) : Int) + 1) = 3 from rfl] at C1
  clear C0 h1
  go_wp2_with (fail)
  go_at_call 16
  refine C1.out.mono ?_
  rintro e w2 ⟨rfl, h2⟩
  have C2 := hid (h2.push (u := 0) (by omega) (by simp) [0, 2] (by decide))
  rw [show (((0 : Nat) : Int) + 1) = 1 from rfl] at C2
  clear C1 h2
  go_wp2_with (fail)
  go_at_call 16
  refine C2.out.mono ?_
  rintro e w3 ⟨rfl, h3⟩
  have C3 := hid h3.top
  rw [show (((0 : Nat) : Int) + 1) = 1 from rfl] at C3
  clear C2 h3
  go_wp2_with (fail)
  go_at_call 27
  refine C3.out.mono ?_
  rintro e w4 ⟨rfl, h4⟩
  have C4 := hid (h4.bump (u := 2) (by omega) 5 (by omega) (by omega) (by decide) [0, 0, 5, 0] [2, 0] (by decide) (by decide))
  rw [show (((2 : Nat) : Int) + 1) = 3 from rfl] at C4
  clear C3 h4
  go_wp2_with (fail)
  go_at_call 19
  refine C4.out.mono ?_
  rintro e w5 ⟨rfl, h5⟩
  have C5 := hid (h5.order (sorts_few (by decide)))
  rw [show ([2, 0] : List Nat).length = 2 from rfl] at C5
  clear C4 h5
  go_wp2_with (fail)
  go_at_call 20
  refine C5.out.mono ?_
  rintro e w6 ⟨o, c, rfl, ho, h6⟩
  have hr := two_row w6 2 0
  rw [show (((2 : Nat) : Int) + 1) = 3 from rfl, show (((0 : Nat) : Int) + 1) = 1 from rfl] at hr
  have hbx := below_box w6 (.cells #[.int .i64 3, .int .i64 1] 3)
  have C6 := hid (same24 (own_below ho hbx) hr (by omega))
  rw [show decide (([2, 0] : List Nat) = [2, 0]) = true by decide] at C6
  have H7 := hid (h6.below hbx)
  clear C5 h6 ho hr hbx
  go_wp2_with (fail)
  go_at_call 24
  refine C6.out.mono ?_
  rintro e w7 ⟨rfl, hd7⟩
  have H8 := hid (H7.out.below hd7.below)
  have C7 := hid (size21 H8.out.1)
  rw [show ((([2, 0] : List Nat).length : Nat) : Int) = 2 from rfl] at C7
  clear C6 hd7
  go_wp2_with (fail)
  go_at_call 21
  refine C7.out.mono ?_
  rintro e w8 ⟨rfl, hw8⟩
  rw [hw8]
  clear hw8 C7
  go_wp2
  go_ret
  exact ⟨rfl, H8.out.2⟩
end Go.Proofs.Ytjbnkkjihcoojaa
