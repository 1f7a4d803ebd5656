/- Whether two formulas say the same, by the document's own function. -/
import Derived.Test.YtccncojidkdddaaRefImp
namespace Tru
/-- Whether each of the first j models makes both true or both not. -/
def alikeTo (cs ds : List (List Int)) (u : Nat) : Nat → Bool
  | 0 => true
  | j + 1 => alikeTo cs ds u j && (sat cs u j == sat ds u j)
theorem alikeTo_false (cs ds : List (List Int)) (u j : Nat) (h : (sat cs u j == sat ds u j) = false) : ∀ N, j < N → alikeTo cs ds u N = false := by
  intro N
  induction N with
  | zero => intro h; omega
  | succ N ih =>
    intro hN
    rw [alikeTo]
    by_cases hj : j = N
    · subst hj; rw [h, Bool.and_false]
    · rw [ih (by omega)]; rfl
end Tru
namespace Go.Proofs.Ytccncojidkdddaa
open Go.RowKit
set_option linter.unusedVariables false

/-- Two formulas boxed, and what came since. -/
def Far2 (w : World) (v0 v1 u0 u1 : Value) (W : World) : Prop := Far (w.alloc (.cells #[v0, v1] 24)) u0 u1 W
theorem Far2.one {w : World} {v0 v1 u0 u1 : Value} {W : World} (h : Far2 w v0 v1 u0 u1 W) : Far w v0 v1 W := Far.below h
theorem Far2.below {w : World} {v0 v1 u0 u1 : Value} {W : World} (h : Far2 w v0 v1 u0 u1 W) : Below w.heap.size w W := h.one.below
theorem Far2.on {w : World} {v0 v1 u0 u1 : Value} {W W' : World} (h : Far2 w v0 v1 u0 u1 W) (hb : Below W.heap.size W W') : Far2 w v0 v1 u0 u1 W' := Far.on h hb
theorem Far2.c0 {w : World} {v0 v1 u0 u1 : Value} {W : World} (h : Far2 w v0 v1 u0 u1 W) : W.cell? ⟨w.heap.size, 0, none⟩ = some v0 := h.one.c0
theorem Far2.c1 {w : World} {v0 v1 u0 u1 : Value} {W : World} (h : Far2 w v0 v1 u0 u1 W) : W.cell? ⟨w.heap.size, 1, none⟩ = some v1 := h.one.c1
theorem Far2.d0 {w : World} {v0 v1 u0 u1 : Value} {W : World} (h : Far2 w v0 v1 u0 u1 W) : W.cell? ⟨w.heap.size + 1, 0, none⟩ = some u0 := by
  have := Far.c0 h; simpa using this
theorem Far2.d1 {w : World} {v0 v1 u0 u1 : Value} {W : World} (h : Far2 w v0 v1 u0 u1 W) : W.cell? ⟨w.heap.size + 1, 1, none⟩ = some u1 := by
  have := Far.c1 h; simpa using this
theorem Far2.zero (w : World) (v0 v1 u0 u1 : Value) : Far2 w v0 v1 u0 u1 ((w.alloc (.cells #[v0, v1] 24)).alloc (.cells #[u0, u1] 24)) := Below.refl _ _

set_option maxHeartbeats 2000000 in
theorem alike17_err (vars wars : Int) (a b : Option Addr) (n cap m dap : Nat) (cs : List (List Int)) (w : World) (hn : cs.length = n) (hc : Cls w a cs) (ht : ¬ Tru.taken vars cs = 0) :
    Calls Try.prog 17 #[.agg #[.int .i64 vars, .slice a n cap], .agg #[.int .i64 wars, .slice b m dap]] w fun e w' => e = .returned (.tuple #[.bool false, .int .i64 (Tru.taken vars cs)]) ∧ Below w.heap.size w w' := by
  have C := hid (taken24 vars a n cap cs ((w.alloc (.cells #[.int .i64 vars, .slice a n cap] 24)).alloc (.cells #[.int .i64 wars, .slice b m dap] 24)) hn (hc.below (Far2.zero w _ _ _ _).below))
  generalize Tru.taken vars cs = t at ht C
  clear hc hn
  go_enter Try.func17, Try.ntmps17
  go_wp2_with (go_at_call 24; refine C.out.mono ?_; clear C; rintro e W2 ⟨rfl, hb⟩; have far := hid ((Far2.zero w (.int .i64 vars) (.slice a n cap) (.int .i64 wars) (.slice b m dap)).on hb); clear hb)
  go_ret2
  exact ⟨rfl, far.out.below⟩

set_option maxHeartbeats 2000000 in
theorem alike17_err2 (vars wars : Int) (a b : Option Addr) (n cap m dap : Nat) (cs ds : List (List Int)) (w : World) (hn : cs.length = n) (hc : Cls w a cs) (hm : ds.length = m) (hd : Cls w b ds) (ht : Tru.taken vars cs = 0) (hs : ¬ Tru.taken wars ds = 0) :
    Calls Try.prog 17 #[.agg #[.int .i64 vars, .slice a n cap], .agg #[.int .i64 wars, .slice b m dap]] w fun e w' => e = .returned (.tuple #[.bool false, .int .i64 (Tru.taken wars ds)]) ∧ Below w.heap.size w w' := by
  have C := hid (taken24 vars a n cap cs ((w.alloc (.cells #[.int .i64 vars, .slice a n cap] 24)).alloc (.cells #[.int .i64 wars, .slice b m dap] 24)) hn (hc.below (Far2.zero w _ _ _ _).below))
  rw [ht] at C
  have D := hid (fun (W : World) (h : Far2 w (.int .i64 vars) (.slice a n cap) (.int .i64 wars) (.slice b m dap) W) => taken24 wars b m dap ds W hm (hd.below h.below))
  generalize Tru.taken wars ds = t at hs D
  clear hc hn hm hd ht
  go_enter Try.func17, Try.ntmps17
  go_wp2_with (first
    | (go_at_call 24; refine C.out.mono ?_; clear C; rintro e W2 ⟨rfl, hb⟩; have far2 := ((Far2.zero w (.int .i64 vars) (.slice a n cap) (.int .i64 wars) (.slice b m dap)).on hb); have x0 := far2.d0; have x1 := far2.d1; have far := hid far2; clear far2 hb)
    | (go_at_call 24; refine (D.out _ far.out).mono ?_; clear D; rintro e W3 ⟨rfl, hb⟩; have farz := hid (far.out.on hb); clear hb))
  go_ret2
  exact ⟨rfl, farz.out.below⟩

set_option maxHeartbeats 2000000 in
theorem alike17_arg (vars wars : Int) (a b : Option Addr) (n cap m dap : Nat) (cs ds : List (List Int)) (w : World) (hn : cs.length = n) (hc : Cls w a cs) (hm : ds.length = m) (hd : Cls w b ds) (ht : Tru.taken vars cs = 0) (hs : Tru.taken wars ds = 0) (hne : (vars == wars) = false) :
    Calls Try.prog 17 #[.agg #[.int .i64 vars, .slice a n cap], .agg #[.int .i64 wars, .slice b m dap]] w fun e w' => e = .returned (.tuple #[.bool false, .int .i64 2]) ∧ Below w.heap.size w w' := by
  have C := hid (taken24 vars a n cap cs ((w.alloc (.cells #[.int .i64 vars, .slice a n cap] 24)).alloc (.cells #[.int .i64 wars, .slice b m dap] 24)) hn (hc.below (Far2.zero w _ _ _ _).below))
  rw [ht] at C
  have D := hid (fun (W : World) (h : Far2 w (.int .i64 vars) (.slice a n cap) (.int .i64 wars) (.slice b m dap) W) => taken24 wars b m dap ds W hm (hd.below h.below))
  rw [hs] at D
  clear hc hn hm hd ht hs
  go_enter Try.func17, Try.ntmps17
  go_wp2_with (first
    | (go_at_call 24; refine C.out.mono ?_; clear C; rintro e W2 ⟨rfl, hb⟩; have far2 := ((Far2.zero w (.int .i64 vars) (.slice a n cap) (.int .i64 wars) (.slice b m dap)).on hb); have x0 := far2.d0; have x1 := far2.d1; have far := hid far2; clear far2 hb)
    | (go_at_call 24; refine (D.out _ far.out).mono ?_; clear D; rintro e W3 ⟨rfl, hb⟩; have farz := far.out.on hb; have y0 := farz.c0; have y1 := farz.d0; replace farz := hid farz; clear hb))
  go_ret2
  exact ⟨rfl, farz.out.below⟩

set_option maxRecDepth 100000 in
set_option maxHeartbeats 8000000 in
theorem alike17 (u : Nat) (a b : Option Addr) (n cap m dap : Nat) (cs ds : List (List Int)) (w : World) (hn : cs.length = n) (hc : Cls w a cs) (hm : ds.length = m) (hd : Cls w b ds) (ht : Tru.taken u cs = 0) (hs : Tru.taken u ds = 0) (hu : u ≤ 16) (hN : n ≤ 1048576) (hL : cs.flatten.length ≤ 16777216) (hM : m ≤ 1048576) (hK : ds.flatten.length ≤ 16777216) :
    Calls Try.prog 17 #[.agg #[.int .i64 u, .slice a n cap], .agg #[.int .i64 u, .slice b m dap]] w fun e w' => e = .returned (.tuple #[.bool (Tru.alikeTo cs ds u (2 ^ u)), .int .i64 0]) ∧ Below w.heap.size w w' := by
  have C := hid (taken24 u a n cap cs ((w.alloc (.cells #[.int .i64 u, .slice a n cap] 24)).alloc (.cells #[.int .i64 u, .slice b m dap] 24)) hn (hc.below (Far2.zero w _ _ _ _).below))
  rw [ht] at C
  have D := hid (fun (W : World) (h : Far2 w (.int .i64 u) (.slice a n cap) (.int .i64 u) (.slice b m dap) W) => taken24 u b m dap ds W hm (hd.below h.below))
  rw [hs] at D
  obtain ⟨hpw, hp2⟩ := pow16 u hu
  have HL := hid (clause_bnd (w := w) (a := a) hL)
  have HK := hid (clause_bnd (w := w) (a := b) hK)
  have HC := hid hc
  have HN := hid hn
  have HNN := hid hN
  have HD := hid hd
  have HM := hid hm
  have HMM := hid hM
  have HU := hid hu
  generalize hP : 2 ^ u = P at hpw hp2
  have HP := hid hP
  clear hc hn ht hN hL hu hP hd hm hs hM hK
  go_enter Try.func17, Try.ntmps17
  go_wp2_with (first
    | (go_at_call 24; refine C.out.mono ?_; clear C; rintro e W2 ⟨rfl, hb⟩; have far2 := ((Far2.zero w (.int .i64 u) (.slice a n cap) (.int .i64 u) (.slice b m dap)).on hb); have x0 := far2.d0; have x1 := far2.d1; have far := hid far2; clear far2 hb)
    | (go_at_call 24; refine (D.out _ far.out).mono ?_; clear D; rintro e W3 ⟨rfl, hb⟩; have farz := far.out.on hb; have y0 := farz.c0; have y1 := farz.d0; replace farz := hid farz; clear hb))
  clear x0 x1 y0 y1 far
  go_loopw [7] (fun i wr => ∃ k : Nat, k ≤ P ∧ i = .int .i64 k ∧ Hid (Tru.alikeTo cs ds u k = true) ∧ Hid (Far2 w (.int .i64 u) (.slice a n cap) (.int .i64 u) (.slice b m dap) wr)) (fun i _ => P - (intOf i).toNat)
  case atStart => exact ⟨0, Nat.zero_le _, rfl, hid rfl, farz⟩
  case round =>
    clear farz
    obtain ⟨k, hk, rfl, HI, far⟩ := hrel
    have x0 := far.out.c0
    by_cases hkp : k < P
    · have hkp' : (k : Int) < P := by omega
      have C25 := hid (model25 k u wr (by omega) HU.out)
      obtain ⟨p, hp⟩ : ∃ p, Tru.sat cs u k = p := ⟨_, rfl⟩
      obtain ⟨q, hq⟩ : ∃ q, Tru.sat ds u k = q := ⟨_, rfl⟩
      have HSJ := hid (show (Tru.sat cs u k == Tru.sat ds u k) = (p == q) by rw [hp, hq])
      have HPS := hid (show Cnf.holds cs (Tru.model u k) = p from hp)
      have HQS := hid (show Cnf.holds ds (Tru.model u k) = q from hq)
      clear hp hq
      go_wp2_with (go_at_call 25; refine C25.out.mono ?_; clear C25; rintro e W4 ⟨⟨a4, cap4, rfl, hb4⟩, hw4⟩
                   have far4 := hid (far.out.on hw4)
                   replace hb4 := hid hb4
                   clear hw4 x0)
      have S1 : ∀ W, Below W4.heap.size W4 W → W.cell? ⟨w.heap.size, 0, none⟩ = some (.int .i64 u) ∧ W.cell? ⟨w.heap.size, 1, none⟩ = some (.slice a n cap) ∧ W.cell? ⟨w.heap.size + 1, 0, none⟩ = some (.int .i64 u) ∧ W.cell? ⟨w.heap.size + 1, 1, none⟩ = some (.slice b m dap) ∧ Below W4.heap.size W4 W := fun W hW => ⟨(far4.out.on hW).c0, (far4.out.on hW).c1, (far4.out.on hW).d0, (far4.out.on hW).d1, hW⟩
      have C26 := hid (fun (W : World) (hW : Below W4.heap.size W4 W) => (holds26 u a a4 n cap u cap4 cs (Tru.model u k) W HN.out (by have := HNN.out; omega) (Tru.model_len u k) (by have := HU.out; omega) HL.out (HC.out.below (far4.out.on hW).below) (hb4.out.below hW)).mono (R' := fun e w' => e = .returned (.bool p) ∧ w'.cell? ⟨w.heap.size, 0, none⟩ = some (.int .i64 u) ∧ w'.cell? ⟨w.heap.size, 1, none⟩ = some (.slice a n cap) ∧ w'.cell? ⟨w.heap.size + 1, 0, none⟩ = some (.int .i64 u) ∧ w'.cell? ⟨w.heap.size + 1, 1, none⟩ = some (.slice b m dap) ∧ Below W4.heap.size W4 w') fun e w' h => ⟨by rw [h.1, HPS.out], S1 w' (hW.trans (h.2.mono hW.size))⟩)
      have D26 := hid (fun (W : World) (hW : Below W4.heap.size W4 W) => (holds26 u b a4 m dap u cap4 ds (Tru.model u k) W HM.out (by have := HMM.out; omega) (Tru.model_len u k) (by have := HU.out; omega) HK.out (HD.out.below (far4.out.on hW).below) (hb4.out.below hW)).mono (R' := fun e w' => e = .returned (.bool q) ∧ w'.cell? ⟨w.heap.size, 0, none⟩ = some (.int .i64 u) ∧ w'.cell? ⟨w.heap.size, 1, none⟩ = some (.slice a n cap) ∧ w'.cell? ⟨w.heap.size + 1, 0, none⟩ = some (.int .i64 u) ∧ w'.cell? ⟨w.heap.size + 1, 1, none⟩ = some (.slice b m dap) ∧ Below W4.heap.size W4 w') fun e w' h => ⟨by rw [h.1, HQS.out], S1 w' (hW.trans (h.2.mono hW.size))⟩)
      have kk := S1 W4.drew (Below.refl _ _).drew
      have KK := hid kk
      clear kk S1
      clear far
      go_region_held3 (fun W => W.cell? ⟨w.heap.size, 0, none⟩ = some (.int .i64 u) ∧ W.cell? ⟨w.heap.size, 1, none⟩ = some (.slice a n cap) ∧ W.cell? ⟨w.heap.size + 1, 0, none⟩ = some (.int .i64 u) ∧ W.cell? ⟨w.heap.size + 1, 1, none⟩ = some (.slice b m dap) ∧ Below W4.heap.size W4 W)
        (first | exact KK.out | exact ⟨z0, z1, z2, z3, hb9⟩ | exact ⟨y0, y1, y2, y3, hb8⟩)
        (first
          | (go_at_call 26; refine (C26.out _ ?_).mono ?_; exact (Below.refl _ _).drew; clear C26; rintro e w8 ⟨rfl, y0, y1, y2, y3, hb8⟩)
          | (go_at_call 26; refine (D26.out _ hb8).mono ?_; clear D26; rintro e w9 ⟨rfl, z0, z1, z2, z3, hb9⟩))
      all_goals
        have far9 := hid (far4.out.on hb9)
        clear hb8 hb9 y0 y1 y2 y3 z0 z1 z2 z3 KK
        cases p <;> cases q
        · go_wp2
          go_roundw
          case rel => exact ⟨k + 1, by omega, by go_num, hid (by rw [Tru.alikeTo, HI.out, HSJ.out]; rfl), far9⟩
          case measure => simp [intOf]; omega
        · go_wp2
          go_ret2
          exact ⟨by rw [Tru.alikeTo_false cs ds u k HSJ.out P hkp]; rfl, far9.out.below⟩
        · go_wp2
          go_ret2
          exact ⟨by rw [Tru.alikeTo_false cs ds u k HSJ.out P hkp]; rfl, far9.out.below⟩
        · go_wp2
          go_roundw
          case rel => exact ⟨k + 1, by omega, by go_num, hid (by rw [Tru.alikeTo, HI.out, HSJ.out]; rfl), far9⟩
          case measure => simp [intOf]; omega
    · have hge : ¬ (k : Int) < P := by omega
      obtain rfl : k = P := by omega
      go_wp2
      go_ret2
      exact ⟨by rw [HI.out]; rfl, far.out.below⟩
end Go.Proofs.Ytccncojidkdddaa
