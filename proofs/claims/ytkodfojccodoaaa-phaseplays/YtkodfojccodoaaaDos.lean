/- A call of a store, without copies. -/
import Derived.Test.YtkodfojccodoaaaTrx
import Derived.Test.YtkodfojccodoaaaOpa
namespace Go.Proofs.Ytkodfojccodoaaa
open Go.RowKit Go.Maps
set_option linter.unusedVariables false
set_option linter.unusedSimpArgs false
set_option maxRecDepth 100000
def draw (P : Ph.St) : Ph.St := { P with s := drw P.s }
/-- What is drawn, and what is left. -/
def doV (P : Ph.St) (s : Opr) : Int := if s.kind % 9 = 6 then drw P.s else 1
def doP (n : Nat) (P : Ph.St) (s : Opr) : Ph.St :=
  if s.kind % 9 = 1 ∨ s.kind % 9 = 2 then Ph.sP n P s.l else if s.kind % 9 = 3 ∨ s.kind % 9 = 4 then Ph.rP n P s.l else if s.kind % 9 = 5 then Ph.turn n P else if s.kind % 9 = 6 then draw P else P
section
variable {N : Nat} {A : Adr} {n : Nat} {K : Int} {P : Ph.St} {W : World}
def TurnN (N : Nat) (A : Adr) (n : Nat) (K : Int) (P : Ph.St) (W : World) (e : Ending) (w' : World) : Prop :=
  e = .returned (.tuple #[.int .u8 ((Ph.knd P.k : Nat) : Int), .int .i64 0]) ∧ Pn N A n K (Ph.turn n P) w' ∧ Below N W w' ∧ Fa A W w'
theorem Pn.turn (H : Pn N A n K P W) (hN : N ≤ W.heap.size) : Calls Try.prog 17 #[.pointer (some ⟨A.pb, 0, none⟩)] W fun e w' => TurnN N A n K P W e w' := by
  refine (turn17 H.px).mono ?_
  rintro e w' ⟨rfl, q, _, f⟩
  rw [H.hn] at q
  exact ⟨rfl, ⟨q, H.new, H.hn⟩, H.bel hN f, f⟩
def DrawN (N : Nat) (A : Adr) (n : Nat) (K : Int) (P : Ph.St) (W : World) (e : Ending) (w' : World) : Prop :=
  e = .returned (.int .u64 (drw P.s)) ∧ Pn N A n K (Go.Proofs.Ytkodfojccodoaaa.draw P) w' ∧ Below N W w' ∧ Fa A W w'
theorem Pn.draw (H : Pn N A n K P W) (hN : N ≤ W.heap.size) : Calls Try.prog 22 #[.pointer (some ⟨A.pb, 0, none⟩)] W fun e w' => DrawN N A n K P W e w' := by
  obtain ⟨nt, mt, nb, mb, q, hT, hB, k1, k2, k3, k4⟩ := H.px
  refine (draw22 q ⟨by have := k4.1; omega, k4.2⟩).mono ?_
  rintro e w' ⟨rfl, q2, f⟩
  exact ⟨rfl, ⟨⟨nt, mt, nb, mb, q2, hT, hB, k1, k2, k3, drw_us k4⟩, H.new, H.hn⟩, H.bel hN f, f⟩
def DoesO (N : Nat) (A : Adr) (n : Nat) (K : Int) (P : Ph.St) (s : Opr) (W : World) (e : Ending) (w' : World) : Prop :=
  e = .returned (.int .u64 (doV P s)) ∧ Pn N A n (K + 2) (doP n P s) w' ∧ Below N W w' ∧ Fa A W w'
theorem mod9 {x : Int} (h : 0 ≤ x ∧ x ≤ 255) : IntKind.u8.wrap (x.tmod 9) = x % 9 ∧ x.tmod 9 = x % 9 := by
  have e : x.tmod 9 = x % 9 := Int.tmod_eq_emod_of_nonneg h.1
  rw [e]
  refine ⟨?_, rfl⟩
  simp [IntKind.wrap, IntKind.bits, IntKind.signed]; omega
set_option maxHeartbeats 4000000 in
theorem does16_0 (H : Pn N A n K P W) (hN : N ≤ W.heap.size) (hK : K + 3 ≤ 4611686018427387904) {s : Opr} {a : Option Addr} {ca : Nat} (hk : 0 ≤ s.kind ∧ s.kind ≤ 255) (h : Lw W a s.l) (hap : ∀ b off, a = some ⟨b, off, none⟩ → 0 < s.l.length → ¬ A.own b) (hl : s.l.length ≤ maxLen) (hr : s.kind % 9 = 0) :
    Calls Try.prog 16 #[.pointer (some ⟨A.pb, 0, none⟩), .agg #[.int .u8 s.kind, .int .i64 s.v, .slice a s.l.length ca]] W fun e w' => DoesO N A n K P s W e w' := by
  obtain ⟨hm1, hm2⟩ := mod9 hk
  rw [hr] at hm1 hm2
  have hV : doV P s = 1 := by unfold doV; rw [hr]; rfl
  have hP : doP n P s = P := by unfold doP; rw [hr]; rfl
  have bx := below_box W (.cells #[.int .u8 s.kind, .int .i64 s.v, .slice a s.l.length ca] 35)
  have H1 := H.below bx
  have h1 := h.all bx
  have hN1 : N ≤ (W.alloc (.cells #[.int .u8 s.kind, .int .i64 s.v, .slice a s.l.length ca] 35)).heap.size := by have := bx.size; omega
  have hap1 := hap
  have HU := hid (And.intro ((Fq.refl (fun _ => True) (W.alloc (.cells #[.int .u8 s.kind, .int .i64 s.v, .slice a s.l.length ca] 35))).below hN1 (fun _ _ => trivial)) H1)
  have C := hid (H1.decide' s.v)
  have HO := hid (fun (w : World) (q : Pn N A n K (P) w) (b : Below N (W.alloc (.cells #[.int .u8 s.kind, .int .i64 s.v, .slice a s.l.length ca] 35)) w) (f : Fa A (W.alloc (.cells #[.int .u8 s.kind, .int .i64 s.v, .slice a s.l.length ca] 35)) w) => show DoesO N A n K P s W (.returned (.int .u64 (1))) w from by
    unfold DoesO
    rw [hV, hP]
    exact ⟨rfl, q.mono (by omega) (by omega), (bx.mono hN).trans b, (Fq.of_below bx).trans f⟩)
  generalize s.l.length = z at *
  generalize s.kind = kd at *
  generalize s.v = v at *
  clear hk hV hP H h hap hl hr bx H1 h1 hap1 hN1
  go_enter Try.func16, Try.ntmps16
  go_wp2_with (go_at_call 20; refine C.out.mono ?_; rintro e w4 ⟨rfl, hw4⟩; rw [hw4]; clear hw4)
  go_ret
  exact HO.out _ HU.out.2 HU.out.1 (Fq.refl _ _)
set_option maxHeartbeats 4000000 in
theorem does16_1 (H : Pn N A n K P W) (hN : N ≤ W.heap.size) (hK : K + 3 ≤ 4611686018427387904) {s : Opr} {a : Option Addr} {ca : Nat} (hk : 0 ≤ s.kind ∧ s.kind ≤ 255) (h : Lw W a s.l) (hap : ∀ b off, a = some ⟨b, off, none⟩ → 0 < s.l.length → ¬ A.own b) (hl : s.l.length ≤ maxLen) (hr : s.kind % 9 = 1) :
    Calls Try.prog 16 #[.pointer (some ⟨A.pb, 0, none⟩), .agg #[.int .u8 s.kind, .int .i64 s.v, .slice a s.l.length ca]] W fun e w' => DoesO N A n K P s W e w' := by
  obtain ⟨hm1, hm2⟩ := mod9 hk
  rw [hr] at hm1 hm2
  have hV : doV P s = 1 := by unfold doV; rw [hr]; rfl
  have hP : doP n P s = Ph.sP n P s.l := by unfold doP; rw [hr]; rfl
  have bx := below_box W (.cells #[.int .u8 s.kind, .int .i64 s.v, .slice a s.l.length ca] 35)
  have H1 := H.below bx
  have h1 := h.all bx
  have hN1 : N ≤ (W.alloc (.cells #[.int .u8 s.kind, .int .i64 s.v, .slice a s.l.length ca] 35)).heap.size := by have := bx.size; omega
  have hap1 := hap
  have HU := hid (And.intro ((Fq.refl (fun _ => True) (W.alloc (.cells #[.int .u8 s.kind, .int .i64 s.v, .slice a s.l.length ca] 35))).below hN1 (fun _ _ => trivial)) H1)
  have C := hid (H1.save hN1 (c := ca) h1 hap1 hl)
  have HO := hid (fun (w : World) (q : Pn N A n K (Ph.sP n P s.l) w) (b : Below N (W.alloc (.cells #[.int .u8 s.kind, .int .i64 s.v, .slice a s.l.length ca] 35)) w) (f : Fa A (W.alloc (.cells #[.int .u8 s.kind, .int .i64 s.v, .slice a s.l.length ca] 35)) w) => show DoesO N A n K P s W (.returned (.int .u64 (1))) w from by
    unfold DoesO
    rw [hV, hP]
    exact ⟨rfl, q.mono (by omega) (by omega), (bx.mono hN).trans b, (Fq.of_below bx).trans f⟩)
  generalize s.l.length = z at *
  generalize s.kind = kd at *
  generalize s.v = v at *
  clear hk hV hP H h hap hl hr bx H1 h1 hap1 hN1
  go_enter Try.func16, Try.ntmps16
  go_wp2_with (go_at_call 19; refine C.out.mono ?_; rintro e w4 ⟨rfl, q4, b4, f4⟩)
  go_ret
  exact HO.out _ q4 b4 f4
set_option maxHeartbeats 4000000 in
theorem does16_2 (H : Pn N A n K P W) (hN : N ≤ W.heap.size) (hK : K + 3 ≤ 4611686018427387904) {s : Opr} {a : Option Addr} {ca : Nat} (hk : 0 ≤ s.kind ∧ s.kind ≤ 255) (h : Lw W a s.l) (hap : ∀ b off, a = some ⟨b, off, none⟩ → 0 < s.l.length → ¬ A.own b) (hl : s.l.length ≤ maxLen) (hr : s.kind % 9 = 2) :
    Calls Try.prog 16 #[.pointer (some ⟨A.pb, 0, none⟩), .agg #[.int .u8 s.kind, .int .i64 s.v, .slice a s.l.length ca]] W fun e w' => DoesO N A n K P s W e w' := by
  obtain ⟨hm1, hm2⟩ := mod9 hk
  rw [hr] at hm1 hm2
  have hV : doV P s = 1 := by unfold doV; rw [hr]; rfl
  have hP : doP n P s = Ph.sP n P s.l := by unfold doP; rw [hr]; rfl
  have bx := below_box W (.cells #[.int .u8 s.kind, .int .i64 s.v, .slice a s.l.length ca] 35)
  have H1 := H.below bx
  have h1 := h.all bx
  have hN1 : N ≤ (W.alloc (.cells #[.int .u8 s.kind, .int .i64 s.v, .slice a s.l.length ca] 35)).heap.size := by have := bx.size; omega
  have hap1 := hap
  have HU := hid (And.intro ((Fq.refl (fun _ => True) (W.alloc (.cells #[.int .u8 s.kind, .int .i64 s.v, .slice a s.l.length ca] 35))).below hN1 (fun _ _ => trivial)) H1)
  have C := hid (H1.save hN1 (c := ca) h1 hap1 hl)
  have HO := hid (fun (w : World) (q : Pn N A n K (Ph.sP n P s.l) w) (b : Below N (W.alloc (.cells #[.int .u8 s.kind, .int .i64 s.v, .slice a s.l.length ca] 35)) w) (f : Fa A (W.alloc (.cells #[.int .u8 s.kind, .int .i64 s.v, .slice a s.l.length ca] 35)) w) => show DoesO N A n K P s W (.returned (.int .u64 (1))) w from by
    unfold DoesO
    rw [hV, hP]
    exact ⟨rfl, q.mono (by omega) (by omega), (bx.mono hN).trans b, (Fq.of_below bx).trans f⟩)
  generalize s.l.length = z at *
  generalize s.kind = kd at *
  generalize s.v = v at *
  clear hk hV hP H h hap hl hr bx H1 h1 hap1 hN1
  go_enter Try.func16, Try.ntmps16
  go_wp2_with (go_at_call 19; refine C.out.mono ?_; rintro e w4 ⟨rfl, q4, b4, f4⟩)
  go_ret
  exact HO.out _ q4 b4 f4
set_option maxHeartbeats 4000000 in
theorem does16_3 (H : Pn N A n K P W) (hN : N ≤ W.heap.size) (hK : K + 3 ≤ 4611686018427387904) {s : Opr} {a : Option Addr} {ca : Nat} (hk : 0 ≤ s.kind ∧ s.kind ≤ 255) (h : Lw W a s.l) (hap : ∀ b off, a = some ⟨b, off, none⟩ → 0 < s.l.length → ¬ A.own b) (hl : s.l.length ≤ maxLen) (hr : s.kind % 9 = 3) :
    Calls Try.prog 16 #[.pointer (some ⟨A.pb, 0, none⟩), .agg #[.int .u8 s.kind, .int .i64 s.v, .slice a s.l.length ca]] W fun e w' => DoesO N A n K P s W e w' := by
  obtain ⟨hm1, hm2⟩ := mod9 hk
  rw [hr] at hm1 hm2
  have hV : doV P s = 1 := by unfold doV; rw [hr]; rfl
  have hP : doP n P s = Ph.rP n P s.l := by unfold doP; rw [hr]; rfl
  have bx := below_box W (.cells #[.int .u8 s.kind, .int .i64 s.v, .slice a s.l.length ca] 35)
  have H1 := H.below bx
  have h1 := h.all bx
  have hN1 : N ≤ (W.alloc (.cells #[.int .u8 s.kind, .int .i64 s.v, .slice a s.l.length ca] 35)).heap.size := by have := bx.size; omega
  have hap1 := hap
  have HU := hid (And.intro ((Fq.refl (fun _ => True) (W.alloc (.cells #[.int .u8 s.kind, .int .i64 s.v, .slice a s.l.length ca] 35))).below hN1 (fun _ _ => trivial)) H1)
  have C := hid (H1.reach hN1 hK (c := ca) h1 hap1 hl)
  have HO := hid (fun (w : World) (q : Pn N A n (K + 2) (Ph.rP n P s.l) w) (b : Below N (W.alloc (.cells #[.int .u8 s.kind, .int .i64 s.v, .slice a s.l.length ca] 35)) w) (f : Fa A (W.alloc (.cells #[.int .u8 s.kind, .int .i64 s.v, .slice a s.l.length ca] 35)) w) => show DoesO N A n K P s W (.returned (.int .u64 (1))) w from by
    unfold DoesO
    rw [hV, hP]
    exact ⟨rfl, q, (bx.mono hN).trans b, (Fq.of_below bx).trans f⟩)
  generalize s.l.length = z at *
  generalize s.kind = kd at *
  generalize s.v = v at *
  clear hk hV hP H h hap hl hr bx H1 h1 hap1 hN1
  go_enter Try.func16, Try.ntmps16
  go_wp2_with (go_at_call 21; refine C.out.mono ?_; rintro e w4 ⟨rfl, q4, b4, f4⟩)
  go_ret
  exact HO.out _ q4 b4 f4
set_option maxHeartbeats 4000000 in
theorem does16_4 (H : Pn N A n K P W) (hN : N ≤ W.heap.size) (hK : K + 3 ≤ 4611686018427387904) {s : Opr} {a : Option Addr} {ca : Nat} (hk : 0 ≤ s.kind ∧ s.kind ≤ 255) (h : Lw W a s.l) (hap : ∀ b off, a = some ⟨b, off, none⟩ → 0 < s.l.length → ¬ A.own b) (hl : s.l.length ≤ maxLen) (hr : s.kind % 9 = 4) :
    Calls Try.prog 16 #[.pointer (some ⟨A.pb, 0, none⟩), .agg #[.int .u8 s.kind, .int .i64 s.v, .slice a s.l.length ca]] W fun e w' => DoesO N A n K P s W e w' := by
  obtain ⟨hm1, hm2⟩ := mod9 hk
  rw [hr] at hm1 hm2
  have hV : doV P s = 1 := by unfold doV; rw [hr]; rfl
  have hP : doP n P s = Ph.rP n P s.l := by unfold doP; rw [hr]; rfl
  have bx := below_box W (.cells #[.int .u8 s.kind, .int .i64 s.v, .slice a s.l.length ca] 35)
  have H1 := H.below bx
  have h1 := h.all bx
  have hN1 : N ≤ (W.alloc (.cells #[.int .u8 s.kind, .int .i64 s.v, .slice a s.l.length ca] 35)).heap.size := by have := bx.size; omega
  have hap1 := hap
  have HU := hid (And.intro ((Fq.refl (fun _ => True) (W.alloc (.cells #[.int .u8 s.kind, .int .i64 s.v, .slice a s.l.length ca] 35))).below hN1 (fun _ _ => trivial)) H1)
  have C := hid (H1.reach hN1 hK (c := ca) h1 hap1 hl)
  have HO := hid (fun (w : World) (q : Pn N A n (K + 2) (Ph.rP n P s.l) w) (b : Below N (W.alloc (.cells #[.int .u8 s.kind, .int .i64 s.v, .slice a s.l.length ca] 35)) w) (f : Fa A (W.alloc (.cells #[.int .u8 s.kind, .int .i64 s.v, .slice a s.l.length ca] 35)) w) => show DoesO N A n K P s W (.returned (.int .u64 (1))) w from by
    unfold DoesO
    rw [hV, hP]
    exact ⟨rfl, q, (bx.mono hN).trans b, (Fq.of_below bx).trans f⟩)
  generalize s.l.length = z at *
  generalize s.kind = kd at *
  generalize s.v = v at *
  clear hk hV hP H h hap hl hr bx H1 h1 hap1 hN1
  go_enter Try.func16, Try.ntmps16
  go_wp2_with (go_at_call 21; refine C.out.mono ?_; rintro e w4 ⟨rfl, q4, b4, f4⟩)
  go_ret
  exact HO.out _ q4 b4 f4
set_option maxHeartbeats 4000000 in
theorem does16_5 (H : Pn N A n K P W) (hN : N ≤ W.heap.size) (hK : K + 3 ≤ 4611686018427387904) {s : Opr} {a : Option Addr} {ca : Nat} (hk : 0 ≤ s.kind ∧ s.kind ≤ 255) (h : Lw W a s.l) (hap : ∀ b off, a = some ⟨b, off, none⟩ → 0 < s.l.length → ¬ A.own b) (hl : s.l.length ≤ maxLen) (hr : s.kind % 9 = 5) :
    Calls Try.prog 16 #[.pointer (some ⟨A.pb, 0, none⟩), .agg #[.int .u8 s.kind, .int .i64 s.v, .slice a s.l.length ca]] W fun e w' => DoesO N A n K P s W e w' := by
  obtain ⟨hm1, hm2⟩ := mod9 hk
  rw [hr] at hm1 hm2
  have hV : doV P s = 1 := by unfold doV; rw [hr]; rfl
  have hP : doP n P s = Ph.turn n P := by unfold doP; rw [hr]; rfl
  have bx := below_box W (.cells #[.int .u8 s.kind, .int .i64 s.v, .slice a s.l.length ca] 35)
  have H1 := H.below bx
  have h1 := h.all bx
  have hN1 : N ≤ (W.alloc (.cells #[.int .u8 s.kind, .int .i64 s.v, .slice a s.l.length ca] 35)).heap.size := by have := bx.size; omega
  have hap1 := hap
  have HU := hid (And.intro ((Fq.refl (fun _ => True) (W.alloc (.cells #[.int .u8 s.kind, .int .i64 s.v, .slice a s.l.length ca] 35))).below hN1 (fun _ _ => trivial)) H1)
  have C := hid (H1.turn hN1)
  have HO := hid (fun (w : World) (q : Pn N A n K (Ph.turn n P) w) (b : Below N (W.alloc (.cells #[.int .u8 s.kind, .int .i64 s.v, .slice a s.l.length ca] 35)) w) (f : Fa A (W.alloc (.cells #[.int .u8 s.kind, .int .i64 s.v, .slice a s.l.length ca] 35)) w) => show DoesO N A n K P s W (.returned (.int .u64 (1))) w from by
    unfold DoesO
    rw [hV, hP]
    exact ⟨rfl, q.mono (by omega) (by omega), (bx.mono hN).trans b, (Fq.of_below bx).trans f⟩)
  generalize s.l.length = z at *
  generalize s.kind = kd at *
  generalize s.v = v at *
  clear hk hV hP H h hap hl hr bx H1 h1 hap1 hN1
  go_enter Try.func16, Try.ntmps16
  go_wp2_with (go_at_call 17; refine C.out.mono ?_; rintro e w4 ⟨rfl, q4, b4, f4⟩)
  go_ret
  exact HO.out _ q4 b4 f4
set_option maxHeartbeats 4000000 in
theorem does16_6 (H : Pn N A n K P W) (hN : N ≤ W.heap.size) (hK : K + 3 ≤ 4611686018427387904) {s : Opr} {a : Option Addr} {ca : Nat} (hk : 0 ≤ s.kind ∧ s.kind ≤ 255) (h : Lw W a s.l) (hap : ∀ b off, a = some ⟨b, off, none⟩ → 0 < s.l.length → ¬ A.own b) (hl : s.l.length ≤ maxLen) (hr : s.kind % 9 = 6) :
    Calls Try.prog 16 #[.pointer (some ⟨A.pb, 0, none⟩), .agg #[.int .u8 s.kind, .int .i64 s.v, .slice a s.l.length ca]] W fun e w' => DoesO N A n K P s W e w' := by
  obtain ⟨hm1, hm2⟩ := mod9 hk
  rw [hr] at hm1 hm2
  have hV : doV P s = drw P.s := by unfold doV; rw [hr]; rfl
  have hP : doP n P s = draw P := by unfold doP; rw [hr]; rfl
  have bx := below_box W (.cells #[.int .u8 s.kind, .int .i64 s.v, .slice a s.l.length ca] 35)
  have H1 := H.below bx
  have h1 := h.all bx
  have hN1 : N ≤ (W.alloc (.cells #[.int .u8 s.kind, .int .i64 s.v, .slice a s.l.length ca] 35)).heap.size := by have := bx.size; omega
  have hap1 := hap
  have HU := hid (And.intro ((Fq.refl (fun _ => True) (W.alloc (.cells #[.int .u8 s.kind, .int .i64 s.v, .slice a s.l.length ca] 35))).below hN1 (fun _ _ => trivial)) H1)
  have C := hid (H1.draw hN1)
  have HO := hid (fun (w : World) (q : Pn N A n K (draw P) w) (b : Below N (W.alloc (.cells #[.int .u8 s.kind, .int .i64 s.v, .slice a s.l.length ca] 35)) w) (f : Fa A (W.alloc (.cells #[.int .u8 s.kind, .int .i64 s.v, .slice a s.l.length ca] 35)) w) => show DoesO N A n K P s W (.returned (.int .u64 (drw P.s))) w from by
    unfold DoesO
    rw [hV, hP]
    exact ⟨rfl, q.mono (by omega) (by omega), (bx.mono hN).trans b, (Fq.of_below bx).trans f⟩)
  generalize s.l.length = z at *
  generalize s.kind = kd at *
  generalize s.v = v at *
  clear hk hV hP H h hap hl hr bx H1 h1 hap1 hN1
  go_enter Try.func16, Try.ntmps16
  go_wp2_with (go_at_call 22; refine C.out.mono ?_; rintro e w4 ⟨rfl, q4, b4, f4⟩)
  go_ret
  exact HO.out _ q4 b4 f4
set_option maxHeartbeats 4000000 in
theorem does16_7 (H : Pn N A n K P W) (hN : N ≤ W.heap.size) (hK : K + 3 ≤ 4611686018427387904) {s : Opr} {a : Option Addr} {ca : Nat} (hk : 0 ≤ s.kind ∧ s.kind ≤ 255) (h : Lw W a s.l) (hap : ∀ b off, a = some ⟨b, off, none⟩ → 0 < s.l.length → ¬ A.own b) (hl : s.l.length ≤ maxLen) (hr : s.kind % 9 = 7) :
    Calls Try.prog 16 #[.pointer (some ⟨A.pb, 0, none⟩), .agg #[.int .u8 s.kind, .int .i64 s.v, .slice a s.l.length ca]] W fun e w' => DoesO N A n K P s W e w' := by
  obtain ⟨hm1, hm2⟩ := mod9 hk
  rw [hr] at hm1 hm2
  have hV : doV P s = 1 := by unfold doV; rw [hr]; rfl
  have hP : doP n P s = P := by unfold doP; rw [hr]; rfl
  have bx := below_box W (.cells #[.int .u8 s.kind, .int .i64 s.v, .slice a s.l.length ca] 35)
  have H1 := H.below bx
  have h1 := h.all bx
  have hN1 : N ≤ (W.alloc (.cells #[.int .u8 s.kind, .int .i64 s.v, .slice a s.l.length ca] 35)).heap.size := by have := bx.size; omega
  have hap1 := hap
  have HU := hid (And.intro ((Fq.refl (fun _ => True) (W.alloc (.cells #[.int .u8 s.kind, .int .i64 s.v, .slice a s.l.length ca] 35))).below hN1 (fun _ _ => trivial)) H1)
  have HO := hid (fun (w : World) (q : Pn N A n K (P) w) (b : Below N (W.alloc (.cells #[.int .u8 s.kind, .int .i64 s.v, .slice a s.l.length ca] 35)) w) (f : Fa A (W.alloc (.cells #[.int .u8 s.kind, .int .i64 s.v, .slice a s.l.length ca] 35)) w) => show DoesO N A n K P s W (.returned (.int .u64 (1))) w from by
    unfold DoesO
    rw [hV, hP]
    exact ⟨rfl, q.mono (by omega) (by omega), (bx.mono hN).trans b, (Fq.of_below bx).trans f⟩)
  generalize s.l.length = z at *
  generalize s.kind = kd at *
  generalize s.v = v at *
  clear hk hV hP H h hap hl hr bx H1 h1 hap1 hN1
  go_enter Try.func16, Try.ntmps16
  go_wp2
  go_ret
  exact HO.out _ HU.out.2 HU.out.1 (Fq.refl _ _)
set_option maxHeartbeats 4000000 in
theorem does16_8 (H : Pn N A n K P W) (hN : N ≤ W.heap.size) (hK : K + 3 ≤ 4611686018427387904) {s : Opr} {a : Option Addr} {ca : Nat} (hk : 0 ≤ s.kind ∧ s.kind ≤ 255) (h : Lw W a s.l) (hap : ∀ b off, a = some ⟨b, off, none⟩ → 0 < s.l.length → ¬ A.own b) (hl : s.l.length ≤ maxLen) (hr : s.kind % 9 = 8) :
    Calls Try.prog 16 #[.pointer (some ⟨A.pb, 0, none⟩), .agg #[.int .u8 s.kind, .int .i64 s.v, .slice a s.l.length ca]] W fun e w' => DoesO N A n K P s W e w' := by
  obtain ⟨hm1, hm2⟩ := mod9 hk
  rw [hr] at hm1 hm2
  have hV : doV P s = 1 := by unfold doV; rw [hr]; rfl
  have hP : doP n P s = P := by unfold doP; rw [hr]; rfl
  have bx := below_box W (.cells #[.int .u8 s.kind, .int .i64 s.v, .slice a s.l.length ca] 35)
  have H1 := H.below bx
  have h1 := h.all bx
  have hN1 : N ≤ (W.alloc (.cells #[.int .u8 s.kind, .int .i64 s.v, .slice a s.l.length ca] 35)).heap.size := by have := bx.size; omega
  have hap1 := hap
  have HU := hid (And.intro ((Fq.refl (fun _ => True) (W.alloc (.cells #[.int .u8 s.kind, .int .i64 s.v, .slice a s.l.length ca] 35))).below hN1 (fun _ _ => trivial)) H1)
  have HO := hid (fun (w : World) (q : Pn N A n K (P) w) (b : Below N (W.alloc (.cells #[.int .u8 s.kind, .int .i64 s.v, .slice a s.l.length ca] 35)) w) (f : Fa A (W.alloc (.cells #[.int .u8 s.kind, .int .i64 s.v, .slice a s.l.length ca] 35)) w) => show DoesO N A n K P s W (.returned (.int .u64 (1))) w from by
    unfold DoesO
    rw [hV, hP]
    exact ⟨rfl, q.mono (by omega) (by omega), (bx.mono hN).trans b, (Fq.of_below bx).trans f⟩)
  generalize s.l.length = z at *
  generalize s.kind = kd at *
  generalize s.v = v at *
  clear hk hV hP H h hap hl hr bx H1 h1 hap1 hN1
  go_enter Try.func16, Try.ntmps16
  go_wp2
  go_ret
  exact HO.out _ HU.out.2 HU.out.1 (Fq.refl _ _)
theorem does16 (H : Pn N A n K P W) (hN : N ≤ W.heap.size) (hK : K + 3 ≤ 4611686018427387904) {s : Opr} {a : Option Addr} {ca : Nat} (hk : 0 ≤ s.kind ∧ s.kind ≤ 255) (h : Lw W a s.l) (hap : ∀ b off, a = some ⟨b, off, none⟩ → 0 < s.l.length → ¬ A.own b) (hl : s.l.length ≤ maxLen) :
    Calls Try.prog 16 #[.pointer (some ⟨A.pb, 0, none⟩), .agg #[.int .u8 s.kind, .int .i64 s.v, .slice a s.l.length ca]] W fun e w' => DoesO N A n K P s W e w' := by
  have : s.kind % 9 = 0 ∨ s.kind % 9 = 1 ∨ s.kind % 9 = 2 ∨ s.kind % 9 = 3 ∨ s.kind % 9 = 4 ∨ s.kind % 9 = 5 ∨ s.kind % 9 = 6 ∨ s.kind % 9 = 7 ∨ s.kind % 9 = 8 := by omega
  rcases this with h0 | h0 | h0 | h0 | h0 | h0 | h0 | h0 | h0
  · exact does16_0 H hN hK hk h hap hl h0
  · exact does16_1 H hN hK hk h hap hl h0
  · exact does16_2 H hN hK hk h hap hl h0
  · exact does16_3 H hN hK hk h hap hl h0
  · exact does16_4 H hN hK hk h hap hl h0
  · exact does16_5 H hN hK hk h hap hl h0
  · exact does16_6 H hN hK hk h hap hl h0
  · exact does16_7 H hN hK hk h hap hl h0
  · exact does16_8 H hN hK hk h hap hl h0
end
end Go.Proofs.Ytkodfojccodoaaa
