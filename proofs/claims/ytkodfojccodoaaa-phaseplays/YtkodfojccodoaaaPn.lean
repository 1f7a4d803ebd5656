/- A store that is new since a world; a row of calls that was handed in. -/
import Derived.Test.YtkodfojccodoaaaNw
namespace Go.Proofs.Ytkodfojccodoaaa.Ph
def inR (n : Nat) (v : Int) : Bool := decide (1 ≤ v ∧ v ≤ n)
def dB (n : Nat) (P : St) (v : Int) : Bool := inR n v && dec P v.toNat
def dE (n : Nat) (v : Int) : Int := if inR n v then 0 else 2
def mE (n : Nat) (l : List Int) : Int := if may n l then 0 else 2
def sP (n : Nat) (P : St) (l : List Int) : St := if may n l then save P l else P
def rT (n : Nat) (P : St) (l : List Int) : Bool := may n l && decide (P.T.length < l.length)
def rB (n : Nat) (P : St) (l : List Int) : Bool := may n l && decide (P.B.length < l.length)
def rP (n : Nat) (P : St) (l : List Int) : St := if may n l then reach P l else P
end Go.Proofs.Ytkodfojccodoaaa.Ph
namespace Go.Proofs.Ytkodfojccodoaaa
open Go.RowKit Go.Maps
set_option linter.unusedVariables false
set_option maxRecDepth 100000

/-- A store, all of it made since N blocks were there. -/
structure Pn (N : Nat) (A : Adr) (n : Nat) (K : Int) (P : Ph.St) (W : World) : Prop where
  px : Px A P K W
  new : ∀ g, A.own g → N ≤ g
  hn : A.n = n
section
variable {N : Nat} {A : Adr} {n : Nat} {K : Int} {P : Ph.St} {W : World}
theorem Pn.below {W' : World} (H : Pn N A n K P W) (h : Below W.heap.size W W') : Pn N A n K P W' := ⟨H.px.below h, H.new, H.hn⟩
theorem Pn.bel {W' : World} (H : Pn N A n K P W) (hN : N ≤ W.heap.size) (h : Fa A W W') : Below N W W' := h.below hN (fun g hg ho => by have := H.new g ho; omega)
theorem Pn.mono {K' : Int} (H : Pn N A n K P W) (hk : K ≤ K') (hk' : K' ≤ 4611686018427387904) : Pn N A n K' P W := ⟨H.px.mono hk hk', H.new, H.hn⟩
theorem Pn.old {N' : Nat} (H : Pn N A n K P W) (h : N' ≤ N) : Pn N' A n K P W := ⟨H.px, fun g hg => Nat.le_trans h (H.new g hg), H.hn⟩
def NewO (N n : Nat) (st : Bool) (seed : Int) (W : World) (e : Ending) (w' : World) : Prop := ∃ A : Adr, e = .returned (.tuple #[.pointer (some ⟨A.pb, 0, none⟩), .int .i64 0]) ∧ Pn N A n 0 (St0 n st seed) w' ∧ Below W.heap.size W w' ∧ ∀ g, A.own g → W.heap.size ≤ g
theorem new10n {st : Bool} {seed : Int} (hn : n ≤ 1048576) (hs : 0 ≤ seed ∧ seed < 18446744073709551616) (hN : N ≤ W.heap.size) : Calls Try.prog 10 #[.int .i64 (n : Int), .bool st, .int .u64 seed] W fun e w' => NewO N n st seed W e w' := by
  refine (new10 n st seed W hn hs).mono ?_
  rintro e w' ⟨A, rfl, h0, q, hb, ho⟩
  exact ⟨A, rfl, ⟨q, fun g hg => Nat.le_trans hN (ho g hg), h0⟩, hb, ho⟩
theorem Pn.decide' (H : Pn N A n K P W) (v : Int) :
    Calls Try.prog 20 #[.pointer (some ⟨A.pb, 0, none⟩), .int .i64 v] W fun e w' => e = .returned (.tuple #[.bool (Ph.dB n P v), .int .i64 (Ph.dE n v)]) ∧ w' = W := by
  have hn := H.hn
  by_cases h : 1 ≤ v ∧ v ≤ n
  · have := decide20 H.px (v := v.toNat) (by omega) (by omega)
    rw [Int.toNat_of_nonneg (by omega)] at this
    have e1 : Ph.dB n P v = Ph.dec P v.toNat := by simp [Ph.dB, Ph.inR, h]
    have e2 : Ph.dE n v = 0 := by simp [Ph.dE, Ph.inR, h]
    rw [e1, e2]
    exact this
  · have e1 : Ph.dB n P v = false := by simp only [Ph.dB, Ph.inR, decide_eq_false h, Bool.false_and]
    have e2 : Ph.dE n v = 2 := by simp only [Ph.dE, Ph.inR, decide_eq_false h]; rfl
    rw [e1, e2]
    exact decide20_no H.px v (by rw [hn]; exact h)
def SaveO (N : Nat) (A : Adr) (n : Nat) (K : Int) (P : Ph.St) (l : List Int) (W : World) (e : Ending) (w' : World) : Prop :=
  e = .returned (.int .i64 (Ph.mE n l)) ∧ Pn N A n K (Ph.sP n P l) w' ∧ Below N W w' ∧ Fa A W w'
theorem Pn.save (H : Pn N A n K P W) (hN : N ≤ W.heap.size) {a : Option Addr} {c : Nat} {l : List Int} (h : Lw W a l) (hap : ∀ b off, a = some ⟨b, off, none⟩ → 0 < l.length → ¬ A.own b) (hl : l.length ≤ maxLen) :
    Calls Try.prog 19 #[.pointer (some ⟨A.pb, 0, none⟩), .slice a l.length c] W fun e w' => SaveO N A n K P l W e w' := by
  have hn := H.hn
  cases hm : Ph.may n l
  · refine (save19_no H.px (c := c) h hl (by rw [hn]; exact hm)).mono ?_
    rintro e w' ⟨rfl, rfl⟩
    have e1 : Ph.mE n l = 2 := by simp [Ph.mE, hm]
    have e2 : Ph.sP n P l = P := by simp [Ph.sP, hm]
    unfold SaveO
    rw [e1, e2]
    exact ⟨rfl, H, ((Fq.refl (fun _ => True) _).below hN (fun _ _ => trivial)), Fq.refl _ _⟩
  · refine (save19 H.px (c := c) h hap hl (by rw [hn]; exact hm)).mono ?_
    rintro e w' ⟨rfl, q, f⟩
    have e1 : Ph.mE n l = 0 := by simp [Ph.mE, hm]
    have e2 : Ph.sP n P l = Ph.save P l := by simp [Ph.sP, hm]
    unfold SaveO
    rw [e1, e2]
    exact ⟨rfl, ⟨q, H.new, hn⟩, H.bel hN f, f⟩
def ReachO (N : Nat) (A : Adr) (n : Nat) (K : Int) (P : Ph.St) (l : List Int) (W : World) (e : Ending) (w' : World) : Prop :=
  e = .returned (.tuple #[.bool (Ph.rT n P l), .bool (Ph.rB n P l), .int .i64 (Ph.mE n l)]) ∧ Pn N A n (K + 2) (Ph.rP n P l) w' ∧ Below N W w' ∧ Fa A W w'
theorem Pn.reach (H : Pn N A n K P W) (hN : N ≤ W.heap.size) (hK : K + 3 ≤ 4611686018427387904) {a : Option Addr} {c : Nat} {l : List Int} (h : Lw W a l) (hap : ∀ b off, a = some ⟨b, off, none⟩ → 0 < l.length → ¬ A.own b) (hl : l.length ≤ maxLen) :
    Calls Try.prog 21 #[.pointer (some ⟨A.pb, 0, none⟩), .slice a l.length c] W fun e w' => ReachO N A n K P l W e w' := by
  have hn := H.hn
  cases hm : Ph.may n l
  · refine (reach21_no H.px (c := c) h hl (by rw [hn]; exact hm)).mono ?_
    rintro e w' ⟨rfl, rfl⟩
    have e1 : Ph.mE n l = 2 := by simp [Ph.mE, hm]
    have e2 : Ph.rP n P l = P := by simp [Ph.rP, hm]
    have e3 : Ph.rT n P l = false := by simp [Ph.rT, hm]
    have e4 : Ph.rB n P l = false := by simp [Ph.rB, hm]
    unfold ReachO
    rw [e1, e2, e3, e4]
    exact ⟨rfl, H.mono (by omega) (by omega), ((Fq.refl (fun _ => True) _).below hN (fun _ _ => trivial)), Fq.refl _ _⟩
  · refine (reach21 H.px hK (c := c) h hap hl (by rw [hn]; exact hm)).mono ?_
    rintro e w' ⟨rfl, q, f⟩
    have e1 : Ph.mE n l = 0 := by simp [Ph.mE, hm]
    have e2 : Ph.rP n P l = Ph.reach P l := by simp [Ph.rP, hm]
    have e3 : Ph.rT n P l = decide (P.T.length < l.length) := by simp [Ph.rT, hm]
    have e4 : Ph.rB n P l = decide (P.B.length < l.length) := by simp [Ph.rB, hm]
    unfold ReachO
    rw [e1, e2, e3, e4]
    exact ⟨rfl, ⟨q, H.new, hn⟩, H.bel hN f, f⟩
end
theorem lw_lit {W : World} {b : Nat} {cs : Array Value} {t : Nat} {fr : Nat × Nat} {l : List Int} (h : W.heap[b]? = some (.cells cs t fr)) (hc : ∀ j, j < l.length → cs[j]? = some (.int .i32 (l.getD j 0)) ∧ -2147483648 ≤ l.getD j 0 ∧ l.getD j 0 ≤ 2147483647) : Lw W (some ⟨b, 0, none⟩) l :=
  .inr ⟨b, 0, rfl, fun j hj => ⟨by rw [Nat.zero_add, row_cell h]; exact (hc j hj).1, (hc j hj).2⟩⟩
theorem Pn.away {N : Nat} {A : Adr} {n : Nat} {K : Int} {P : Ph.St} {W : World} (H : Pn N A n K P W) {m : Nat} (hm : W.heap.size ≤ m) : ∀ b off, some (⟨m, 0, none⟩ : Addr) = some ⟨b, off, none⟩ → ¬ A.own b := by
  intro b off e ho
  cases e
  obtain ⟨nt, mt, nb, mb, q, _⟩ := H.px
  have := q.ltsz ho
  omega
set_option maxHeartbeats 4000000 in
theorem works9 (W : World) : Calls Try.prog 9 #[] W fun e w' => e = .returned (.bool true) ∧ Below W.heap.size W w' := by
  have C10 := hid (new10n (n := 3) (st := true) (seed := 0) (W := W) (by omega) (by omega) (N := W.heap.size) (Nat.le_refl _))
  go_enter Try.func9, Try.ntmps9
  go_wp2_with (fail)
  go_at_call 10
  refine C10.out.mono ?_
  rintro e w1 ⟨A, rfl, q1, b1, _⟩
  have HB1 := hid b1
  have C20 := hid (q1.decide' 2)
  rw [show Ph.dB 3 (St0 3 true 0) 2 = true from by decide, show Ph.dE 3 2 = 0 from by decide] at C20
  have hbx := below_box w1 (.cells #[.int .i32 (-2)] 48)
  have C19 := hid ((q1.below hbx).save (by have := b1.size; have := hbx.size; omega) (a := some ⟨w1.heap.size, 0, none⟩) (c := 1) (l := [-2]) (lw_lit (heap_alloc_new w1 _) (by intro j hj; rcases j with _ | j <;> first | exact ⟨rfl, by decide, by decide⟩ | (simp at hj <;> omega))) (fun b off e _ ho => q1.away (Nat.le_refl _) b off e ho) (by decide))
  have HX1 := hid hbx
  clear q1 b1 hbx C10
  go_wp2_with (first
    | (go_at_call 20; refine C20.out.mono ?_; rintro e w7 ⟨rfl, hw7⟩; rw [hw7]; clear hw7)
    | fail)
  go_at_call 19
  refine C19.out.mono ?_
  rintro e w2 ⟨rfl, q2, b2, _⟩
  rw [show Ph.mE 3 [-2] = 0 from by decide]
  have HB2 := hid (show Below W.heap.size W w2 from HB1.out.trans ((HX1.out.mono HB1.out.size).trans b2))
  have C20b := hid (q2.decide' 2)
  rw [show Ph.dB 3 (Ph.sP 3 (St0 3 true 0) [-2]) 2 = false from by decide, show Ph.dE 3 2 = 0 from by decide] at C20b
  have hbx := below_box w2 (.cells #[.int .i32 2, .int .i32 (-1)] 48)
  have C21 := hid ((q2.below hbx).reach (by have := HB2.out.size; have := hbx.size; omega) (by omega) (a := some ⟨w2.heap.size, 0, none⟩) (c := 2) (l := [2, -1]) (lw_lit (heap_alloc_new w2 _) (by intro j hj; rcases j with _ | _ | j <;> first | exact ⟨rfl, by decide, by decide⟩ | (simp at hj <;> omega))) (fun b off e _ ho => q2.away (Nat.le_refl _) b off e ho) (by decide))
  have HX2 := hid hbx
  clear q2 b2 hbx C19 C20 HX1 HB1
  go_wp2_with (first
    | (go_at_call 20; refine C20b.out.mono ?_; rintro e w7 ⟨rfl, hw7⟩; rw [hw7]; clear hw7)
    | fail)
  go_at_call 21
  refine C21.out.mono ?_
  rintro e w3 ⟨rfl, q3, b3, _⟩
  rw [show Ph.mE 3 [2, -1] = 0 from by decide, show Ph.rT 3 (Ph.sP 3 (St0 3 true 0) [-2]) [2, -1] = true from by decide, show Ph.rB 3 (Ph.sP 3 (St0 3 true 0) [-2]) [2, -1] = true from by decide]
  have HB3 := hid (show Below W.heap.size W w3 from HB2.out.trans ((HX2.out.mono HB2.out.size).trans b3))
  have C20c := hid (q3.decide' 1)
  rw [show Ph.dB 3 (Ph.rP 3 (Ph.sP 3 (St0 3 true 0) [-2]) [2, -1]) 1 = false from by decide, show Ph.dE 3 1 = 0 from by decide] at C20c
  clear q3 b3 C21 C20b HX2 HB2
  go_wp2_with (go_at_call 20; refine C20c.out.mono ?_; rintro e w7 ⟨rfl, hw7⟩; rw [hw7]; clear hw7)
  go_ret
  exact ⟨rfl, HB3.out⟩
end Go.Proofs.Ytkodfojccodoaaa
