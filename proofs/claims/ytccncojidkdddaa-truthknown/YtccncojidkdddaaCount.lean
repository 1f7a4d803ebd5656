/- How many models there are, by the program. -/
import Derived.Test.YtccncojidkdddaaSeq
import Derived.Test.YtccncojidkdddaaErrs
namespace Go.Proofs.Ytccncojidkdddaa
open Go.RowKit Go.Lib Go.Sort Go.Shelf
set_option linter.unusedVariables false
set_option linter.unusedSimpArgs false

theorem Up.set {C b k : Nat} (W : World) (v : Value) (h : b < C) : Up C W (W.setCell ⟨b, k, none⟩ v) := ⟨by simp [World.setCell], fun i o hi ho _ => (heap_other W v (by omega)).trans ho⟩
theorem keeps_set {B b k : Nat} (W : World) (v : Value) (h : b < B) : KeepsFrom B W (W.setCell ⟨b, k, none⟩ v) := ⟨by simp [World.setCell], fun i o hi ho _ => (heap_other W v (by omega)).trans ho⟩

attribute [local go_sem] Oper.semAt_some
set_option maxRecDepth 100000 in
set_option maxHeartbeats 8000000 in
theorem count10 (u : Nat) (a : Option Addr) (n cap : Nat) (cs : List (List Int)) (w : World) (hn : cs.length = n) (hc : Cls w a cs) (ht : Tru.taken (u : Int) cs = 0) (hu : u ≤ 16) (hN : n ≤ 1048576) (hL : cs.flatten.length ≤ 16777216) (hv : ∀ c ∈ cs, ∀ l ∈ c, 1 ≤ Cnf.vr l ∧ Cnf.vr l ≤ u) :
    Calls Try.prog 10 #[.agg #[.int .i64 u, .slice a n cap]] w fun e w' => e = .returned (.tuple #[.int .i64 (Tru.count cs u (2 ^ u)), .int .i64 0]) ∧ Below w.heap.size w w' := by
  have C := hid (taken19 u a n cap cs (w.alloc (.cells #[.int .i64 u, .slice a n cap] 24)) hn (hc.below (below_box _ _)))
  rw [ht] at C
  have M1 := hid (fun (W : World) (hW : Below w.heap.size w W) => made21 u a n cap cs W hn hN hu hL (hc.below hW) hv)
  have IT := hid (fun (A T g c5 bv ba : Nat) (ms : List (Nat × Nat)) (hA : A ≤ g) (hm : ∀ p, p ∈ ms ↔ p ∈ Tru.masks cs) (hl : ms.length ≤ cs.length) => iter_made A u cs T g c5 bv ba ms hu hA hv hm (Nat.le_trans hl (by rw [hn]; exact hN)))
  have HP := hid (pow16 u hu).2
  obtain ⟨P, hP⟩ : ∃ P, 2 ^ u = P := ⟨_, rfl⟩
  rw [hP] at IT HP ⊢
  clear hc hn ht hN hL hu hv hP
  refine (callsIn_wide (n := 9)).1 ?_
  refine callsIn_of_wp_marks Try.func10 rfl trivial ?_ rfl
  simp only [Try.ntmps10, List.size_toArray, List.length_cons, List.length_nil, Nat.reduceAdd, Nat.reduceSub, Array.replicate_succ, Array.replicate_zero, List.push_toArray, List.append_toArray, List.nil_append, List.cons_append]
  refine wpIn_wide.2 ?_
  go_wp2_with (go_at_call 19; refine C.out.mono ?_; clear C; rintro e W2 ⟨rfl, hb⟩; have far := hid (show Far w (.int .i64 u) (.slice a n cap) W2 from hb); clear hb)
  have farA := hid (far.out.on ((Below.refl _ W2).alloc (Nat.le_refl _) (.cells #[.int .i64 0] 3)))
  have nA := hid (Boxed.new W2 3 (.int .i64 0))
  obtain ⟨A, hA⟩ : ∃ A, W2.alloc (.cells #[.int .i64 0] 3) = A := ⟨_, rfl⟩
  obtain ⟨N0, hN0⟩ : ∃ N0, W2.heap.size = N0 := ⟨_, rfl⟩
  have hAs : A.heap.size = N0 + 1 := by rw [← hA, ← hN0]; simp
  have hN1 : w.heap.size < N0 := by rw [← hN0]; have := far.out.below.size; have := Below.size far.out; simp at this; omega
  rw [hA] at farA nA ⊢
  rw [hN0] at nA ⊢
  clear far hA hN0
  have S2 : ∀ W, Below A.heap.size A W → W.cell? ⟨w.heap.size, 0, none⟩ = some (.int .i64 (u : Int)) ∧ W.cell? ⟨w.heap.size, 1, none⟩ = some (.slice a n cap) ∧ Below A.heap.size A W := fun W hW => ⟨(farA.out.on hW).c0, (farA.out.on hW).c1, hW⟩
  have N1 := hid (fun (W : World) (hW : Below A.heap.size A W) => (M1.out W (farA.out.on hW).below).mono (R' := fun e w' => MadeOut cs W e w' ∧ w'.cell? ⟨w.heap.size, 0, none⟩ = some (.int .i64 (u : Int)) ∧ w'.cell? ⟨w.heap.size, 1, none⟩ = some (.slice a n cap) ∧ Below A.heap.size A w') fun e w' h => ⟨h, S2 w' (hW.trans (h.tab.choose_spec.choose_spec.choose_spec.choose_spec.2.2.2.2.2.mono hW.size))⟩)
  have HS2 := hid S2
  have kk := S2 A.drew (Below.refl _ _).drew
  have KK := hid kk
  clear kk S2 M1
  go_region_held3 (fun W => W.cell? ⟨w.heap.size, 0, none⟩ = some (.int .i64 (u : Int)) ∧ W.cell? ⟨w.heap.size, 1, none⟩ = some (.slice a n cap) ∧ Below A.heap.size A W)
    (first | exact KK.out | exact ⟨z0, z1, hb6⟩ | exact ⟨y0, y1, hb5⟩)
    (first
      | (go_at_call 21; refine (N1.out _ ?_).mono ?_; exact (Below.refl _ _).drew; clear N1; rintro e w5 ⟨hm5, y0, y1, hb5⟩; obtain ⟨T1, g1, c1, ms1, rfl, hx5⟩ := hm5.tab; have HX1 := hid hx5; clear hx5 hm5)
      | (go_at_call 20; refine (models20 u T1 w5).mono ?_; rintro e w6 ⟨rfl, hw6⟩; obtain ⟨z0, z1, hb6⟩ := HS2.out w6 (by rw [hw6]; exact (hb5.alloc hb5.size _).alloc (by simp; have := hb5.size; omega) _); have HW6 := hid hw6; clear hw6))
  have OW := hid (show Own35 T1 g1 c1 w5.heap.size (w5.heap.size + 1) u ms1 w6 from ⟨_, _, HX1.out.1.on (by rw [HW6.out]; exact ((Below.refl _ w5).alloc (Nat.le_refl _) _).alloc (by simp) _), by rw [HW6.out]; exact (Boxed.new w5 3 _).alloc _, by
    rw [HW6.out]
    have := Boxed.new (w5.alloc (.cells #[.int .i64 (u : Int)] 3)) 49 (.func (.func 22) #[.pointer (some ⟨T1, 0, none⟩)] #[])
    simpa using this⟩)
  have hg : A.heap.size ≤ g1 := HX1.out.2.1
  have ITT := hid (IT.out A.heap.size T1 g1 c1 w5.heap.size (w5.heap.size + 1) ms1 hg HX1.out.2.2.1 HX1.out.2.2.2.1)
  have B6 := hid (farA.out.on hb6).below
  have n6 := hid (show Boxed w6 N0 3 (.int .i64 0) from (hb6.block N0 (by omega)).trans nA.out)
  have hs5 : A.heap.size ≤ w5.heap.size := hb5.size
  have hs6 : A.heap.size ≤ w6.heap.size := hb6.size
  clear HX1 HW6 hb5 hb6 y0 y1 z0 z1 KK IT HS2 nA farA
  go_wp2
  refine (wpIn_wide (n := 9)).1 ?_
  refine range_up (C := A.heap.size) rfl (enters_of Try.func35 (by kernel_rfl) rfl) ITT.out hs6 rfl (Own35.up hg hs5 (by omega)) OW.out
    (fun k W => Below w.heap.size w W ∧ Boxed W N0 3 (.int .i64 (Tru.count cs u k)))
    (fun cd W => False) ?hI (fun _ _ _ h _ _ => h) ?hskip ⟨B6.out, n6.out⟩
    (fun k => { tmps := #[Value.agg #[Value.int IntKind.i64 ↑u, Value.slice a n cap],
          Value.pointer (some { block := w.heap.size, off := 0 }), Value.int IntKind.i64 0, Value.int IntKind.i64 0,
          Value.int IntKind.i64 0, Value.pointer (some { block := N0, off := 0 }),
          Value.agg #[Value.int IntKind.i64 ↑u, Value.slice a n cap], Value.int IntKind.i64 0, Value.int IntKind.i64 0,
          Value.bool false, undef, Value.pointer (some { block := w.heap.size, off := 0 }), Value.int IntKind.i64 ↑u,
          Value.agg #[Value.int IntKind.i64 ↑u, Value.slice a n cap], Value.pointer (some { block := T1, off := 0 }),
          Value.func (Fn.func 22) #[Value.pointer (some { block := T1, off := 0 })] #[],
          Value.func (Fn.func 35) #[]
            #[Value.pointer (some { block := w5.heap.size, off := 0 }),
              Value.pointer (some { block := w5.heap.size + 1, off := 0 })],
          .int .i64 k, undef, undef, undef], defers := [] }) ?assign ?body ?done (fun _ _ _ _ h => h.elim)
  case hI =>
    rintro k X Y ⟨h1, h2⟩ hb
    exact ⟨h1.trans (hb.mono (by omega)), (hb.block N0 (by omega)).trans h2⟩
  case hskip =>
    rintro k W hk hy ⟨h1, h2⟩
    refine ⟨h1, ?_⟩
    rw [Tru.count, hy]
    exact h2
  case assign =>
    intro l m k W K hK
    gi_wp2
    simpa using hK
  case body =>
    rintro l m k W hl hsz hk hy ⟨h1, h2⟩
    have HCC := hid (show Tru.count cs u (k + 1) = Tru.count cs u k + 1 by rw [Tru.count, hy]; rfl)
    have hq : Tru.count cs u k ≤ 65536 := by have := Tru.count_le cs u k; have := HP.out; omega
    generalize Tru.count cs u k = q at h2 HCC hq
    have d := h2.cell
    have f := h2.frozen
    have HH := hid (And.intro h1 h2)
    clear h1 h2 OW ITT B6 n6
    gi_wp2
    refine ⟨keeps_set W _ (by omega), Up.set W _ (by omega), HH.out.1.setCell (by dsimp only; omega) _, ?_⟩
    have := HH.out.2.set (.int .i64 ((q : Int) + 1))
    rw [HCC.out]
    exact this
  case done =>
    rintro D W hD ⟨h1, h2⟩ hd
    have d := h2.cell
    have HH := hid h1
    have HD := hid hd
    clear h1 h2 OW ITT B6 n6 hd
    go_wp2
    refine leave_one HD.out ⟨_, results_tmp2 rfl _ _ _, rfl, HH.out.trans (below_put _ _ (by omega))⟩
end Go.Proofs.Ytccncojidkdddaa
