/- A loop over a function that tells numbers without end: it is left by its body. -/
import Derived.RangeFuncNested
import Derived.RangeFuncLeaves
import Derived.RangeFuncBound
import Derived.RangeFuncBox
import Derived.WalkKit
import Derived.Shelf.RegionOpen
import Derived.OwnWalkIn
import Derived.TacticsInMore
import Derived.LoopNIn
import Derived.LoopIn
import Derived.Test.YtcoajalgodlphaaNum
namespace Go.Proofs.Ytcoajalgodlphaa
open Go.RowKit
set_option linter.unusedVariables false

/-- Cells from C on stand. -/
structure Up (C : Nat) (A B : World) : Prop where
  size : A.heap.size ≤ B.heap.size
  same : ∀ (k : Nat) (o : Obj), C ≤ k → A.heap[k]? = some o → o.isCells = true → B.heap[k]? = some o
theorem Up.refl (C : Nat) (A : World) : Up C A A := ⟨Nat.le_refl _, fun _ _ _ h _ => h⟩
theorem Up.trans {C : Nat} {A B D : World} (h : Up C A B) (k : Up C B D) : Up C A D := ⟨Nat.le_trans h.size k.size, fun i o hc hi ho => k.same i o hc (h.same i o hc hi ho) ho⟩
theorem Up.put {C : Nat} {W : World} {l : Nat} {o : Obj} (o' : Obj) (h : W.heap[l]? = some o) (ho : o.isCells = false) : Up C W (W.putObj l o') := by
  refine ⟨by simp [World.putObj], fun k x _ hk hx => ?_⟩
  have : k ≠ l := by
    rintro rfl
    rw [h] at hk
    cases hk
    rw [ho] at hx
    cases hx
  exact (World.putObj_heap_other this).trans hk
theorem Up.of_below {C : Nat} {A B : World} (h : Below A.heap.size A B) : Up C A B := ⟨h.size, fun k o _ hk _ => (h.block k (Array.getElem?_eq_some_iff.1 hk).1).trans hk⟩
theorem below_put {C l : Nat} (W : World) (o' : Obj) (h : C ≤ l) : Below C W (W.putObj l o') := ⟨rfl, rfl, rfl, by simp [World.putObj], fun k hk => World.putObj_heap_other (by omega)⟩

/-- How a round may be left. -/
def postI (B : Nat) (I : Nat → World → Prop) (Ix : Code → World → Prop) (k : Nat) (W : World) : Exit → Act → World → Prop
  | .normal, _, W' => KeepsFrom B W W' ∧ I k W'
  | .ret, _, W' => KeepsFrom B W W' ∧ Ix .ret W'
  | .exit id, _, W' => KeepsFrom B W W' ∧ Ix (.exit id) W'
  | .goto t, _, W' => KeepsFrom B W W' ∧ Ix (.goto t) W'
  | .panic _, _, _ => False
  | .outgrown, _, _ => False

variable {P : Program}

/-- What a function that is looped over does with whatever loop's yield l: it hands out enc 0, enc 1 .. till it is told to stop, which comes ahead of N. -/
def IterI (P : Program) (gf : Nat) (lb : Array Value) (N : Nat) (enc : Nat → Int) : Prop :=
  ∀ (l : Nat) (W1 : World) (J : Nat → World → Prop) (Jx : World → Prop), (∀ W, ¬ J N W) →
    (∀ k W, k < N → J k W → ∀ m, YieldAt Fence.wide m P l #[.int .i64 (enc k)] W fun e W' => (e = .returned (.bool true) ∧ J (k + 1) W') ∨ (e = .returned (.bool false) ∧ Jx W')) →
    J 0 W1 → Calls P gf (#[.func (.yield l) #[] #[]] ++ lb) W1 fun e W' => (∃ v, e = .returned v) ∧ Jx W'

theorem range_in {n : Nat} {g : Operand} {ps : Array Tmp} {assign body : Code} {Q : Exit → Act → World → Prop} {a : Act} {w : World} {gf : Nat} {lb : Array Value}
    (hg : a.eval g = .func (.func gf) #[] lb) (eg : ∀ args w, (callFunc gf args).run P w = .ok (.enter gf args) w)
    {N : Nat} {enc : Nat → Int} (hiter : IterI P gf lb N enc) (hps : 1 = ps.size)
    (I : Nat → World → Prop) (Ix : Code → World → Prop) (hI : ∀ k A B, I k A → Below w.heap.size A B → I k B) (hIx : ∀ cd A B, Ix cd A → Below w.heap.size A B → Up 0 A B → Ix cd B) (hN : ∀ W, ¬ I N W)
    (h0 : I 0 w) (a₁ : Nat → Act)
    (hassign : ∀ (l m : Nat) (k : Nat) (W : World) (K : Act → World → Prop), K (a₁ k) W →
      assign.wpIn (Fence.wide.inRound l) m P (Exit.then K (fun _ _ _ => False)) { tmps := (ps.zip #[.int .i64 (enc k)]).foldl (fun t (p, v) => t.setIfInBounds p v) a.tmps, defers := [] } W)
    (hbody : ∀ (l m k : Nat) (W : World), w.heap.size ≤ l → w.heap.size ≤ W.heap.size → k < N → I k W → body.wpIn (Fence.wide.inRound l) m P (postI w.heap.size I Ix (k + 1) W) (a₁ k) W)
    (hstop : ∀ (D : Nat) (cd : Code) (W : World), w.heap.size ≤ D → Ix cd W → W.heap[D]? = some (.deferred (some [])) → cd.wpIn Fence.wide n P Q { a with defers := { target := .collected D, args := #[] } :: a.defers } W) :
    (Code.rangeFunc g ps assign body).wpIn Fence.wide n P Q a w := by
  refine wpIn_rangeFunc fun fn hfn => ?_
  obtain ⟨rec, hrec⟩ : ∃ rec : LoopState → Option Code → Loop, rec = fun st pe => { state := st, pending := pe, fn, tmps := a.tmps, params := ps, assign, body, defers := w.heap.size } := ⟨_, rfl⟩
  obtain ⟨W1, hW1⟩ : ∃ W1, (w.alloc (.deferred (some []))).alloc (.loop (rec .ready none)) = W1 := ⟨_, rfl⟩
  have hL1 : W1.heap[w.heap.size + 1]? = some (.loop (rec .ready none)) := by
    rw [← hW1]; have := World.alloc_heap_new (w.alloc (.deferred (some []))) (.loop (rec .ready none)); rwa [World.size_alloc] at this
  have hK1 : W1.heap[w.heap.size]? = some (.deferred (some [])) := by
    rw [← hW1]; exact (Below.heap_alloc _ _ _ (by simp)).trans (World.alloc_heap_new w _)
  have hb1 : Below w.heap.size w W1 := by rw [← hW1]; exact ((Below.refl _ w).alloc (Nat.le_refl _) _).alloc (by simp) _
  refine ⟨w.heap.size + 1, [{ target := .collected w.heap.size, args := #[] }], W1, { target := .fn (.func gf) lb, args := #[.func (.yield (w.heap.size + 1)) #[] #[]] }, W1, gf,
    #[.func (.yield (w.heap.size + 1)) #[] #[]] ++ lb, W1, ?_, ?_, fun _ _ => trivial, ?_, fun h => (by cases h), ?_⟩
  · rw [← hW1, hrec]; exact run_enterLoop_outer _ _ _ _ _
  · simp only [resolve, hg]
    simp [go_sem]
  · simp [invoke, go_sem, eg]
  refine callsIn_wide.2 ((hiter (w.heap.size + 1) W1
    (fun k W => I k W ∧ w.heap.size ≤ W.heap.size ∧ W.heap[w.heap.size + 1]? = some (.loop (rec .ready none)) ∧ W.heap[w.heap.size]? = some (.deferred (some [])))
    (fun W => ∃ cd, Ix cd W ∧ W.heap[w.heap.size + 1]? = some (.loop (rec .done (some cd))) ∧ W.heap[w.heap.size]? = some (.deferred (some [])))
    (fun W hs => hN W hs.1)
    ?_ ⟨hI 0 w W1 h0 hb1, hb1.size, hL1, hK1⟩).mono ?_)
  · rintro k W hk ⟨hi, hsz, hl, hd⟩ m
    have hlt : w.heap.size + 1 < W.heap.size := (Array.getElem?_eq_some_iff.1 hl).1
    have hy := run_yield (P := P) (args := #[.int .i64 (enc k)]) hl (by rw [hrec]; exact hps)
    rw [hrec] at hy
    refine ⟨fn, _, assign, body, hy, roundIn_of_wpIn hfn (hassign _ _ k W _ ⟨_, run_beginRound hl (by rw [hrec]), ?_⟩)⟩
    have bk : Below w.heap.size W (W.putObj (w.heap.size + 1) (.loop { rec .ready none with state := .busy })) := below_put W _ (by omega)
    have hl2 : (W.putObj (w.heap.size + 1) (.loop { rec .ready none with state := .busy })).heap[w.heap.size + 1]? = some (.loop { rec .ready none with state := .busy }) := World.putObj_heap_same hlt
    have hd2 : (W.putObj (w.heap.size + 1) (.loop { rec .ready none with state := .busy })).heap[w.heap.size]? = some (.deferred (some [])) := (World.putObj_heap_other (by omega)).trans hd
    refine wpIn_mono (hbody _ _ k _ (by omega) (by simpa [World.putObj] using hsz) hk (hI _ _ _ hi bk)) ?_
    have fin : ∀ (jump : Option Code) (W3 : World), KeepsFrom w.heap.size (W.putObj (w.heap.size + 1) (.loop { rec .ready none with state := .busy })) W3 →
        (Instr.endRound (w.heap.size + 1) jump).run P W3 = .ok (.bool jump.isNone) (W3.putObj (w.heap.size + 1) (.loop (rec (if jump.isNone then .ready else .done) jump))) ∧
        W3.heap[w.heap.size + 1]? = some (.loop { rec .ready none with state := .busy }) ∧
        (W3.putObj (w.heap.size + 1) (.loop (rec (if jump.isNone then .ready else .done) jump))).heap[w.heap.size + 1]? = some (.loop (rec (if jump.isNone then .ready else .done) jump)) ∧
        (W3.putObj (w.heap.size + 1) (.loop (rec (if jump.isNone then .ready else .done) jump))).heap[w.heap.size]? = some (.deferred (some [])) := fun jump W3 hk3 => by
      have hl3 := hk3.same _ _ (by omega) hl2 rfl
      have := run_endRound (P := P) jump hl3
      rw [hrec] at this ⊢
      exact ⟨this, by rw [hrec] at hl3; exact hl3, World.putObj_heap_same (Array.getElem?_eq_some_iff.1 hl3).1, (World.putObj_heap_other (by omega)).trans (hk3.same _ _ (Nat.le_refl _) hd2 rfl)⟩
    rintro e a3 W3 hp
    cases e with
    | normal =>
      obtain ⟨hk3, hi3⟩ := hp
      obtain ⟨hr, hl3, hl4, hd4⟩ := fin none W3 hk3
      have := hk3.size
      exact ⟨_, _, hr, .inl ⟨rfl, hI _ _ _ hi3 (below_put _ _ (by omega)), by simp [World.putObj] at this ⊢; omega, hl4, hd4⟩⟩
    | ret =>
      obtain ⟨hk3, hi3⟩ := hp
      obtain ⟨hr, hl3, hl4, hd4⟩ := fin (some .ret) W3 hk3
      exact ⟨_, _, hr, .inr ⟨rfl, .ret, hIx _ _ _ hi3 (below_put _ _ (by omega)) (Up.put _ hl3 rfl), hl4, hd4⟩⟩
    | exit id =>
      obtain ⟨hk3, hi3⟩ := hp
      obtain ⟨hr, hl3, hl4, hd4⟩ := fin (some (.exit id)) W3 hk3
      exact ⟨_, _, hr, .inr ⟨rfl, .exit id, hIx _ _ _ hi3 (below_put _ _ (by omega)) (Up.put _ hl3 rfl), hl4, hd4⟩⟩
    | goto t =>
      obtain ⟨hk3, hi3⟩ := hp
      obtain ⟨hr, hl3, hl4, hd4⟩ := fin (some (.goto t)) W3 hk3
      exact ⟨_, _, hr, .inr ⟨rfl, .goto t, hIx _ _ _ hi3 (below_put _ _ (by omega)) (Up.put _ hl3 rfl), hl4, hd4⟩⟩
    | panic ch => exact hp.elim
    | outgrown => exact hp.elim
  · rintro e W2 ⟨⟨v, rfl⟩, ⟨cd, hi, hl, hd⟩⟩
    exact ⟨some cd, _, by have := run_endLoop (P := P) hl (by rw [hrec]; simp); rw [hrec] at this; exact this, hstop _ cd _ (Nat.le_refl _) (hIx _ _ _ hi (below_put _ _ (by omega)) (Up.put _ hl rfl)) ((World.putObj_heap_other (by omega)).trans hd)⟩
variable {P : Program} in
/-- A function leaves behind one loop over a function: the loop's block holds no call. -/
theorem leave_one {n D : Nat} {fn : Func} {tmps : Array Value} {R : Ending → World → Prop} {W : World} (hd : W.heap[D]? = some (.deferred (some [])))
    (h : ∃ v, (results fn tmps).run P (W.putObj D (.deferred none)) = .ok v (W.putObj D (.deferred none)) ∧ R (.returned v) (W.putObj D (.deferred none))) : LeavesInM Fence.wide n P fn tmps R [{ target := .collected D, args := #[] }] .returning W :=
  ⟨by simp, .inl ⟨D, _, rfl, run_takeDeferred hd, h⟩⟩
attribute [local go_sem] Oper.semAt_some
set_option maxRecDepth 100000 in
set_option maxHeartbeats 4000000 in
/-- The row. -/
theorem row39 (N : Nat) (hN : N ≤ 2000) : IterI Try.prog 39 #[] N (fun k => ((Av.lby (k + 1) : Nat) : Int)) := by
  intro l W1 J Jx hnot hY h0
  have HNot := hid hnot
  have HY := hid hY
  have HC := hid (fun (k : Nat) (W : World) (h : k < N) => number32 (k + 1) W (by omega) (by omega))
  clear hnot hY
  refine callsIn_wide (n := 9) |>.1 ?_
  refine callsIn_of_wp Try.func39 rfl trivial ?_ rfl
  simp only [Try.ntmps39, List.size_toArray, List.length_cons, List.length_nil, Nat.reduceAdd, Nat.reduceSub, Array.replicate_succ, Array.replicate_zero, List.push_toArray, List.append_toArray, List.nil_append, List.cons_append]
  gi_wp2
  gi_loopw [2] (fun i wr => ∃ k : Nat, i = .int .i64 ((k : Int) + 1) ∧ k ≤ N ∧ Hid (J k wr)) (fun i _ => N + 1 - (intOf i).toNat)
  case atStart => exact ⟨0, rfl, Nat.zero_le _, hid h0⟩
  case round =>
    obtain ⟨k, rfl, hk, hj⟩ := hrel
    have hlt : k < N := by
      rcases Nat.lt_or_ge k N with h | h
      · exact h
      · obtain rfl : k = N := by omega
        exact absurd hj.out (HNot.out _)
    have C := hid (HC.out k wr hlt)
    obtain ⟨fn, tmps, assign, body, hy2, hR⟩ := HY.out k wr hlt hj.out 8
    obtain ⟨z, hz⟩ : ∃ z : Int, (k : Int) + 1 = z := ⟨_, rfl⟩
    have hz2 : ((k + 1 : Nat) : Int) = z := by omega
    rw [hz2] at C
    rw [hz]
    have hzw : wrap64 (z + 1) = z + 1 := by unfold wrap64; omega
    try dsimp only at hy2
    generalize Av.lby (k + 1) = L at C hy2 hR
    have HZ := hid hz
    clear hz hz2
    gi_wp2_with (refine ⟨trivial, ?_⟩; gi_at_call 32; refine (callsIn_wide.2 C.out).mono ?_; rintro e w9 ⟨rfl, hw9⟩; rw [hw9]; clear hw9)
    refine hR.mono ?_
    rintro e3 W3 (⟨rfl, hJ3⟩ | ⟨rfl, hJx3⟩)
    · have HJ3 := hid hJ3
      clear hy2 hR hJ3
      gi_wp2
      go_roundw
      case rel => exact ⟨k + 1, by rw [hzw, ← HZ.out]; go_num, hlt, HJ3⟩
      case measure => have := HZ.out; simp [intOf]; omega
    · have HJx3 := hid hJx3
      clear hy2 hR hJx3
      gi_wp2
      go_end0
      exact ⟨⟨_, rfl⟩, HJx3.out⟩
end Go.Proofs.Ytcoajalgodlphaa
