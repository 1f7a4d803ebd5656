/- A loop over a function: the caller's law where the function may also turn one cell of its own between two rounds (a counter that it was handed). -/
import Derived.RangeFuncNested
import Derived.RangeFuncLeaves
import Derived.RangeFuncBound
import Derived.WalkKit
import Derived.Test.YtdodfmgbjfhnpaaDoorBase
import Derived.RangeFuncBox
namespace Go.Proofs.YtdodfmgbjfhnpaaDoor
open Go.RowKit
set_option linter.unusedVariables false

/-- From A to B' new blocks may have come, blocks from B on that hold no cells may have turned, and block c may have turned; nothing else. -/
structure Book (c : Option Nat) (B : Nat) (A A' : World) : Prop where
  os : A'.os = A.os
  tape : A'.tape = A.tape
  output : A'.output = A.output
  size : A.heap.size ≤ A'.heap.size
  same : ∀ k o, A.heap[k]? = some o → c ≠ some k → (k < B ∨ o.isCells = true) → A'.heap[k]? = some o

theorem Book.refl (c : Option Nat) (B : Nat) (A : World) : Book c B A A := ⟨rfl, rfl, rfl, Nat.le_refl _, fun _ _ h _ _ => h⟩
theorem Book.trans {c : Option Nat} {B : Nat} {A A' A'' : World} (h : Book c B A A') (k : Book c B A' A'') : Book c B A A'' :=
  ⟨k.os.trans h.os, k.tape.trans h.tape, k.output.trans h.output, Nat.le_trans h.size k.size, fun i o hi hc ho => k.same i o (h.same i o hi hc ho) hc ho⟩
theorem Book.mono {c : Option Nat} {B B' : Nat} {A A' : World} (h : Book c B A A') (hB : B' ≤ B) : Book c B' A A' :=
  ⟨h.os, h.tape, h.output, h.size, fun i o hi hc ho => h.same i o hi hc (ho.imp (fun x => Nat.lt_of_lt_of_le x hB) id)⟩
theorem Book.any {B : Nat} {A A' : World} (h : Book none B A A') (c : Option Nat) : Book c B A A' :=
  ⟨h.os, h.tape, h.output, h.size, fun i o hi _ ho => h.same i o hi (by simp) ho⟩
theorem Book.of_below {B : Nat} {A A' : World} (h : Below A.heap.size A A') (c : Option Nat) : Book c B A A' :=
  ⟨h.os, h.tape, h.output, h.size, fun i o hi _ _ => (h.block i (Array.getElem?_eq_some_iff.1 hi).1).trans hi⟩
theorem Book.alloc (c : Option Nat) (B : Nat) (A : World) (o : Obj) : Book c B A (A.alloc o) := .of_below ((Below.refl _ A).alloc (Nat.le_refl _) o) c
theorem Book.putObj {c : Option Nat} {B : Nat} {A : World} {l : Nat} {o : Obj} (o' : Obj) (hl : B ≤ l) (h : A.heap[l]? = some o) (ho : o.isCells = false) : Book c B A (A.putObj l o') := by
  refine ⟨rfl, rfl, rfl, by simp [World.putObj], fun i x hi _ hx => ?_⟩
  have hne : i ≠ l := by
    rintro rfl
    rw [h] at hi
    cases hi
    rcases hx with hx | hx
    · omega
    · rw [ho] at hx; cases hx
  exact (World.putObj_heap_other hne).trans hi
theorem Book.below {c : Option Nat} {B n : Nat} {w A A' : World} (hw : Below n w A) (hn : n ≤ B) (h : Book c B A A') (hc : ∀ k, c = some k → n ≤ k) (hs : n ≤ w.heap.size) : Below n w A' :=
  hw.trans ⟨h.os, h.tape, h.output, h.size, fun k hk => by
    have hlt : k < A.heap.size := Nat.lt_of_lt_of_le (Nat.lt_of_lt_of_le hk hs) hw.size
    have e := Array.getElem?_eq_getElem hlt
    rw [e]
    exact h.same k _ e (fun e' => by have := hc k e'; omega) (.inl (Nat.lt_of_lt_of_le hk hn))⟩
theorem Book.cell {c : Option Nat} {B : Nat} {A A' : World} (h : Book c B A A') {p : Addr} {v : Value} (hp : A.cell? p = some v) (hc : c ≠ some p.block) : A'.cell? p = some v := by
  have hx : ∃ o : Obj, A.heap[p.block]? = some o ∧ o.isCells = true := by
    unfold World.cell? at hp
    cases e : A.heap[p.block]? with
    | none => rw [e] at hp; simp at hp
    | some o =>
      cases o <;> first
        | exact ⟨_, rfl, rfl⟩
        | (rw [e] at hp; simp at hp)
  obtain ⟨o, h1, h2⟩ := hx
  rw [World.cell?_of_block (w := A) ((h.same _ o h1 hc (.inr h2)).trans h1.symm)]
  exact hp

/-- How a round may be left. -/
def postR (B : Nat) (Kp : World → World → Prop) (I : Nat → World → Prop) (Ix : Code → Nat → World → Prop) (k : Nat) (W : World) : Exit → Act → World → Prop
  | .normal, _, W' => KeepsFrom B W W' ∧ Kp W W' ∧ I k W'
  | .ret, _, W' => KeepsFrom B W W' ∧ Ix .ret k W'
  | .exit id, _, W' => KeepsFrom B W W' ∧ Ix (.exit id) k W'
  | .goto t, _, W' => KeepsFrom B W W' ∧ Ix (.goto t) k W'
  | .panic _, _, _ => False
  | .outgrown, _, _ => False

/-- What is no cells and lies behind block l lies as it lay. -/
structure KeepN (l : Nat) (W W' : World) : Prop where
  size : W.heap.size ≤ W'.heap.size
  same : ∀ k o, W.heap[k]? = some o → o.isCells = false → l < k → W'.heap[k]? = some o
theorem KeepN.trans {l : Nat} {A B C : World} (h : KeepN l A B) (k : KeepN l B C) : KeepN l A C := ⟨Nat.le_trans h.size k.size, fun i o hi ho hl => k.same i o (h.same i o hi ho hl) ho hl⟩
theorem KeepN.put (W : World) (l : Nat) (o' : Obj) : KeepN l W (W.putObj l o') := ⟨by simp [World.putObj], fun k x hk _ hl => (World.putObj_heap_other (by omega)).trans hk⟩

variable {P : Program}

/-- What a function that is looped over does with whatever loop's yield l, from W1 on: N rounds at most, round k with a value that V k allows. -/
def Iter {X : Type} (P : Program) (gf : Nat) (lb : Array Value) (encs : X → Array Value) (c : Option Nat) (N : Nat) (V : Nat → X → World → Prop) (Kp : World → World → Prop) (E : World → Prop) (w : World) : Prop :=
  ∀ (l : Nat) (W1 : World), Book none w.heap.size w W1 → l = w.heap.size + 1 → l < W1.heap.size → ∀ (J Jx : Nat → World → Prop),
    (∀ k A B, J k A → Book c W1.heap.size A B → J k B) → (∀ k A B, Jx k A → Book none W1.heap.size A B → Jx k B) →
    (∀ k x W, k < N → J k W → V k x W → ∀ m, YieldAt Fence.wide m P l (encs x) W fun e W' => (e = .returned (.bool true) ∧ J (k + 1) W' ∧ Kp W W') ∨ (e = .returned (.bool false) ∧ Jx (k + 1) W' ∧ KeepN l W W')) →
    J 0 W1 → Calls P gf (#[.func (.yield l) #[] #[]] ++ lb) W1 fun e W' => (∃ v, e = .returned v) ∧ ((J N W' ∧ E W') ∨ ∃ k, k ≤ N ∧ Jx k W')

theorem range_law {X : Type} {n : Nat} {g : Operand} {ps : Array Tmp} {assign body : Code} {Q : Exit → Act → World → Prop} {a : Act} {w : World} {gf : Nat} {lb : Array Value}
    (hg : a.eval g = .func (.func gf) #[] lb) (eg : ∀ args w, (callFunc gf args).run P w = .ok (.enter gf args) w)
    {encs : X → Array Value} {c : Option Nat} {N : Nat} {V : Nat → X → World → Prop} {Kp : World → World → Prop} {E : World → Prop} (hiter : Iter P gf lb encs c N V Kp E w)
    (hps : ∀ x, (encs x).size = ps.size) (hV : ∀ k x A B, V k x A → Book none w.heap.size A B → V k x B)
    (hKt : ∀ {A B C : World}, Kp A B → Kp B C → Kp A C) (hKb : ∀ (W : World) (l : Nat) (o o' : Obj), l = w.heap.size + 1 → W.heap[l]? = some o → o.isCells = false → Kp W (W.putObj l o'))
    (hE : ∀ A B, E A → Book none w.heap.size A B → E B)
    (I : Nat → World → Prop) (Ix : Code → Nat → World → Prop) (hI : ∀ k A B, I k A → Book c w.heap.size A B → I k B) (hIx : ∀ cd k A B, Ix cd k A → Book none w.heap.size A B → Ix cd k B)
    (hc : ∀ k, c = some k → k < w.heap.size) (h0 : I 0 w) (a₁ : X → Act)
    (hassign : ∀ (l m : Nat) (x : X) (W : World) (K : Act → World → Prop), K (a₁ x) W →
      assign.wpIn (Fence.wide.inRound l) m P (Exit.then K (fun _ _ _ => False)) { tmps := (ps.zip (encs x)).foldl (fun t (p, v) => t.setIfInBounds p v) a.tmps, defers := [] } W)
    (hbody : ∀ (l m k : Nat) (x : X) (W : World), w.heap.size ≤ l → k < N → I k W → V k x W → body.wpIn (Fence.wide.inRound l) m P (postR w.heap.size Kp I Ix (k + 1) W) (a₁ x) W)
    (hdone : ∀ (D : Nat) (W : World), w.heap.size ≤ D → E W → I N W → W.heap[D]? = some (.deferred (some [])) → Q .normal { a with defers := { target := .collected D, args := #[] } :: a.defers } W)
    (hstop : ∀ (D : Nat) (cd : Code) (k : Nat) (W : World), w.heap.size ≤ D → k ≤ N → Ix cd k W → W.heap[D]? = some (.deferred (some [])) → cd.wpIn Fence.wide n P Q { a with defers := { target := .collected D, args := #[] } :: a.defers } W) :
    (Code.rangeFunc g ps assign body).wpIn Fence.wide n P Q a w := by
  refine wpIn_rangeFunc fun fn hfn => ?_
  obtain ⟨rec, hrec⟩ : ∃ rec : LoopState → Option Code → Loop, rec = fun st pe => { state := st, pending := pe, fn, tmps := a.tmps, params := ps, assign, body, defers := w.heap.size } := ⟨_, rfl⟩
  obtain ⟨W1, hW1⟩ : ∃ W1, (w.alloc (.deferred (some []))).alloc (.loop (rec .ready none)) = W1 := ⟨_, rfl⟩
  have hL1 : W1.heap[w.heap.size + 1]? = some (.loop (rec .ready none)) := by
    rw [← hW1]; have := World.alloc_heap_new (w.alloc (.deferred (some []))) (.loop (rec .ready none)); rwa [World.size_alloc] at this
  have hK1 : W1.heap[w.heap.size]? = some (.deferred (some [])) := by
    rw [← hW1]; exact (Below.heap_alloc _ _ _ (by simp)).trans (World.alloc_heap_new w _)
  have hS1 : W1.heap.size = w.heap.size + 2 := by rw [← hW1]; simp
  have hb1 : Book none w.heap.size w W1 := by rw [← hW1]; exact (Book.alloc _ _ _ _).trans (Book.alloc _ _ _ _)
  refine ⟨w.heap.size + 1, [{ target := .collected w.heap.size, args := #[] }], W1, { target := .fn (.func gf) lb, args := #[.func (.yield (w.heap.size + 1)) #[] #[]] }, W1, gf,
    #[.func (.yield (w.heap.size + 1)) #[] #[]] ++ lb, W1, ?_, ?_, fun _ _ => trivial, ?_, fun h => (by cases h), ?_⟩
  · rw [← hW1, hrec]; exact run_enterLoop_outer _ _ _ _ _
  · simp only [resolve, hg]
    simp [go_sem]
  · simp [invoke, go_sem, eg]
  have keeps : ∀ {cc : Option Nat} {A B : World}, (∀ k, cc = some k → k < w.heap.size) → Book cc W1.heap.size A B → ∀ {j : Nat} {o : Obj}, (j = w.heap.size ∨ j = w.heap.size + 1) → A.heap[j]? = some o → B.heap[j]? = some o := by
    intro cc A B hcc h j o hj ho
    exact h.same j o ho (fun e => by have := hcc j e; omega) (.inl (by omega))
  refine callsIn_wide.2 ((hiter (w.heap.size + 1) W1 hb1 rfl (by omega)
    (fun k W => I k W ∧ W.heap[w.heap.size + 1]? = some (.loop (rec .ready none)) ∧ W.heap[w.heap.size]? = some (.deferred (some [])))
    (fun k W => ∃ cd, Ix cd k W ∧ W.heap[w.heap.size + 1]? = some (.loop (rec .done (some cd))) ∧ W.heap[w.heap.size]? = some (.deferred (some [])))
    (fun k A B hs hg' => ⟨hI k A B hs.1 (hg'.mono (by omega)), keeps hc hg' (.inr rfl) hs.2.1, keeps hc hg' (.inl rfl) hs.2.2⟩)
    (fun k A B hs hg' => by
      obtain ⟨cd, h1, h2, h3⟩ := hs
      exact ⟨cd, hIx cd k A B h1 (hg'.mono (by omega)), keeps (by simp) hg' (.inr rfl) h2, keeps (by simp) hg' (.inl rfl) h3⟩)
    ?_ ⟨hI 0 w W1 h0 (hb1.any c), hL1, hK1⟩).mono ?_)
  · rintro k x W hk ⟨hi, hl, hd⟩ hv m
    have hlt : w.heap.size + 1 < W.heap.size := (Array.getElem?_eq_some_iff.1 hl).1
    have hy := run_yield (P := P) (args := encs x) hl (by rw [hrec]; exact hps x)
    rw [hrec] at hy
    refine ⟨fn, _, assign, body, hy, roundIn_of_wpIn hfn (hassign _ _ x W _ ⟨_, run_beginRound hl (by rw [hrec]), ?_⟩)⟩
    have bk : Book none w.heap.size W (W.putObj (w.heap.size + 1) (.loop { rec .ready none with state := .busy })) := Book.putObj _ (by omega) hl rfl
    have hl2 : (W.putObj (w.heap.size + 1) (.loop { rec .ready none with state := .busy })).heap[w.heap.size + 1]? = some (.loop { rec .ready none with state := .busy }) := World.putObj_heap_same hlt
    have hd2 : (W.putObj (w.heap.size + 1) (.loop { rec .ready none with state := .busy })).heap[w.heap.size]? = some (.deferred (some [])) := (World.putObj_heap_other (by omega)).trans hd
    have hw2 : Kp W (W.putObj (w.heap.size + 1) (.loop { rec .ready none with state := .busy })) := hKb _ _ _ _ rfl hl rfl
    refine wpIn_mono (hbody _ _ k x _ (by omega) hk (hI _ _ _ hi (bk.any c)) (hV _ _ _ _ hv bk)) ?_
    have fin : ∀ (jump : Option Code) (W3 : World), KeepsFrom w.heap.size (W.putObj (w.heap.size + 1) (.loop { rec .ready none with state := .busy })) W3 →
        (Instr.endRound (w.heap.size + 1) jump).run P W3 = .ok (.bool jump.isNone) (W3.putObj (w.heap.size + 1) (.loop (rec (if jump.isNone then .ready else .done) jump))) ∧
        W3.heap[w.heap.size + 1]? = some (.loop { rec .ready none with state := .busy }) ∧
        (W3.putObj (w.heap.size + 1) (.loop (rec (if jump.isNone then .ready else .done) jump))).heap[w.heap.size + 1]? = some (.loop (rec (if jump.isNone then .ready else .done) jump)) ∧
        (W3.putObj (w.heap.size + 1) (.loop (rec (if jump.isNone then .ready else .done) jump))).heap[w.heap.size]? = some (.deferred (some [])) := fun jump W3 hk3 => by
      have hl3 := hk3.same _ _ (by omega) hl2 rfl
      have := run_endRound (P := P) jump hl3
      rw [hrec] at this ⊢
      exact ⟨this, by rw [hrec] at hl3; exact hl3, World.putObj_heap_same (Array.getElem?_eq_some_iff.1 hl3).1, (World.putObj_heap_other (by omega)).trans (hk3.same _ _ (Nat.le_refl _) hd2 rfl)⟩
    have keepN : ∀ (jump : Option Code) (W3 : World), KeepsFrom w.heap.size (W.putObj (w.heap.size + 1) (.loop { rec .ready none with state := .busy })) W3 → KeepN (w.heap.size + 1) W (W3.putObj (w.heap.size + 1) (.loop (rec (if jump.isNone then .ready else .done) jump))) := fun jump W3 hk3 =>
      (KeepN.put W _ _).trans (KeepN.trans ⟨hk3.size, fun k o hk ho hl => hk3.same k o (by omega) hk ho⟩ (KeepN.put W3 _ _))
    rintro e a3 W3 hp
    cases e with
    | normal =>
      obtain ⟨hk3, hkp3, hi3⟩ := hp
      obtain ⟨hr, hl3, hl4, hd4⟩ := fin none W3 hk3
      exact ⟨_, _, hr, .inl ⟨rfl, ⟨hI _ _ _ hi3 (Book.putObj _ (by omega) hl3 rfl), hl4, hd4⟩, hKt (hKt hw2 hkp3) (hKb _ _ _ _ rfl hl3 rfl)⟩⟩
    | ret =>
      obtain ⟨hk3, hi3⟩ := hp
      obtain ⟨hr, hl3, hl4, hd4⟩ := fin (some .ret) W3 hk3
      exact ⟨_, _, hr, .inr ⟨rfl, ⟨.ret, hIx _ _ _ _ hi3 (Book.putObj _ (by omega) hl3 rfl), hl4, hd4⟩, keepN (some .ret) W3 hk3⟩⟩
    | exit id =>
      obtain ⟨hk3, hi3⟩ := hp
      obtain ⟨hr, hl3, hl4, hd4⟩ := fin (some (.exit id)) W3 hk3
      exact ⟨_, _, hr, .inr ⟨rfl, ⟨.exit id, hIx _ _ _ _ hi3 (Book.putObj _ (by omega) hl3 rfl), hl4, hd4⟩, keepN (some (.exit id)) W3 hk3⟩⟩
    | goto t =>
      obtain ⟨hk3, hi3⟩ := hp
      obtain ⟨hr, hl3, hl4, hd4⟩ := fin (some (.goto t)) W3 hk3
      exact ⟨_, _, hr, .inr ⟨rfl, ⟨.goto t, hIx _ _ _ _ hi3 (Book.putObj _ (by omega) hl3 rfl), hl4, hd4⟩, keepN (some (.goto t)) W3 hk3⟩⟩
    | panic ch => exact hp.elim
    | outgrown => exact hp.elim
  · rintro e W2 ⟨⟨v, rfl⟩, (⟨⟨hi, hl, hd⟩, he⟩ | ⟨k, hk, cd, hi, hl, hd⟩)⟩
    · have bk : ∀ {cc}, Book cc w.heap.size W2 (W2.putObj (w.heap.size + 1) (.loop { rec .ready none with state := .exhausted })) := Book.putObj _ (by omega) hl rfl
      exact ⟨none, _, by have := run_endLoop (P := P) hl (by rw [hrec]; simp); rw [hrec] at this; exact this, hdone _ _ (Nat.le_refl _) (hE _ _ he (by rw [hrec] at bk; exact bk)) (hI _ _ _ hi (by rw [hrec] at bk; exact bk)) ((World.putObj_heap_other (by omega)).trans hd)⟩
    · exact ⟨some cd, _, by have := run_endLoop (P := P) hl (by rw [hrec]; simp); rw [hrec] at this; exact this, hstop _ cd k _ (Nat.le_refl _) hk (hIx _ _ _ _ hi (Book.putObj _ (by omega) hl rfl)) ((World.putObj_heap_other (by omega)).trans hd)⟩


theorem Book.boxed {c : Option Nat} {B b : Nat} {A A' : World} {t : TypeId} {v : Value} (h : Book c B A A') (hb : Boxed A b t v) (hc : c ≠ some b) : Boxed A' b t v := h.same b _ hb hc (.inr rfl)

/-- The marks of loops that are over: their blocks hold no call. -/
def Marks (B : Nat) (W : World) (ds : List Deferred) : Prop :=
  ∃ Ds : List Nat, ds = Ds.map (fun D => { target := .collected D, args := #[] }) ∧ Ds.Nodup ∧ ∀ D ∈ Ds, B ≤ D ∧ W.heap[D]? = some (.deferred (some []))

theorem Marks.nil (B : Nat) (W : World) : Marks B W [] := ⟨[], rfl, List.nodup_nil, fun _ h => by cases h⟩
theorem Marks.kept {B : Nat} {W W' : World} {ds : List Deferred} (h : Marks B W ds) (hk : KeepsFrom B W W') : Marks B W' ds := by
  obtain ⟨Ds, h1, h2, h3⟩ := h
  exact ⟨Ds, h1, h2, fun D hD => ⟨(h3 D hD).1, hk.same D _ (h3 D hD).1 (h3 D hD).2 rfl⟩⟩
theorem Marks.below {B : Nat} {W W' : World} {ds : List Deferred} (h : Marks B W ds) (hk : Below W.heap.size W W') : Marks B W' ds := by
  obtain ⟨Ds, h1, h2, h3⟩ := h
  exact ⟨Ds, h1, h2, fun D hD => ⟨(h3 D hD).1, (hk.block D (Array.getElem?_eq_some_iff.1 (h3 D hD).2).1).trans (h3 D hD).2⟩⟩
theorem Marks.book {B B' : Nat} {c : Option Nat} {W W' : World} {ds : List Deferred} (h : Marks B W ds) (hs : W.heap.size ≤ B') (hk : Book c B' W W') (hc : ∀ k, c = some k → ∃ t v, Boxed W k t v) : Marks B W' ds := by
  obtain ⟨Ds, h1, h2, h3⟩ := h
  refine ⟨Ds, h1, h2, fun D hD => ⟨(h3 D hD).1, hk.same D _ (h3 D hD).2 (fun e => ?_) (.inl (Nat.lt_of_lt_of_le (Array.getElem?_eq_some_iff.1 (h3 D hD).2).1 hs))⟩⟩
  obtain ⟨t, v, hb⟩ := hc D e
  have := (h3 D hD).2
  rw [show W.heap[D]? = _ from hb] at this
  cases this
theorem Marks.cons {B : Nat} {W : World} {ds : List Deferred} {D : Nat} (h : Marks B W ds) (hD : B ≤ D) (hd : W.heap[D]? = some (.deferred (some []))) (hn : ∀ d ∈ ds, ∀ D', d.target = .collected D' → D' < D) : Marks B W ({ target := .collected D, args := #[] } :: ds) := by
  obtain ⟨Ds, rfl, h2, h3⟩ := h
  refine ⟨D :: Ds, rfl, List.nodup_cons.2 ⟨fun hm => ?_, h2⟩, fun D' hD' => ?_⟩
  · have := hn _ (List.mem_map_of_mem hm) D rfl
    omega
  · rcases List.mem_cons.1 hD' with rfl | h
    · exact ⟨hD, hd⟩
    · exact h3 D' h
theorem Marks.lt {B : Nat} {W : World} {ds : List Deferred} (h : Marks B W ds) : ∀ d ∈ ds, ∀ D', d.target = .collected D' → D' < W.heap.size := by
  obtain ⟨Ds, rfl, h2, h3⟩ := h
  intro d hd D' he
  obtain ⟨D, hm, rfl⟩ := List.mem_map.1 hd
  cases he
  exact (Array.getElem?_eq_some_iff.1 (h3 _ hm).2).1

/-- A function leaves through its marks. -/
theorem leave_marks {P : Program} {n B : Nat} {fn : Func} {tmps : Array Value} {R : Ending → World → Prop} : ∀ {ds : List Deferred} {W : World}, Marks B W ds →
    (∀ W', Book none B W W' → ∃ v, (results fn tmps).run P W' = .ok v W' ∧ R (.returned v) W') → LeavesInM Fence.wide n P fn tmps R ds .returning W := by
  rintro ds W ⟨Ds, rfl, h2, h3⟩
  induction Ds generalizing W with
  | nil => intro h; exact h W (Book.refl _ _ _)
  | cons D Ds ih =>
    intro h
    obtain ⟨hD, hd⟩ := h3 D (by simp)
    have bk : Book none B W (W.putObj D (.deferred none)) := Book.putObj _ hD hd rfl
    refine ⟨by simp, .inl ⟨D, _, rfl, run_takeDeferred hd, ih (List.nodup_cons.1 h2).2 (fun D' hD' => ?_) (fun W' hW' => h W' (bk.trans hW'))⟩⟩
    have hne : D' ≠ D := fun e => (List.nodup_cons.1 h2).1 (e ▸ hD')
    exact ⟨(h3 D' (by simp [hD'])).1, (World.putObj_heap_other hne).trans (h3 D' (by simp [hD'])).2⟩

theorem results_cells3 {P : Program} {fn : Func} {p q r : Tmp} {t u v : TypeId} (h : fn.results = #[.cell p t, .cell q u, .cell r v]) (tmps : Array Value) (w : World) {ap aq ar : Addr} {x y z : Value}
    (hp : tmps.getD p undef = .pointer (some ap)) (hq : tmps.getD q undef = .pointer (some aq)) (hr : tmps.getD r undef = .pointer (some ar))
    (hx : (loadVar t ap).run P w = .ok x w) (hy : (loadVar u aq).run P w = .ok y w) (hz : (loadVar v ar).run P w = .ok z w) : (results fn tmps).run P w = .ok (.tuple #[x, y, z]) w := by
  simp only [results, h, List.mapM_toArray]
  simp only [Array.getD_eq_getD_getElem?] at hp hq hr
  simp [Sem.run_bind, Result.andThen, hp, hq, hr, asAddr, hx, hy, hz]

theorem load_box3 (w : World) {b : Nat} {t : TypeId} {v : Value} (h : Boxed w b t v) : (loadVar 3 ⟨b, 0, none⟩).run Tryd.prog w = .ok v w := by
  have := h.cell
  simp [loadVar, go_sem, this]
theorem load_box22 (w : World) {b : Nat} {t : TypeId} {v : Value} (h : Boxed w b t v) : (loadVar 22 ⟨b, 0, none⟩).run Tryd.prog w = .ok v w := by
  have := h.cell
  simp [loadVar, go_sem, this]
theorem load_box26 (w : World) {b : Nat} {t : TypeId} {v : Value} (h : Boxed w b t v) : (loadVar 26 ⟨b, 0, none⟩).run Tryd.prog w = .ok v w := by
  have := h.cell
  simp [loadVar, go_sem, this]
theorem load_box4 (w : World) {b : Nat} {t : TypeId} {v : Value} (h : Boxed w b t v) : (loadVar 4 ⟨b, 0, none⟩).run Tryd.prog w = .ok v w := by
  have := h.cell
  simp [loadVar, go_sem, this]

end Go.Proofs.YtdodfmgbjfhnpaaDoor
