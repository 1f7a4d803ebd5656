/- The calls of Var and of the models' values. -/
import Derived.Test.YthpebfojkpnojaaGreatProg
import Derived.Test.YthpebfojkpnojaaGreatJaq
import Derived.WalkKit
import Derived.Deep.QuietTactic
import Derived.BigQuiet
import Derived.RangeFuncNested
import Derived.RangeFuncLeaves
import Derived.RangeFuncBound
import Derived.RangeFuncBox
/- The calls of Var and of the models' values. -/
namespace Go.Proofs.YthpebfojkpnojaaGreat.Tr
open Go.RowKit
set_option linter.unusedVariables false

theorem hid {p : Prop} (h : p) : Hid p := h
theorem ret_bool {a b : Bool} (h : a = b) : Ending.returned (.bool a) = .returned (.bool b) := by rw [h]

/-- A row of literals: what a slice of them holds. -/
def Lits (w : World) (a : Option Addr) (xs : List Int) : Prop :=
  (∀ x ∈ xs, -2147483648 ≤ x ∧ x ≤ 2147483647) ∧ (xs = [] ∨ ∃ b off, a = some ⟨b, off, none⟩ ∧ b < w.heap.size ∧ ∀ j, j < xs.length → w.cell? ⟨b, off + j, none⟩ = some (.int .i32 (xs.getD j 0)))

/-- A row of Booleans. -/
def Bools (w : World) (a : Option Addr) (xs : List Bool) : Prop :=
  xs = [] ∨ ∃ b off, a = some ⟨b, off, none⟩ ∧ b < w.heap.size ∧ ∀ j, j < xs.length → w.cell? ⟨b, off + j, none⟩ = some (.bool (xs.getD j false))

theorem Lits.below {w w' : World} {a : Option Addr} {xs : List Int} (h : Lits w a xs) (hb : Below w.heap.size w w') : Lits w' a xs := by
  refine ⟨h.1, ?_⟩
  rcases h.2 with h | ⟨b, off, e, hl, hc⟩
  · exact .inl h
  · exact .inr ⟨b, off, e, Nat.lt_of_lt_of_le hl hb.size, fun j hj => (hb.cell (p := ⟨b, off + j, none⟩) hl).trans (hc j hj)⟩

theorem Bools.below {w w' : World} {a : Option Addr} {xs : List Bool} (h : Bools w a xs) (hb : Below w.heap.size w w') : Bools w' a xs := by
  rcases h with h | ⟨b, off, e, hl, hc⟩
  · exact .inl h
  · exact .inr ⟨b, off, e, Nat.lt_of_lt_of_le hl hb.size, fun j hj => (hb.cell (p := ⟨b, off + j, none⟩) hl).trans (hc j hj)⟩

theorem Lits.at {w : World} {a : Option Addr} {xs : List Int} (h : Lits w a xs) {k : Nat} (hk : k < xs.length) :
    ∃ b off, a = some ⟨b, off, none⟩ ∧ w.cell? ⟨b, off + k, none⟩ = some (.int .i32 (xs.getD k 0)) ∧ -2147483648 ≤ xs.getD k 0 ∧ xs.getD k 0 ≤ 2147483647 := by
  have hm : xs.getD k 0 ∈ xs := by simp [List.getD, List.getElem?_eq_getElem hk]
  rcases h.2 with rfl | ⟨b, off, e, hl, hc⟩
  · simp at hk
  · exact ⟨b, off, e, hc k hk, (h.1 _ hm).1, (h.1 _ hm).2⟩

theorem Bools.at {w : World} {a : Option Addr} {xs : List Bool} (h : Bools w a xs) {k : Nat} (hk : k < xs.length) :
    ∃ b off, a = some ⟨b, off, none⟩ ∧ w.cell? ⟨b, off + k, none⟩ = some (.bool (xs.getD k false)) := by
  rcases h with rfl | ⟨b, off, e, hl, hc⟩
  · simp at hk
  · exact ⟨b, off, e, hc k hk⟩

set_option maxHeartbeats 400000 in
theorem var27 (l : Int) (w : World) (h1 : -2147483648 ≤ l) (h2 : l ≤ 2147483647) :
    Calls Tryz.prog 71 #[.int .i32 l] w fun e w' => e = .returned (.int .i64 (Cnt.vr l)) ∧ w' = w := by
  by_cases h : l < 0
  · have e : Cnt.vr l = -l := by simp [Cnt.vr, h]
    rw [e]
    go_enter Tryz.func71, Tryz.ntmps71
    go_wp2
    go_ret
    exact ⟨rfl, rfl⟩
  · have e : Cnt.vr l = l := by simp [Cnt.vr, h]
    rw [e]
    go_enter Tryz.func71, Tryz.ntmps71
    go_wp2
    go_ret
    exact ⟨rfl, rfl⟩

set_option maxHeartbeats 400000 in
theorem var30 (l : Int) (w : World) (h1 : -2147483648 ≤ l) (h2 : l ≤ 2147483647) :
    Calls Tryz.prog 83 #[.int .i32 l] w fun e w' => e = .returned (.int .i64 (Cnt.vr l)) ∧ w' = w := by
  by_cases h : l < 0
  · have e : Cnt.vr l = -l := by simp [Cnt.vr, h]
    rw [e]
    go_enter Tryz.func83, Tryz.ntmps83
    go_wp2
    go_ret
    exact ⟨rfl, rfl⟩
  · have e : Cnt.vr l = l := by simp [Cnt.vr, h]
    rw [e]
    go_enter Tryz.func83, Tryz.ntmps83
    go_wp2
    go_ret
    exact ⟨rfl, rfl⟩

end Go.Proofs.YthpebfojkpnojaaGreat.Tr

/- A loop over a function that keeps memory of its own: what it owns lies from block C on, what the loop's owner turns lies below. -/
namespace Go.Proofs.YthpebfojkpnojaaGreat.Tr
open Go.RowKit
set_option linter.unusedVariables false

/-- What lies below C stands, and what is no cells. -/
structure Ask (C : Nat) (A B : World) : Prop where
  below : Below C A B
  other : ∀ (k : Nat) (o : Obj), A.heap[k]? = some o → o.isCells = false → B.heap[k]? = some o
theorem Ask.refl (C : Nat) (A : World) : Ask C A A := ⟨Below.refl _ _, fun _ _ h _ => h⟩
theorem Ask.trans {C : Nat} {A B D : World} (h : Ask C A B) (k : Ask C B D) : Ask C A D := ⟨h.below.trans k.below, fun i o hi ho => k.other i o (h.other i o hi ho) ho⟩
/-- Cells from C on stand. -/
structure Up (C : Nat) (A B : World) : Prop where
  size : A.heap.size ≤ B.heap.size
  same : ∀ (k : Nat) (o : Obj), C ≤ k → A.heap[k]? = some o → o.isCells = true → B.heap[k]? = some o
theorem Up.refl (C : Nat) (A : World) : Up C A A := ⟨Nat.le_refl _, fun _ _ _ h _ => h⟩
theorem Up.trans {C : Nat} {A B D : World} (h : Up C A B) (k : Up C B D) : Up C A D := ⟨Nat.le_trans h.size k.size, fun i o hc hi ho => k.same i o hc (h.same i o hc hi ho) ho⟩
theorem Up.put {C : Nat} {W : World} {l : Nat} {o : Obj} (o' : Obj) (h : W.heap[l]? = some o) (ho : o.isCells = false) : Up C W (W.putObj l o') := by
  refine ⟨by simp [World.putObj], fun k x _ hk hx => ?_⟩
  have : k ≠ l := by
    rintro rfl
    rw [h] at hk
    cases hk
    rw [ho] at hx
    cases hx
  exact (World.putObj_heap_other this).trans hk
theorem Up.of_below {C : Nat} {A B : World} (h : Below A.heap.size A B) : Up C A B := ⟨h.size, fun k o _ hk _ => (h.block k (Array.getElem?_eq_some_iff.1 hk).1).trans hk⟩
theorem Up.cell {C : Nat} {A B : World} (h : Up C A B) {p : Addr} {v : Value} (hp : A.cell? p = some v) (hc : C ≤ p.block) : B.cell? p = some v := by
  have hx : ∃ o : Obj, A.heap[p.block]? = some o ∧ o.isCells = true := by
    unfold World.cell? at hp
    cases e : A.heap[p.block]? with
    | none => rw [e] at hp; simp at hp
    | some o =>
      cases o <;> first
        | exact ⟨_, rfl, rfl⟩
        | (rw [e] at hp; simp at hp)
  obtain ⟨o, h1, h2⟩ := hx
  rw [World.cell?_of_block (w := A) ((h.same _ o hc h1 h2).trans h1.symm)]
  exact hp
theorem Up.bools {A B : World} {a : Option Addr} {xs : List Bool} (h : Up 0 A B) (hb : Bools A a xs) : Bools B a xs := by
  rcases hb with hb | ⟨b, off, e, hl, hc⟩
  · exact .inl hb
  · exact .inr ⟨b, off, e, Nat.lt_of_lt_of_le hl h.size, fun j hj => h.cell (p := ⟨b, off + j, none⟩) (hc j hj) (Nat.zero_le _)⟩
theorem below_put {C l : Nat} (W : World) (o' : Obj) (h : C ≤ l) : Below C W (W.putObj l o') := ⟨rfl, rfl, rfl, by simp [World.putObj], fun k hk => World.putObj_heap_other (by omega)⟩

/-- How a round may be left. -/
def postU (B C : Nat) (I : Nat → World → Prop) (Ix : Code → World → Prop) (k : Nat) (W : World) : Exit → Act → World → Prop
  | .normal, _, W' => KeepsFrom B W W' ∧ Up C W W' ∧ I k W'
  | .ret, _, W' => KeepsFrom B W W' ∧ Ix .ret W'
  | .exit id, _, W' => KeepsFrom B W W' ∧ Ix (.exit id) W'
  | .goto t, _, W' => KeepsFrom B W W' ∧ Ix (.goto t) W'
  | .panic _, _, _ => False
  | .outgrown, _, _ => False

variable {P : Program}

/-- What a function that is looped over does with whatever loop's yield l: it hands out those of 0 .. N - 1 that yes allows, in order. -/
def IterU (P : Program) (gf : Nat) (lb : Array Value) (C N : Nat) (yes : Nat → Bool) (S : World → Prop) : Prop :=
  ∀ (l : Nat) (W1 : World) (J : Nat → World → Prop) (Jx : World → Prop), S W1 →
    (∀ k A B, J k A → Ask C A B → J k B) →
    (∀ k W, k < N → yes k = false → J k W → J (k + 1) W) →
    (∀ k W, k < N → yes k = true → J k W → S W → ∀ m, YieldAt Fence.wide m P l #[.int .i64 k] W fun e W' => (e = .returned (.bool true) ∧ J (k + 1) W' ∧ S W') ∨ (e = .returned (.bool false) ∧ Jx W')) →
    J 0 W1 → Calls P gf (#[.func (.yield l) #[] #[]] ++ lb) W1 fun e W' => (∃ v, e = .returned v) ∧ (J N W' ∨ Jx W')

theorem range_up {n : Nat} {g : Operand} {ps : Array Tmp} {assign body : Code} {Q : Exit → Act → World → Prop} {a : Act} {w : World} {gf : Nat} {lb : Array Value}
    (hg : a.eval g = .func (.func gf) #[] lb) (eg : ∀ args w, (callFunc gf args).run P w = .ok (.enter gf args) w)
    {C N : Nat} {yes : Nat → Bool} {S : World → Prop} (hiter : IterU P gf lb C N yes S) (hC : C ≤ w.heap.size)
    (hps : 1 = ps.size) (hS : ∀ A B, S A → Up C A B → S B) (hS0 : S w)
    (I : Nat → World → Prop) (Ix : Code → World → Prop) (hI : ∀ k A B, I k A → Below C A B → I k B) (hIx : ∀ cd A B, Ix cd A → Below C A B → Up 0 A B → Ix cd B)
    (hskip : ∀ k W, k < N → yes k = false → I k W → I (k + 1) W)
    (h0 : I 0 w) (a₁ : Nat → Act)
    (hassign : ∀ (l m : Nat) (k : Nat) (W : World) (K : Act → World → Prop), K (a₁ k) W →
      assign.wpIn (Fence.wide.inRound l) m P (Exit.then K (fun _ _ _ => False)) { tmps := (ps.zip #[.int .i64 k]).foldl (fun t (p, v) => t.setIfInBounds p v) a.tmps, defers := [] } W)
    (hbody : ∀ (l m k : Nat) (W : World), w.heap.size ≤ l → w.heap.size ≤ W.heap.size → k < N → yes k = true → I k W → body.wpIn (Fence.wide.inRound l) m P (postU w.heap.size C I Ix (k + 1) W) (a₁ k) W)
    (hdone : ∀ (D : Nat) (W : World), w.heap.size ≤ D → I N W → W.heap[D]? = some (.deferred (some [])) → Q .normal { a with defers := { target := .collected D, args := #[] } :: a.defers } W)
    (hstop : ∀ (D : Nat) (cd : Code) (W : World), w.heap.size ≤ D → Ix cd W → W.heap[D]? = some (.deferred (some [])) → cd.wpIn Fence.wide n P Q { a with defers := { target := .collected D, args := #[] } :: a.defers } W) :
    (Code.rangeFunc g ps assign body).wpIn Fence.wide n P Q a w := by
  refine wpIn_rangeFunc fun fn hfn => ?_
  obtain ⟨rec, hrec⟩ : ∃ rec : LoopState → Option Code → Loop, rec = fun st pe => { state := st, pending := pe, fn, tmps := a.tmps, params := ps, assign, body, defers := w.heap.size } := ⟨_, rfl⟩
  obtain ⟨W1, hW1⟩ : ∃ W1, (w.alloc (.deferred (some []))).alloc (.loop (rec .ready none)) = W1 := ⟨_, rfl⟩
  have hL1 : W1.heap[w.heap.size + 1]? = some (.loop (rec .ready none)) := by
    rw [← hW1]; have := World.alloc_heap_new (w.alloc (.deferred (some []))) (.loop (rec .ready none)); rwa [World.size_alloc] at this
  have hK1 : W1.heap[w.heap.size]? = some (.deferred (some [])) := by
    rw [← hW1]; exact (Below.heap_alloc _ _ _ (by simp)).trans (World.alloc_heap_new w _)
  have hb1 : Below w.heap.size w W1 := by rw [← hW1]; exact ((Below.refl _ w).alloc (Nat.le_refl _) _).alloc (by simp) _
  refine ⟨w.heap.size + 1, [{ target := .collected w.heap.size, args := #[] }], W1, { target := .fn (.func gf) lb, args := #[.func (.yield (w.heap.size + 1)) #[] #[]] }, W1, gf,
    #[.func (.yield (w.heap.size + 1)) #[] #[]] ++ lb, W1, ?_, ?_, fun _ _ => trivial, ?_, fun h => (by cases h), ?_⟩
  · rw [← hW1, hrec]; exact run_enterLoop_outer _ _ _ _ _
  · simp only [resolve, hg]
    simp [go_sem]
  · simp [invoke, go_sem, eg]
  refine callsIn_wide.2 ((hiter (w.heap.size + 1) W1
    (fun k W => I k W ∧ w.heap.size ≤ W.heap.size ∧ W.heap[w.heap.size + 1]? = some (.loop (rec .ready none)) ∧ W.heap[w.heap.size]? = some (.deferred (some [])))
    (fun W => ∃ cd, Ix cd W ∧ W.heap[w.heap.size + 1]? = some (.loop (rec .done (some cd))) ∧ W.heap[w.heap.size]? = some (.deferred (some [])))
    (hS _ _ hS0 (Up.of_below hb1))
    (fun k A B hs hg' => ⟨hI k A B hs.1 hg'.below, Nat.le_trans hs.2.1 hg'.below.size, hg'.other _ _ hs.2.2.1 rfl, hg'.other _ _ hs.2.2.2 rfl⟩)
    (fun k W hk hy hs => ⟨hskip k W hk hy hs.1, hs.2⟩)
    ?_ ⟨hI 0 w W1 h0 (hb1.mono hC), hb1.size, hL1, hK1⟩).mono ?_)
  · rintro k W hk hyes ⟨hi, hsz, hl, hd⟩ hs m
    have hlt : w.heap.size + 1 < W.heap.size := (Array.getElem?_eq_some_iff.1 hl).1
    have hy := run_yield (P := P) (args := #[.int .i64 k]) hl (by rw [hrec]; exact hps)
    rw [hrec] at hy
    refine ⟨fn, _, assign, body, hy, roundIn_of_wpIn hfn (hassign _ _ k W _ ⟨_, run_beginRound hl (by rw [hrec]), ?_⟩)⟩
    have bk : Below C W (W.putObj (w.heap.size + 1) (.loop { rec .ready none with state := .busy })) := below_put W _ (by omega)
    have hl2 : (W.putObj (w.heap.size + 1) (.loop { rec .ready none with state := .busy })).heap[w.heap.size + 1]? = some (.loop { rec .ready none with state := .busy }) := World.putObj_heap_same hlt
    have hd2 : (W.putObj (w.heap.size + 1) (.loop { rec .ready none with state := .busy })).heap[w.heap.size]? = some (.deferred (some [])) := (World.putObj_heap_other (by omega)).trans hd
    have hs2 : S (W.putObj (w.heap.size + 1) (.loop { rec .ready none with state := .busy })) := hS _ _ hs (Up.put _ hl rfl)
    refine wpIn_mono (hbody _ _ k _ (by omega) (by simpa [World.putObj] using hsz) hk hyes (hI _ _ _ hi bk)) ?_
    have fin : ∀ (jump : Option Code) (W3 : World), KeepsFrom w.heap.size (W.putObj (w.heap.size + 1) (.loop { rec .ready none with state := .busy })) W3 →
        (Instr.endRound (w.heap.size + 1) jump).run P W3 = .ok (.bool jump.isNone) (W3.putObj (w.heap.size + 1) (.loop (rec (if jump.isNone then .ready else .done) jump))) ∧
        W3.heap[w.heap.size + 1]? = some (.loop { rec .ready none with state := .busy }) ∧
        (W3.putObj (w.heap.size + 1) (.loop (rec (if jump.isNone then .ready else .done) jump))).heap[w.heap.size + 1]? = some (.loop (rec (if jump.isNone then .ready else .done) jump)) ∧
        (W3.putObj (w.heap.size + 1) (.loop (rec (if jump.isNone then .ready else .done) jump))).heap[w.heap.size]? = some (.deferred (some [])) := fun jump W3 hk3 => by
      have hl3 := hk3.same _ _ (by omega) hl2 rfl
      have := run_endRound (P := P) jump hl3
      rw [hrec] at this ⊢
      exact ⟨this, by rw [hrec] at hl3; exact hl3, World.putObj_heap_same (Array.getElem?_eq_some_iff.1 hl3).1, (World.putObj_heap_other (by omega)).trans (hk3.same _ _ (Nat.le_refl _) hd2 rfl)⟩
    rintro e a3 W3 hp
    cases e with
    | normal =>
      obtain ⟨hk3, hup, hi3⟩ := hp
      obtain ⟨hr, hl3, hl4, hd4⟩ := fin none W3 hk3
      have := hk3.size
      exact ⟨_, _, hr, .inl ⟨rfl, ⟨hI _ _ _ hi3 (below_put _ _ (by omega)), by simp [World.putObj] at this ⊢; omega, hl4, hd4⟩, hS _ _ (hS _ _ hs2 hup) (Up.put _ hl3 rfl)⟩⟩
    | ret =>
      obtain ⟨hk3, hi3⟩ := hp
      obtain ⟨hr, hl3, hl4, hd4⟩ := fin (some .ret) W3 hk3
      exact ⟨_, _, hr, .inr ⟨rfl, .ret, hIx _ _ _ hi3 (below_put _ _ (by omega)) (Up.put _ hl3 rfl), hl4, hd4⟩⟩
    | exit id =>
      obtain ⟨hk3, hi3⟩ := hp
      obtain ⟨hr, hl3, hl4, hd4⟩ := fin (some (.exit id)) W3 hk3
      exact ⟨_, _, hr, .inr ⟨rfl, .exit id, hIx _ _ _ hi3 (below_put _ _ (by omega)) (Up.put _ hl3 rfl), hl4, hd4⟩⟩
    | goto t =>
      obtain ⟨hk3, hi3⟩ := hp
      obtain ⟨hr, hl3, hl4, hd4⟩ := fin (some (.goto t)) W3 hk3
      exact ⟨_, _, hr, .inr ⟨rfl, .goto t, hIx _ _ _ hi3 (below_put _ _ (by omega)) (Up.put _ hl3 rfl), hl4, hd4⟩⟩
    | panic ch => exact hp.elim
    | outgrown => exact hp.elim
  · rintro e W2 ⟨⟨v, rfl⟩, (⟨hi, hsz, hl, hd⟩ | ⟨cd, hi, hl, hd⟩)⟩
    · exact ⟨none, _, by have := run_endLoop (P := P) hl (by rw [hrec]; simp); rw [hrec] at this; exact this, hdone _ _ (Nat.le_refl _) (hI _ _ _ hi (below_put _ _ (by omega))) ((World.putObj_heap_other (by omega)).trans hd)⟩
    · exact ⟨some cd, _, by have := run_endLoop (P := P) hl (by rw [hrec]; simp); rw [hrec] at this; exact this, hstop _ cd _ (Nat.le_refl _) (hIx _ _ _ hi (below_put _ _ (by omega)) (Up.put _ hl rfl)) ((World.putObj_heap_other (by omega)).trans hd)⟩
end Go.Proofs.YthpebfojkpnojaaGreat.Tr

/- Formulas: how they lie in memory; whether they are right; whether a model makes them true. -/
namespace Cnt

def scan (vars : Int) : Nat → List Int → Int
  | _, [] => 0
  | c, l :: ls => if 16777216 < c + 1 then 3 else if vr l < 1 ∨ vars < vr l then 4 else scan vars (c + 1) ls
def right (vars : Int) (cs : List (List Int)) : Int := if vars < 0 ∨ 1048576 < vars then 2 else if 1048576 < cs.length then 3 else scan vars 0 cs.flatten
def holds (cs : List (List Int)) (m : List Bool) : Bool := cs.all (fun c => val c m)

def okc (c : Nat) : Prop := c ≤ 16777216
theorem okc_zero : okc 0 := Nat.zero_le _

theorem drop_cons (xs : List Int) (k : Nat) (h : k < xs.length) : xs.drop k = xs.getD k 0 :: xs.drop (k + 1) := by
  rw [List.drop_eq_getElem_cons h]; simp [List.getD, h]
theorem drop_flat (cs : List (List Int)) (i : Nat) (h : i < cs.length) : (cs.drop i).flatten = cs.getD i [] ++ (cs.drop (i + 1)).flatten := by
  rw [List.drop_eq_getElem_cons h, List.flatten_cons]
  congr 1
  simp [List.getD, h]
theorem take_cls (cs : List (List Int)) (k : Nat) (h : k < cs.length) : cs.take (k + 1) = cs.take k ++ [cs.getD k []] := by
  rw [List.take_succ_eq_append_getElem h]; simp [List.getD, List.getElem?_eq_getElem h]
theorem getD_cls (cs : List (List Int)) (k : Nat) (h : k < cs.length) : cs.getD k [] ∈ cs := by simp [List.getD, List.getElem?_eq_getElem h]
theorem holds_take (cs : List (List Int)) (m : List Bool) (k : Nat) (h : k < cs.length) : holds (cs.take (k + 1)) m = (holds (cs.take k) m && val (cs.getD k []) m) := by
  rw [take_cls cs k h]; simp [holds]
theorem holds_false (cs : List (List Int)) (m : List Bool) (k : Nat) (h : k < cs.length) (hf : val (cs.getD k []) m = false) : holds cs m = false := by
  cases hs : holds cs m
  · rfl
  · have := List.all_eq_true.1 hs _ (getD_cls cs k h)
    rw [hf] at this
    cases this
theorem scan_limit (vars : Int) (c : Nat) (l : Int) (ls : List Int) (h : 16777216 < c + 1) : scan vars c (l :: ls) = 3 := by simp [scan, h]
theorem scan_lit (vars : Int) (c : Nat) (l : Int) (ls : List Int) (h : ¬ 16777216 < c + 1) (h2 : vr l < 1 ∨ vars < vr l) : scan vars c (l :: ls) = 4 := by
  unfold scan; rw [if_neg h, if_pos h2]
theorem scan_on (vars : Int) (c : Nat) (l : Int) (ls : List Int) (h : ¬ 16777216 < c + 1) (h2 : ¬ (vr l < 1 ∨ vars < vr l)) : scan vars c (l :: ls) = scan vars (c + 1) ls := by
  rw [scan, if_neg h, if_neg h2]
theorem flat_len (cs : List (List Int)) (k : Nat) (h : k < cs.length) : ((cs.take (k + 1)).flatten).length = ((cs.take k).flatten).length + (cs.getD k []).length := by
  rw [take_cls cs k h]; simp

end Cnt
namespace Go.Proofs.YthpebfojkpnojaaGreat.Tr
open Go.RowKit
set_option linter.unusedVariables false

/-- A row of clauses. -/
def Cls (w : World) (a : Option Addr) (cs : List (List Int)) : Prop :=
  (∀ c ∈ cs, c.length ≤ 35184372088832) ∧ (cs = [] ∨ ∃ b off, a = some ⟨b, off, none⟩ ∧ b < w.heap.size ∧ ∀ j, j < cs.length → ∃ a' cap', w.cell? ⟨b, off + j, none⟩ = some (.slice a' (cs.getD j []).length cap') ∧ Lits w a' (cs.getD j []))

theorem Cls.below {w w' : World} {a : Option Addr} {cs : List (List Int)} (h : Cls w a cs) (hb : Below w.heap.size w w') : Cls w' a cs := by
  refine ⟨h.1, ?_⟩
  rcases h.2 with h | ⟨b, off, e, hl, hc⟩
  · exact .inl h
  · refine .inr ⟨b, off, e, Nat.lt_of_lt_of_le hl hb.size, fun j hj => ?_⟩
    obtain ⟨a', cap', h1, h2⟩ := hc j hj
    exact ⟨a', cap', (hb.cell (p := ⟨b, off + j, none⟩) hl).trans h1, h2.below hb⟩

theorem Cls.at {w : World} {a : Option Addr} {cs : List (List Int)} (h : Cls w a cs) {k : Nat} (hk : k < cs.length) :
    ∃ b off a' cap', a = some ⟨b, off, none⟩ ∧ b < w.heap.size ∧ w.cell? ⟨b, off + k, none⟩ = some (.slice a' (cs.getD k []).length cap') ∧ Lits w a' (cs.getD k []) ∧ (cs.getD k []).length ≤ 35184372088832 := by
  rcases h.2 with rfl | ⟨b, off, e, hl, hc⟩
  · simp at hk
  · obtain ⟨a', cap', h1, h2⟩ := hc k hk
    exact ⟨b, off, a', cap', e, hl, h1, h2, h.1 _ (Cnt.getD_cls cs k hk)⟩

theorem below_box (w : World) (o : Obj) : Below w.heap.size w (w.alloc o) := (Below.refl _ _).alloc (Nat.le_refl _) o

theorem ret_num {a b : Int} (h : a = b) : Ending.returned (.int .i64 a) = .returned (.int .i64 b) := by rw [h]

end Go.Proofs.YthpebfojkpnojaaGreat.Tr

