/- The examples of the chapter, nil checkers, and what bounds ask: CheckKnown tells true. -/
import Derived.Test.YtjjanmgeogjngaaGg
import Derived.Test.YtjjanmgeogjngaaGc
import Derived.Test.YtjjanmgeogjngaaRows
import Derived.Test.YtjjanmgeogjngaaGh
import Derived.ShutString
import Derived.ChangeMaps5
import Derived.Below
/- The chapter's examples: the steps, and how they lie. -/
namespace Ckr
def kl : List Lra.Stp := [⟨1, 5, [1], [2, 1, 1]⟩, ⟨1, 5, [1], [1]⟩, ⟨1, 5, [1], [9]⟩, ⟨1, 4, [1], [1, 2]⟩, ⟨1, 5, [], []⟩, ⟨1, 5, [3, 1], []⟩, ⟨1, 5, [-3, 3], [77]⟩, ⟨1, 5, [1], [-3, -4]⟩, ⟨1, 5, [1], [-3, 1, -4, 2]⟩, ⟨2, 0, [], [1, 1]⟩, ⟨2, 0, [], [9]⟩, ⟨2, 0, [], [1, 2]⟩, ⟨0, 0, [], []⟩, ⟨1, 5, [0], []⟩, ⟨1, 5, [], [-3, 2]⟩, ⟨1, 5, [1], [-4, 2, -3, 1]⟩, ⟨1, 5, [1], [-1, 2]⟩, ⟨1, 5, [1], [-3, 1]⟩, ⟨1, 5, [1], [-3, 9]⟩, ⟨1, 5, [1, 2], [-3, -4, 1]⟩, ⟨1, 5, [-1, 2], [3]⟩]
def kw : List Int := [0, 61, 60, 62, 61, 0, 0, 61, 0, 5, 5, 0, 40, 40, 61, 60, 60, 61, 60, 61, 0]
theorem known : kl.map (fun s => (stepP (new four) s).1) = kw := by decide
theorem known_at (j : Nat) (h : j < kl.length) : (stepP (new four) kl[j]).1 = kw.getD j 0 := by
  rw [← known]
  simp [List.getD, h]
theorem kl_len : ∀ s ∈ kl, s.lits.length ≤ 16777216 ∧ s.hints.length ≤ 1048576 := by decide
def kst2 : Lra.Stp := ⟨1, 6, [], [5, 3, 3]⟩
theorem run_a : runP 0 [[]] [] = (true, 0, 0) := by decide
theorem run_b : runP 2 four [wst1, kst2] = (false, 1, 60) := by decide
theorem run_d : runP 2 four [] = (false, 0, 0) := by decide
theorem arg_e : Cnf.right (-1) [] = 2 := by decide
theorem lit_f : Cnf.right 1 [[2]] = 4 := by decide
def kd1 : Lra.Stp := ⟨2, 0, [], [4]⟩
def kd2 : Lra.Stp := ⟨1, 4, [1], [1, 2]⟩
def kd3 : Lra.Stp := ⟨1, 7, [1], [1, 2]⟩
def ks1 : St := (stepP (new four) kd1).2
def ks2 : St := (stepP ks1 kd2).2
def ks3 : St := (stepP ks2 kd3).2
theorem kd1_e : (stepP (new four) kd1).1 = 0 := by decide
theorem kd2_e : (stepP ks1 kd2).1 = 62 := by decide
theorem kd3_e : (stepP ks2 kd3).1 = 0 := by decide
theorem ks3_ids : ks3.C.map (·.1) = [1, 2, 3, 7] := by decide
end Ckr
namespace Go.Proofs.Ytjjanmgeogjngaa
open Go.RowKit Go.Maps
set_option linter.unusedVariables false

structure Pt where
  a1 : Option Addr
  c1 : Nat
  a2 : Option Addr
  c2 : Nat
  s : Lra.Stp
def Pt.cells (p : Pt) : List Value := [.int .u8 p.s.kind, .int .i64 p.s.id, .slice p.a1 p.s.lits.length p.c1, .slice p.a2 p.s.hints.length p.c2]
def SPs (W : World) (L : List Pt) : Prop := ∀ p ∈ L, StpV W p.a1 p.a2 p.s ∧ p.s.hints.length ≤ p.c2 ∧ p.c2 ≤ maxLen
theorem SPs.nil (W : World) : SPs W [] := fun p h => by cases h
theorem SPs.below {W W' : World} {L : List Pt} (h : SPs W L) (hb : Below W.heap.size W W') : SPs W' L := fun p hp => ⟨(h p hp).1.below hb, (h p hp).2⟩
theorem SPs.snoc {W : World} {L : List Pt} (h : SPs W L) (p : Pt) (hp : StpV W p.a1 p.a2 p.s ∧ p.s.hints.length ≤ p.c2 ∧ p.c2 ≤ maxLen) : SPs W (L ++ [p]) := fun q hq => by
  rcases List.mem_append.1 hq with h1 | h1
  · exact h q h1
  · rw [List.mem_singleton.1 h1]; exact hp
def okS (s : Lra.Stp) (c2 : Nat) : Bool := decide ((0 ≤ s.kind ∧ s.kind < 256) ∧ (-9223372036854775808 ≤ s.id ∧ s.id ≤ 9223372036854775807) ∧ (s.lits.length ≤ 35184372088832 ∧ s.hints.length ≤ 35184372088832) ∧ s.hints.length ≤ c2 ∧ c2 ≤ maxLen)
theorem SPs.add {W : World} {L : List Pt} (h : SPs W L) (a1 : Option Addr) (c1 : Nat) (a2 : Option Addr) (c2 : Nat) (s : Lra.Stp) (hl : Lits W a1 s.lits) (hh : Hnts W a2 s.hints) (ho : okS s c2 = true) : SPs W (L ++ [⟨a1, c1, a2, c2, s⟩]) := by
  have ho' := of_decide_eq_true ho
  exact h.snoc _ ⟨⟨hl, hh, ho'.1, ho'.2.1, ho'.2.2.1⟩, ho'.2.2.2⟩
theorem cells_at : ∀ (L : List Pt) (j i : Nat) (h : j < L.length) (hi : i < 4), (L.flatMap Pt.cells)[j * 4 + i]? = (L[j].cells)[i]?
  | [], j, i, h, hi => by simp at h
  | p :: L, 0, i, h, hi => by
    rw [List.flatMap_cons, List.getElem?_append_left (by simp [Pt.cells]; omega)]
    simp
  | p :: L, j + 1, i, h, hi => by
    have hl : p.cells.length = 4 := rfl
    rw [List.flatMap_cons, List.getElem?_append_right (by omega), hl, show (j + 1) * 4 + i - 4 = j * 4 + i by omega, cells_at L j i (by simpa using h) hi]
    simp
theorem SPs.row {W : World} {L : List Pt} {g : Nat} (h : SPs W L) (hg : W.heap[g]? = some (.cells (L.flatMap Pt.cells).toArray 44 (0, 0))) : StepsC W (some ⟨g, 0, none⟩) (L.map Pt.s) := by
  refine .inr ⟨g, 0, rfl, fun j hj => ?_⟩
  have hj' : j < L.length := by simpa using hj
  rw [List.getElem_map]
  have hc := fun i (hi : i < 4) => (row_cell hg (j * 4 + i)).trans (by rw [List.getElem?_toArray, cells_at L j i hj' hi])
  have hp := h L[j] (List.getElem_mem hj')
  refine ⟨L[j].a1, L[j].c1, L[j].a2, L[j].c2, ⟨?_, ?_, ?_, ?_, hp.1⟩, hp.2⟩
  · rw [Nat.zero_add]; exact hc 0 (by omega)
  · rw [Nat.zero_add]; exact hc 1 (by omega)
  · rw [Nat.zero_add]; exact hc 2 (by omega)
  · rw [Nat.zero_add]; exact hc 3 (by omega)
theorem kw_cells (j : Nat) (hj : j < 21) : (#[.int .i64 0, .int .i64 61, .int .i64 60, .int .i64 62, .int .i64 61, .int .i64 0, .int .i64 0, .int .i64 61, .int .i64 0, .int .i64 5, .int .i64 5, .int .i64 0, .int .i64 40, .int .i64 40, .int .i64 61, .int .i64 60, .int .i64 60, .int .i64 61, .int .i64 60, .int .i64 61, .int .i64 0] : Array Value)[j]? = some (.int .i64 (Ckr.kw.getD j 0)) := by
  match j, hj with
  | 0, _ => rfl
  | 1, _ => rfl
  | 2, _ => rfl
  | 3, _ => rfl
  | 4, _ => rfl
  | 5, _ => rfl
  | 6, _ => rfl
  | 7, _ => rfl
  | 8, _ => rfl
  | 9, _ => rfl
  | 10, _ => rfl
  | 11, _ => rfl
  | 12, _ => rfl
  | 13, _ => rfl
  | 14, _ => rfl
  | 15, _ => rfl
  | 16, _ => rfl
  | 17, _ => rfl
  | 18, _ => rfl
  | 19, _ => rfl
  | 20, _ => rfl
  | j + 21, h => exact absurd h (by omega)
theorem layL (W : World) (L : List Pt) (xs : List Int) (hP : SPs W L) (hx : ∀ x ∈ xs, -2147483648 ≤ x ∧ x ≤ 2147483647) : ∃ V, W.alloc (.cells (xs.map (Value.int .i32)).toArray 40) = V ∧ Lits V (some ⟨W.heap.size, 0, none⟩) xs ∧ SPs V L ∧ Below W.heap.size W V :=
  ⟨_, rfl, lits_blk xs (heap_alloc_new _ _) hx, hP.below (below_box _ _), below_box _ _⟩
theorem layH (W : World) (L : List Pt) (xs : List Int) (hP : SPs W L) (hx : ∀ x ∈ xs, -9223372036854775808 ≤ x ∧ x ≤ 9223372036854775807) : ∃ V, W.alloc (.cells (xs.map (Value.int .i64)).toArray 2) = V ∧ Hnts V (some ⟨W.heap.size, 0, none⟩) xs ∧ SPs V L ∧ Below W.heap.size W V :=
  ⟨_, rfl, hnts_blk xs (heap_alloc_new _ _) hx, hP.below (below_box _ _), below_box _ _⟩
theorem step_nil (s : Lra.Stp) (a1 : Option Addr) (c1 : Nat) (a2 : Option Addr) (c2 : Nat) (W : World) : Calls Try.prog 16 #[.pointer none, sval s a1 c1 a2 c2] W fun e W' => e = .returned (.int .i64 1) ∧ Below W.heap.size W W' := by
  have hB := below_box W (.cells #[.int .u8 s.kind, .int .i64 s.id, .slice a1 s.lits.length c1, .slice a2 s.hints.length c2] 44)
  unfold sval
  generalize s.lits.length = n1 at *
  generalize s.hints.length = n2 at *
  go_enter Try.func16, Try.ntmps16
  go_wp2
  go_ret
  exact ⟨rfl, hB⟩
theorem Ck.lt {n0 cb bm : Nat} {t r : Option Nat} {k : Nat} {W : World} {C : List (Int × List Int)} {last : Int} {dn : Bool} (h : Ck n0 cb bm t r k W C last dn) : cb < W.heap.size ∧ bm < W.heap.size := by
  obtain ⟨f, tm, at3, ct3, hA, hS, ho, ht, hT⟩ := h.mem
  obtain ⟨vv, vr, hc⟩ := hA.blk
  obtain ⟨es, cl, hm⟩ := hS.map.obj
  exact ⟨(Array.getElem?_eq_some_iff.1 hc).1, (Array.getElem?_eq_some_iff.1 hm).1⟩
/-- A block laid behind the checker's is nothing of its own. -/
theorem Ck.away {n0 cb bm : Nat} {t r : Option Nat} {k : Nat} {W V : World} {C : List (Int × List Int)} {last : Int} {dn : Bool} (h : Ck n0 cb bm t r k W C last dn) {g : Nat} (hg : W.heap.size ≤ g) {cs : Array Value} {ty : TypeId} {fr : Nat × Nat} (hv : V.heap[g]? = some (.cells cs ty fr)) (hty : ty ≠ 119) : Away n0 cb bm t r V g := by
  obtain ⟨h1, h2⟩ := h.lt
  obtain ⟨_, _, h3, h4, h5⟩ := h.facts
  refine ⟨(Array.getElem?_eq_some_iff.1 hv).1, by omega, by omega, fun e => by have := (h3 g e.symm).2; omega, fun e => by have := (h4 g e.symm).2; omega, fun _ cs' fr' e => ?_⟩
  rw [hv] at e
  injection e with e
  injection e with _ e2
  exact hty e2
theorem Away.arg {q : IntKind} {lo hi : Int} {n0 cb bm : Nat} {t r : Option Nat} {W : World} {g off : Nat} {xs : List Int} (hx : Row q lo hi W (some ⟨g, off, none⟩) xs) (h : Away n0 cb bm t r W g) : ArgR q lo hi n0 cb bm t r W (some ⟨g, off, none⟩) xs :=
  ⟨hx, fun g' off' e _ => by injection e with e; injection e with e1; subst e1; exact h⟩
theorem ArgR.nil (q : IntKind) (lo hi : Int) (n0 cb bm : Nat) (t r : Option Nat) (W : World) (a : Option Addr) : ArgR q lo hi n0 cb bm t r W a [] := ⟨Row.nil _ _ _ _ _, fun g off e hne => absurd rfl hne⟩
end Go.Proofs.Ytjjanmgeogjngaa

/- The examples' row of steps, as it is laid. -/
namespace Go.Proofs.Ytjjanmgeogjngaa
open Go.RowKit Go.Maps
set_option linter.unusedVariables false
theorem SPs.cons {W : World} {L : List Pt} (h : SPs W L) (a1 : Option Addr) (c1 : Nat) (a2 : Option Addr) (c2 : Nat) (s : Lra.Stp) (hl : Lits W a1 s.lits) (hh : Hnts W a2 s.hints) (ho : okS s c2 = true) : SPs W (⟨a1, c1, a2, c2, s⟩ :: L) := by
  have ho' := of_decide_eq_true ho
  intro p hp
  rcases List.mem_cons.1 hp with rfl | hp
  · exact ⟨⟨hl, hh, ho'.1, ho'.2.1, ho'.2.2.1⟩, ho'.2.2.2⟩
  · exact h p hp
set_option maxRecDepth 100000 in
theorem row21 (W : World) (g : Nat) (a0 b0 a1 b1 a2 b2 a3 b3 a5 a6 b6 a7 b7 a8 b8 b9 b10 b11 a13 b14 a15 b15 a16 b16 a17 b17 a18 b18 a19 b19 a20 b20 : Option Addr) (h : SPs W [⟨a20, 2, b20, 1, ⟨1, 5, [-1, 2], [3]⟩⟩, ⟨a19, 2, b19, 3, ⟨1, 5, [1, 2], [-3, -4, 1]⟩⟩, ⟨a18, 1, b18, 2, ⟨1, 5, [1], [-3, 9]⟩⟩, ⟨a17, 1, b17, 2, ⟨1, 5, [1], [-3, 1]⟩⟩, ⟨a16, 1, b16, 2, ⟨1, 5, [1], [-1, 2]⟩⟩, ⟨a15, 1, b15, 4, ⟨1, 5, [1], [-4, 2, -3, 1]⟩⟩, ⟨none, 0, b14, 2, ⟨1, 5, [], [-3, 2]⟩⟩, ⟨a13, 1, none, 0, ⟨1, 5, [0], []⟩⟩, ⟨none, 0, none, 0, ⟨0, 0, [], []⟩⟩, ⟨none, 0, b11, 2, ⟨2, 0, [], [1, 2]⟩⟩, ⟨none, 0, b10, 1, ⟨2, 0, [], [9]⟩⟩, ⟨none, 0, b9, 2, ⟨2, 0, [], [1, 1]⟩⟩, ⟨a8, 1, b8, 4, ⟨1, 5, [1], [-3, 1, -4, 2]⟩⟩, ⟨a7, 1, b7, 2, ⟨1, 5, [1], [-3, -4]⟩⟩, ⟨a6, 2, b6, 1, ⟨1, 5, [-3, 3], [77]⟩⟩, ⟨a5, 2, none, 0, ⟨1, 5, [3, 1], []⟩⟩, ⟨none, 0, none, 0, ⟨1, 5, [], []⟩⟩, ⟨a3, 1, b3, 2, ⟨1, 4, [1], [1, 2]⟩⟩, ⟨a2, 1, b2, 1, ⟨1, 5, [1], [9]⟩⟩, ⟨a1, 1, b1, 1, ⟨1, 5, [1], [1]⟩⟩, ⟨a0, 1, b0, 3, ⟨1, 5, [1], [2, 1, 1]⟩⟩]) (hg : W.heap[g]? = some (.cells #[.int .u8 1, .int .i64 5, .slice a0 1 1, .slice b0 3 3, .int .u8 1, .int .i64 5, .slice a1 1 1, .slice b1 1 1, .int .u8 1, .int .i64 5, .slice a2 1 1, .slice b2 1 1, .int .u8 1, .int .i64 4, .slice a3 1 1, .slice b3 2 2, .int .u8 1, .int .i64 5, .slice none 0 0, .slice none 0 0, .int .u8 1, .int .i64 5, .slice a5 2 2, .slice none 0 0, .int .u8 1, .int .i64 5, .slice a6 2 2, .slice b6 1 1, .int .u8 1, .int .i64 5, .slice a7 1 1, .slice b7 2 2, .int .u8 1, .int .i64 5, .slice a8 1 1, .slice b8 4 4, .int .u8 2, .int .i64 0, .slice none 0 0, .slice b9 2 2, .int .u8 2, .int .i64 0, .slice none 0 0, .slice b10 1 1, .int .u8 2, .int .i64 0, .slice none 0 0, .slice b11 2 2, .int .u8 0, .int .i64 0, .slice none 0 0, .slice none 0 0, .int .u8 1, .int .i64 5, .slice a13 1 1, .slice none 0 0, .int .u8 1, .int .i64 5, .slice none 0 0, .slice b14 2 2, .int .u8 1, .int .i64 5, .slice a15 1 1, .slice b15 4 4, .int .u8 1, .int .i64 5, .slice a16 1 1, .slice b16 2 2, .int .u8 1, .int .i64 5, .slice a17 1 1, .slice b17 2 2, .int .u8 1, .int .i64 5, .slice a18 1 1, .slice b18 2 2, .int .u8 1, .int .i64 5, .slice a19 2 2, .slice b19 3 3, .int .u8 1, .int .i64 5, .slice a20 2 2, .slice b20 1 1] 44 (0, 0))) : StepsC W (some ⟨g, 0, none⟩) Ckr.kl := by
  have h2 : SPs W [⟨a0, 1, b0, 3, ⟨1, 5, [1], [2, 1, 1]⟩⟩, ⟨a1, 1, b1, 1, ⟨1, 5, [1], [1]⟩⟩, ⟨a2, 1, b2, 1, ⟨1, 5, [1], [9]⟩⟩, ⟨a3, 1, b3, 2, ⟨1, 4, [1], [1, 2]⟩⟩, ⟨none, 0, none, 0, ⟨1, 5, [], []⟩⟩, ⟨a5, 2, none, 0, ⟨1, 5, [3, 1], []⟩⟩, ⟨a6, 2, b6, 1, ⟨1, 5, [-3, 3], [77]⟩⟩, ⟨a7, 1, b7, 2, ⟨1, 5, [1], [-3, -4]⟩⟩, ⟨a8, 1, b8, 4, ⟨1, 5, [1], [-3, 1, -4, 2]⟩⟩, ⟨none, 0, b9, 2, ⟨2, 0, [], [1, 1]⟩⟩, ⟨none, 0, b10, 1, ⟨2, 0, [], [9]⟩⟩, ⟨none, 0, b11, 2, ⟨2, 0, [], [1, 2]⟩⟩, ⟨none, 0, none, 0, ⟨0, 0, [], []⟩⟩, ⟨a13, 1, none, 0, ⟨1, 5, [0], []⟩⟩, ⟨none, 0, b14, 2, ⟨1, 5, [], [-3, 2]⟩⟩, ⟨a15, 1, b15, 4, ⟨1, 5, [1], [-4, 2, -3, 1]⟩⟩, ⟨a16, 1, b16, 2, ⟨1, 5, [1], [-1, 2]⟩⟩, ⟨a17, 1, b17, 2, ⟨1, 5, [1], [-3, 1]⟩⟩, ⟨a18, 1, b18, 2, ⟨1, 5, [1], [-3, 9]⟩⟩, ⟨a19, 2, b19, 3, ⟨1, 5, [1, 2], [-3, -4, 1]⟩⟩, ⟨a20, 2, b20, 1, ⟨1, 5, [-1, 2], [3]⟩⟩] := fun p hp => h p (List.mem_reverse.1 hp)
  have e : ([⟨a0, 1, b0, 3, ⟨1, 5, [1], [2, 1, 1]⟩⟩, ⟨a1, 1, b1, 1, ⟨1, 5, [1], [1]⟩⟩, ⟨a2, 1, b2, 1, ⟨1, 5, [1], [9]⟩⟩, ⟨a3, 1, b3, 2, ⟨1, 4, [1], [1, 2]⟩⟩, ⟨none, 0, none, 0, ⟨1, 5, [], []⟩⟩, ⟨a5, 2, none, 0, ⟨1, 5, [3, 1], []⟩⟩, ⟨a6, 2, b6, 1, ⟨1, 5, [-3, 3], [77]⟩⟩, ⟨a7, 1, b7, 2, ⟨1, 5, [1], [-3, -4]⟩⟩, ⟨a8, 1, b8, 4, ⟨1, 5, [1], [-3, 1, -4, 2]⟩⟩, ⟨none, 0, b9, 2, ⟨2, 0, [], [1, 1]⟩⟩, ⟨none, 0, b10, 1, ⟨2, 0, [], [9]⟩⟩, ⟨none, 0, b11, 2, ⟨2, 0, [], [1, 2]⟩⟩, ⟨none, 0, none, 0, ⟨0, 0, [], []⟩⟩, ⟨a13, 1, none, 0, ⟨1, 5, [0], []⟩⟩, ⟨none, 0, b14, 2, ⟨1, 5, [], [-3, 2]⟩⟩, ⟨a15, 1, b15, 4, ⟨1, 5, [1], [-4, 2, -3, 1]⟩⟩, ⟨a16, 1, b16, 2, ⟨1, 5, [1], [-1, 2]⟩⟩, ⟨a17, 1, b17, 2, ⟨1, 5, [1], [-3, 1]⟩⟩, ⟨a18, 1, b18, 2, ⟨1, 5, [1], [-3, 9]⟩⟩, ⟨a19, 2, b19, 3, ⟨1, 5, [1, 2], [-3, -4, 1]⟩⟩, ⟨a20, 2, b20, 1, ⟨1, 5, [-1, 2], [3]⟩⟩] : List Pt).flatMap Pt.cells = [.int .u8 1, .int .i64 5, .slice a0 1 1, .slice b0 3 3, .int .u8 1, .int .i64 5, .slice a1 1 1, .slice b1 1 1, .int .u8 1, .int .i64 5, .slice a2 1 1, .slice b2 1 1, .int .u8 1, .int .i64 4, .slice a3 1 1, .slice b3 2 2, .int .u8 1, .int .i64 5, .slice none 0 0, .slice none 0 0, .int .u8 1, .int .i64 5, .slice a5 2 2, .slice none 0 0, .int .u8 1, .int .i64 5, .slice a6 2 2, .slice b6 1 1, .int .u8 1, .int .i64 5, .slice a7 1 1, .slice b7 2 2, .int .u8 1, .int .i64 5, .slice a8 1 1, .slice b8 4 4, .int .u8 2, .int .i64 0, .slice none 0 0, .slice b9 2 2, .int .u8 2, .int .i64 0, .slice none 0 0, .slice b10 1 1, .int .u8 2, .int .i64 0, .slice none 0 0, .slice b11 2 2, .int .u8 0, .int .i64 0, .slice none 0 0, .slice none 0 0, .int .u8 1, .int .i64 5, .slice a13 1 1, .slice none 0 0, .int .u8 1, .int .i64 5, .slice none 0 0, .slice b14 2 2, .int .u8 1, .int .i64 5, .slice a15 1 1, .slice b15 4 4, .int .u8 1, .int .i64 5, .slice a16 1 1, .slice b16 2 2, .int .u8 1, .int .i64 5, .slice a17 1 1, .slice b17 2 2, .int .u8 1, .int .i64 5, .slice a18 1 1, .slice b18 2 2, .int .u8 1, .int .i64 5, .slice a19 2 2, .slice b19 3 3, .int .u8 1, .int .i64 5, .slice a20 2 2, .slice b20 1 1] := rfl
  have hg2 : W.heap[g]? = some (.cells (([⟨a0, 1, b0, 3, ⟨1, 5, [1], [2, 1, 1]⟩⟩, ⟨a1, 1, b1, 1, ⟨1, 5, [1], [1]⟩⟩, ⟨a2, 1, b2, 1, ⟨1, 5, [1], [9]⟩⟩, ⟨a3, 1, b3, 2, ⟨1, 4, [1], [1, 2]⟩⟩, ⟨none, 0, none, 0, ⟨1, 5, [], []⟩⟩, ⟨a5, 2, none, 0, ⟨1, 5, [3, 1], []⟩⟩, ⟨a6, 2, b6, 1, ⟨1, 5, [-3, 3], [77]⟩⟩, ⟨a7, 1, b7, 2, ⟨1, 5, [1], [-3, -4]⟩⟩, ⟨a8, 1, b8, 4, ⟨1, 5, [1], [-3, 1, -4, 2]⟩⟩, ⟨none, 0, b9, 2, ⟨2, 0, [], [1, 1]⟩⟩, ⟨none, 0, b10, 1, ⟨2, 0, [], [9]⟩⟩, ⟨none, 0, b11, 2, ⟨2, 0, [], [1, 2]⟩⟩, ⟨none, 0, none, 0, ⟨0, 0, [], []⟩⟩, ⟨a13, 1, none, 0, ⟨1, 5, [0], []⟩⟩, ⟨none, 0, b14, 2, ⟨1, 5, [], [-3, 2]⟩⟩, ⟨a15, 1, b15, 4, ⟨1, 5, [1], [-4, 2, -3, 1]⟩⟩, ⟨a16, 1, b16, 2, ⟨1, 5, [1], [-1, 2]⟩⟩, ⟨a17, 1, b17, 2, ⟨1, 5, [1], [-3, 1]⟩⟩, ⟨a18, 1, b18, 2, ⟨1, 5, [1], [-3, 9]⟩⟩, ⟨a19, 2, b19, 3, ⟨1, 5, [1, 2], [-3, -4, 1]⟩⟩, ⟨a20, 2, b20, 1, ⟨1, 5, [-1, 2], [3]⟩⟩] : List Pt).flatMap Pt.cells).toArray 44 (0, 0)) := by rw [e]; exact hg
  exact h2.row hg2
end Go.Proofs.Ytjjanmgeogjngaa

/- The examples' later calls. -/
namespace Go.Proofs.Ytjjanmgeogjngaa
open Go.RowKit Go.Maps
set_option linter.unusedVariables false

theorem e_call (W : World) : Calls Try.prog 13 #[.agg #[.int .i64 (-1), .slice none 0 0]] W fun e w' => e = .returned (.tuple #[.pointer none, .int .i64 2]) ∧ Below W.heap.size W w' := by
  have h := new13_err (-1) none 0 0 [] W rfl ⟨by simp, .inl rfl⟩ (by decide)
  rw [Ckr.arg_e] at h
  exact h
theorem layC (W : World) (xs : List Int) (hx : ∀ x ∈ xs, -2147483648 ≤ x ∧ x ≤ 2147483647) (hl : xs.length ≤ 35184372088832) : ∃ V1 V2, W.alloc (.cells (xs.map (Value.int .i32)).toArray 40) = V1 ∧ V1.alloc (.cells #[.slice (some ⟨W.heap.size, 0, none⟩) xs.length xs.length] 39) = V2 ∧ Cls V2 (some ⟨V1.heap.size, 0, none⟩) [xs] ∧ Below W.heap.size W V2 := by
  refine ⟨_, _, rfl, rfl, ?_, (below_box W _).trans ((below_box _ _).mono (by simp))⟩
  have hr := heap_alloc_new (W.alloc (.cells (xs.map (Value.int .i32)).toArray 40)) (.cells #[.slice (some ⟨W.heap.size, 0, none⟩) xs.length xs.length] 39)
  have h1 := (lits_blk xs (heap_alloc_new W (.cells (xs.map (Value.int .i32)).toArray 40)) hx).below (below_box _ (.cells #[.slice (some ⟨W.heap.size, 0, none⟩) xs.length xs.length] 39))
  refine ⟨by simpa using hl, .inr ⟨_, 0, rfl, (Array.getElem?_eq_some_iff.1 hr).1, fun j hj => ?_⟩⟩
  match j, hj with
  | 0, _ => exact ⟨_, _, row_cell hr 0, h1⟩
theorem f_lay (W : World) : ∃ V1 V2, W.alloc (.cells #[.int .i32 2] 40) = V1 ∧ V1.alloc (.cells #[.slice (some ⟨W.heap.size, 0, none⟩) 1 1] 39) = V2 ∧ Calls Try.prog 13 #[.agg #[.int .i64 1, .slice (some ⟨V1.heap.size, 0, none⟩) 1 1]] V2 fun e w' => e = .returned (.tuple #[.pointer none, .int .i64 4]) ∧ Below W.heap.size W w' := by
  obtain ⟨V1, V2, h1, h2, hc, hb⟩ := layC W [2] (by decide) (by decide)
  refine ⟨V1, V2, h1, h2, ?_⟩
  have h := new13_err 1 (some ⟨V1.heap.size, 0, none⟩) 1 1 [[2]] V2 rfl hc (by decide)
  rw [Ckr.lit_f] at h
  exact h.mono fun e w' q => ⟨q.1, hb.trans (q.2.mono hb.size)⟩
theorem a_lay (W : World) : ∃ V1 V2, W.alloc (.cells #[] 40) = V1 ∧ V1.alloc (.cells #[.slice (some ⟨W.heap.size, 0, none⟩) 0 0] 39) = V2 ∧ Calls Try.prog 21 #[.agg #[.int .i64 0, .slice (some ⟨V1.heap.size, 0, none⟩) 1 1], .slice none 0 0] V2 fun e w' => e = .returned (.tuple #[.bool true, .int .i64 0, .int .i64 0]) ∧ Below W.heap.size W w' := by
  obtain ⟨V1, V2, h1, h2, hc, hb⟩ := layC W [] (by decide) (by decide)
  refine ⟨V1, V2, h1, h2, ?_⟩
  have h := run21 0 (some ⟨V1.heap.size, 0, none⟩) 1 1 [[]] none 0 0 [] V2 rfl hc (by decide) rfl (by decide) (.inl rfl) (by decide)
  rw [Ckr.run_a] at h
  exact h.mono fun e w' q => ⟨q.1, hb.trans (q.2.mono hb.size)⟩
theorem d_call (W : World) (g : Nat) (hc : Cls W (some ⟨g, 0, none⟩) Ckr.four) : Calls Try.prog 21 #[.agg #[.int .i64 2, .slice (some ⟨g, 0, none⟩) 4 4], .slice none 0 0] W fun e w' => e = .returned (.tuple #[.bool false, .int .i64 0, .int .i64 0]) ∧ Below W.heap.size W w' := by
  have h := run21 2 (some ⟨g, 0, none⟩) 4 4 Ckr.four none 0 0 [] W rfl hc (by decide) rfl (by decide) (.inl rfl) (by decide)
  rw [Ckr.run_d] at h
  exact h
theorem b_call (W : World) (g q : Nat) (hc : Cls W (some ⟨g, 0, none⟩) Ckr.four) (a0 b0 b1 : Option Addr) (h : SPs W [⟨none, 0, b1, 3, Ckr.kst2⟩, ⟨a0, 1, b0, 2, Ckr.wst1⟩])
    (hg : W.heap[q]? = some (.cells #[.int .u8 1, .int .i64 5, .slice a0 1 1, .slice b0 2 2, .int .u8 1, .int .i64 6, .slice none 0 0, .slice b1 3 3] 44 (0, 0))) :
    Calls Try.prog 21 #[.agg #[.int .i64 2, .slice (some ⟨g, 0, none⟩) 4 4], .slice (some ⟨q, 0, none⟩) 2 2] W fun e w' => e = .returned (.tuple #[.bool false, .int .i64 1, .int .i64 60]) ∧ Below W.heap.size W w' := by
  have hS : StepsC W (some ⟨q, 0, none⟩) [Ckr.wst1, Ckr.kst2] := two_steps (s := Ckr.wst1) (t := Ckr.kst2) hg (h ⟨a0, 1, b0, 2, Ckr.wst1⟩ (by simp)).1 (h ⟨none, 0, b1, 3, Ckr.kst2⟩ (by simp)).1 (by decide) (by decide)
  have hr := run21 2 (some ⟨g, 0, none⟩) 4 4 Ckr.four (some ⟨q, 0, none⟩) 2 2 [Ckr.wst1, Ckr.kst2] W rfl hc (by decide) rfl (by decide) hS (by decide)
  rw [Ckr.run_b] at hr
  exact hr

/-- A checker in memory, and what it told. -/
def Kc (n0 cb bm m : Nat) (W : World) (S : Ckr.St) (gx : Nat) : Prop := ∃ t r k, k ≤ m ∧ CkS n0 cb bm t r k W S ∧ ArgL n0 cb bm t r W (some ⟨gx, 0, none⟩) [-1, 2]
theorem Kc.below {n0 cb bm m gx : Nat} {W W' : World} {S : Ckr.St} (h : Kc n0 cb bm m W S gx) (hb : Below W.heap.size W W') : Kc n0 cb bm m W' S gx := by
  obtain ⟨t, r, k, hk, hC, hx⟩ := h
  exact ⟨t, r, k, hk, Ck.below hC hb, hx.fp (Fp.of_below hb) (Nw.refl _ _) (Nw.refl _ _)⟩
theorem Kc.row {n0 cb bm m gx : Nat} {W : World} {S : Ckr.St} (h : Kc n0 cb bm m W S gx) : Lits W (some ⟨gx, 0, none⟩) [-1, 2] := by
  obtain ⟨t, r, k, hk, hC, hx⟩ := h
  exact hx.1
theorem get3 {n0 cb bm : Nat} {t r : Option Nat} {W : World} (hC : CkS n0 cb bm t r 4 W (Ckr.new Ckr.four)) : Calls Try.prog 37 #[.pointer (some ⟨cb, 0, none⟩), .int .i64 3] W fun e w' => ∃ gx c, e = .returned (.tuple #[.slice (some ⟨gx, 0, none⟩) 2 c, .bool true]) ∧ Kc n0 cb bm 4 w' (Ckr.new Ckr.four) gx ∧ Below W.heap.size W w' := by
  have h := Ck.get hC 3 (by unfold I64; decide)
  rw [show Ckr.look (Ckr.new Ckr.four).C 3 = some [-1, 2] by decide] at h
  refine h.mono ?_
  rintro e w' ⟨a, c, rfl, ho, hB⟩
  obtain ⟨g, c', cur, e1, h2, h3, h4, h5, h6, h7⟩ := own_some ho (by decide)
  injection e1 with e1 _ e2
  subst e1
  have hr : Lits w' (some ⟨g, 0, none⟩) [-1, 2] := own_row (xs := [-1, 2]) ho (by decide)
  exact ⟨g, c, rfl, ⟨t, r, 4, Nat.le_refl _, Ck.below hC hB, Away.arg hr (Ck.away hC h2 h3 (by decide))⟩, hB⟩
theorem Kc.get9 {n0 cb bm gx : Nat} {W : World} (h : Kc n0 cb bm 4 W (Ckr.new Ckr.four) gx) : Calls Try.prog 37 #[.pointer (some ⟨cb, 0, none⟩), .int .i64 9] W fun e w' => ∃ a c, e = .returned (.tuple #[.slice a 0 c, .bool false]) ∧ Below W.heap.size W w' := by
  obtain ⟨t, r, k, hk, hC, hx⟩ := h
  have h := Ck.get hC 9 (by unfold I64; decide)
  rw [show Ckr.look (Ckr.new Ckr.four).C 9 = none by decide] at h
  refine h.mono ?_
  rintro e w' ⟨a, c, rfl, ho, hB⟩
  exact ⟨a, c, rfl, hB⟩
theorem Kc.live {n0 cb bm m gx : Nat} {W : World} (h : Kc n0 cb bm m W Ckr.ks3 gx) (hm : m ≤ 1000) : Calls Try.prog 35 #[.pointer (some ⟨cb, 0, none⟩)] W fun e w' => ∃ gl c, e = .returned (.slice (some ⟨gl, 0, none⟩) 4 c) ∧ w'.cell? ⟨gl, 3, none⟩ = some (.int .i64 7) ∧ Below W.heap.size W w' := by
  obtain ⟨t, r, k, hk, hC, hx⟩ := h
  have h := Ck.live hC (by omega)
  rw [Ckr.ks3_ids] at h
  refine h.mono ?_
  rintro e w' ⟨a, c, rfl, ho, hB⟩
  obtain ⟨g, c', cur, e1, h2, h3, h4, h5, h6, h7⟩ := own_some ho (by decide)
  injection e1 with e1 _ e2
  subst e1
  have hr : Hnts w' (some ⟨g, 0, none⟩) [1, 2, 3, 7] := own_row (xs := [1, 2, 3, 7]) ho (by decide)
  rcases hr.2 with h0 | ⟨b, off, e3, _, hc⟩
  · cases h0
  · injection e3 with e3
    injection e3 with e4 e5 _
    subst e4 e5
    exact ⟨g, c, rfl, hc 3 (by decide), hB⟩
theorem Kc.step {n0 cb bm m gx : Nat} {W0 V : World} {S : Ckr.St} (h : Kc n0 cb bm m W0 S gx) (hm : m ≤ 1000) (hb : Below W0.heap.size W0 V) (s : Lra.Stp) (a1 : Option Addr) (c1 : Nat) (a2 : Option Addr) (c2 : Nat) (hl : Lits V a1 s.lits) (hh : Hnts V a2 s.hints)
    (h1 : ∀ g off, a1 = some ⟨g, off, none⟩ → s.lits ≠ [] → W0.heap.size ≤ g ∧ ∃ cs fr, V.heap[g]? = some (.cells cs 40 fr)) (h2 : ∀ g off, a2 = some ⟨g, off, none⟩ → s.hints ≠ [] → W0.heap.size ≤ g ∧ ∃ cs fr, V.heap[g]? = some (.cells cs 2 fr)) (ho : okS s c2 = true) (hn : s.lits.length ≤ 16777216 ∧ s.hints.length ≤ 1048576) :
    Calls Try.prog 16 #[.pointer (some ⟨cb, 0, none⟩), sval s a1 c1 a2 c2] V fun e W' => e = .returned (.int .i64 (Ckr.stepP S s).1) ∧ Kc n0 cb bm (m + 1) W' (Ckr.stepP S s).2 gx ∧ Below n0 V W' := by
  obtain ⟨t, r, k, hk, hC, hx⟩ := h
  have ho' := of_decide_eq_true ho
  have hCV := Ck.below hC hb
  have hxV := hx.fp (Fp.of_below hb) (Nw.refl _ _) (Nw.refl _ _)
  have hA : ArgS n0 cb bm t r V a1 a2 c2 s := ⟨⟨hl, hh, ho'.1, ho'.2.1, ho'.2.2.1⟩, ⟨hl, fun g off e hne => by
    obtain ⟨q1, cs, fr, q2⟩ := h1 g off e hne
    exact Ck.away hC q1 q2 (by decide)⟩, ⟨hh, fun g off e hne => by
    obtain ⟨q1, cs, fr, q2⟩ := h2 g off e hne
    exact Ck.away hC q1 q2 (by decide)⟩, ho'.2.2.2, hn⟩
  refine (step16 n0 cb bm t r k V S s a1 c1 a2 c2 hCV (by unfold maxLen; omega) hA).mono ?_
  rintro e W' ⟨rfl, t', r', k', hk', hC', hF, hN1, hN2⟩
  obtain ⟨p1, p2, p3, p4, p5⟩ := Ck.facts hCV
  exact ⟨rfl, ⟨t', r', k', by omega, hC', hxV.fp hF hN1 hN2⟩, hF.below p1 p2 (fun g h => (p3 g h).1) (fun g h => (p4 g h).1) p5⟩
theorem Kc.del {n0 cb bm gx : Nat} {W0 : World} (h : Kc n0 cb bm 4 W0 (Ckr.new Ckr.four) gx) : ∃ V, W0.alloc (.cells #[.int .i64 4] 2) = V ∧ Below W0.heap.size W0 V ∧ Calls Try.prog 16 #[.pointer (some ⟨cb, 0, none⟩), .agg #[.int .u8 2, .int .i64 0, .slice none 0 0, .slice (some ⟨W0.heap.size, 0, none⟩) 1 1]] V fun e W' => e = .returned (.int .i64 0) ∧ Kc n0 cb bm 5 W' Ckr.ks1 gx ∧ Below n0 V W' := by
  have hx := heap_alloc_new W0 (.cells #[.int .i64 4] 2)
  have hb := below_box W0 (.cells #[.int .i64 4] 2)
  obtain ⟨V, hV⟩ : ∃ V, W0.alloc (.cells #[.int .i64 4] 2) = V := ⟨_, rfl⟩
  rw [hV] at hx hb
  refine ⟨V, hV, hb, ?_⟩
  have q := h.step (by decide) hb Ckr.kd1 none 0 (some ⟨W0.heap.size, 0, none⟩) 1 (Row.nil _ _ _ _ _) (hnts_blk [4] hx (by decide)) (fun g off e => by cases e) (fun g off e _ => by injection e with e; injection e with e1; subst e1; exact ⟨Nat.le_refl _, _, _, hx⟩) (by decide) (by decide)
  rw [Ckr.kd1_e] at q
  exact q
theorem Kc.two {n0 cb bm m gx : Nat} {W0 : World} {S : Ckr.St} (h : Kc n0 cb bm m W0 S gx) (hm : m ≤ 1000) (id : Int) (hid : okS ⟨1, id, [1], [1, 2]⟩ 2 = true) : ∃ V1 V2, W0.alloc (.cells #[.int .i32 1] 40) = V1 ∧ V1.alloc (.cells #[.int .i64 1, .int .i64 2] 2) = V2 ∧ Below W0.heap.size W0 V2 ∧ ∀ W3, Below V2.heap.size V2 W3 → Calls Try.prog 16 #[.pointer (some ⟨cb, 0, none⟩), .agg #[.int .u8 1, .int .i64 id, .slice (some ⟨W0.heap.size, 0, none⟩) 1 1, .slice (some ⟨V1.heap.size, 0, none⟩) 2 2]] W3 fun e W' => e = .returned (.int .i64 (Ckr.stepP S ⟨1, id, [1], [1, 2]⟩).1) ∧ Kc n0 cb bm (m + 1) W' (Ckr.stepP S ⟨1, id, [1], [1, 2]⟩).2 gx ∧ Below n0 W3 W' := by
  have hx := heap_alloc_new W0 (.cells #[.int .i32 1] 40)
  have hb := below_box W0 (.cells #[.int .i32 1] 40)
  obtain ⟨V1, hV1⟩ : ∃ V, W0.alloc (.cells #[.int .i32 1] 40) = V := ⟨_, rfl⟩
  rw [hV1] at hx hb
  have hy := heap_alloc_new V1 (.cells #[.int .i64 1, .int .i64 2] 2)
  have hb2 := below_box V1 (.cells #[.int .i64 1, .int .i64 2] 2)
  obtain ⟨V2, hV2⟩ : ∃ V, V1.alloc (.cells #[.int .i64 1, .int .i64 2] 2) = V := ⟨_, rfl⟩
  rw [hV2] at hy hb2
  have hb12 := hb.trans (hb2.mono hb.size)
  have hz1 := (Array.getElem?_eq_some_iff.1 hx).1
  have hz2 := (Array.getElem?_eq_some_iff.1 hy).1
  refine ⟨V1, V2, hV1, hV2, hb12, fun W3 hb3 => ?_⟩
  have hx3 : W3.heap[W0.heap.size]? = some (.cells #[.int .i32 1] 40 (0, 0)) := by
    rw [hb3.block _ (Nat.lt_of_lt_of_le hz1 hb2.size), hb2.block _ hz1]; exact hx
  have hy3 : W3.heap[V1.heap.size]? = some (.cells #[.int .i64 1, .int .i64 2] 2 (0, 0)) := by
    rw [hb3.block _ hz2]; exact hy
  exact h.step hm (hb12.trans (hb3.mono hb12.size)) ⟨1, id, [1], [1, 2]⟩ (some ⟨W0.heap.size, 0, none⟩) 1 (some ⟨V1.heap.size, 0, none⟩) 2 (lits_blk [1] hx3 (by decide)) (hnts_blk [1, 2] hy3 (by decide)) (fun g off e _ => by injection e with e; injection e with e1; subst e1; exact ⟨Nat.le_refl _, _, _, hx3⟩) (fun g off e _ => by injection e with e; injection e with e1; subst e1; exact ⟨hb.size, _, _, hy3⟩) hid ⟨by simp, by simp⟩
end Go.Proofs.Ytjjanmgeogjngaa

/- The chapter's examples, as a call. -/
namespace Go.Proofs.Ytjjanmgeogjngaa
open Go.RowKit Go.Maps
set_option linter.unusedVariables false

set_option maxRecDepth 100000 in
set_option maxHeartbeats 8000000 in
theorem law8 (w : World) : Calls Try.prog 8 #[] w fun e w' => e = .returned (.bool true) ∧ Below w.heap.size w w' := by
  have C28 := hid add28
  have HP := hid (SPs.nil w)
  have HB := hid (Below.refl w.heap.size w)
  obtain ⟨V1, hV1, rV1, pV1, bV1⟩ := layL w _ [1] HP.out (by decide)
  replace hV1 : w.alloc (.cells #[.int .i32 1] 40) = V1 := hV1
  replace HP := hid pV1
  replace HB := hid (HB.out.trans (bV1.mono HB.out.size))
  obtain ⟨V2, hV2, rV2, pV2, bV2⟩ := layH V1 _ [2, 1, 1] HP.out (by decide)
  replace hV2 : V1.alloc (.cells #[.int .i64 2, .int .i64 1, .int .i64 1] 2) = V2 := hV2
  replace HP := hid pV2
  replace HB := hid (HB.out.trans (bV2.mono HB.out.size))
  replace HP := hid (HP.out.cons (some ⟨w.heap.size, 0, none⟩) 1 (some ⟨V1.heap.size, 0, none⟩) 3 ⟨1, 5, [1], [2, 1, 1]⟩ (rV1.below bV2) (rV2) (by decide))
  clear rV1 pV1 rV2 pV2 bV1 bV2
  have K28 := hid (C28.out 5 (some ⟨w.heap.size, 0, none⟩) 1 1 (some ⟨V1.heap.size, 0, none⟩) 3 3 V2)
  obtain ⟨v0, hv0⟩ : ∃ v, (.agg #[.int .u8 1, .int .i64 5, .slice (some ⟨w.heap.size, 0, none⟩) 1 1, .slice (some ⟨V1.heap.size, 0, none⟩) 3 3] : Value) = v := ⟨_, rfl⟩
  rw [hv0] at K28
  replace hv0 := hid hv0
  go_enter Try.func8, Try.ntmps8
  go_wp2_with fail
  go_at_call 28
  refine K28.out.mono ?_
  clear K28
  rintro e W1 ⟨rfl, hB⟩
  replace HP := hid (HP.out.below hB)
  replace HB := hid (HB.out.trans (hB.mono HB.out.size))
  clear hB hV1 hV2
  obtain ⟨V3, hV3, rV3, pV3, bV3⟩ := layL W1 _ [1] HP.out (by decide)
  replace hV3 : W1.alloc (.cells #[.int .i32 1] 40) = V3 := hV3
  replace HP := hid pV3
  replace HB := hid (HB.out.trans (bV3.mono HB.out.size))
  obtain ⟨V4, hV4, rV4, pV4, bV4⟩ := layH V3 _ [1] HP.out (by decide)
  replace hV4 : V3.alloc (.cells #[.int .i64 1] 2) = V4 := hV4
  replace HP := hid pV4
  replace HB := hid (HB.out.trans (bV4.mono HB.out.size))
  replace HP := hid (HP.out.cons (some ⟨W1.heap.size, 0, none⟩) 1 (some ⟨V3.heap.size, 0, none⟩) 1 ⟨1, 5, [1], [1]⟩ (rV3.below bV4) (rV4) (by decide))
  clear rV3 pV3 rV4 pV4 bV3 bV4
  have K28 := hid (C28.out 5 (some ⟨W1.heap.size, 0, none⟩) 1 1 (some ⟨V3.heap.size, 0, none⟩) 1 1 V4)
  obtain ⟨v1, hv1⟩ : ∃ v, (.agg #[.int .u8 1, .int .i64 5, .slice (some ⟨W1.heap.size, 0, none⟩) 1 1, .slice (some ⟨V3.heap.size, 0, none⟩) 1 1] : Value) = v := ⟨_, rfl⟩
  rw [hv1] at K28
  replace hv1 := hid hv1
  go_wp2_with fail
  go_at_call 28
  refine K28.out.mono ?_
  clear K28
  rintro e W2 ⟨rfl, hB⟩
  replace HP := hid (HP.out.below hB)
  replace HB := hid (HB.out.trans (hB.mono HB.out.size))
  clear hB hV3 hV4
  obtain ⟨V5, hV5, rV5, pV5, bV5⟩ := layL W2 _ [1] HP.out (by decide)
  replace hV5 : W2.alloc (.cells #[.int .i32 1] 40) = V5 := hV5
  replace HP := hid pV5
  replace HB := hid (HB.out.trans (bV5.mono HB.out.size))
  obtain ⟨V6, hV6, rV6, pV6, bV6⟩ := layH V5 _ [9] HP.out (by decide)
  replace hV6 : V5.alloc (.cells #[.int .i64 9] 2) = V6 := hV6
  replace HP := hid pV6
  replace HB := hid (HB.out.trans (bV6.mono HB.out.size))
  replace HP := hid (HP.out.cons (some ⟨W2.heap.size, 0, none⟩) 1 (some ⟨V5.heap.size, 0, none⟩) 1 ⟨1, 5, [1], [9]⟩ (rV5.below bV6) (rV6) (by decide))
  clear rV5 pV5 rV6 pV6 bV5 bV6
  have K28 := hid (C28.out 5 (some ⟨W2.heap.size, 0, none⟩) 1 1 (some ⟨V5.heap.size, 0, none⟩) 1 1 V6)
  obtain ⟨v2, hv2⟩ : ∃ v, (.agg #[.int .u8 1, .int .i64 5, .slice (some ⟨W2.heap.size, 0, none⟩) 1 1, .slice (some ⟨V5.heap.size, 0, none⟩) 1 1] : Value) = v := ⟨_, rfl⟩
  rw [hv2] at K28
  replace hv2 := hid hv2
  go_wp2_with fail
  go_at_call 28
  refine K28.out.mono ?_
  clear K28
  rintro e W3 ⟨rfl, hB⟩
  replace HP := hid (HP.out.below hB)
  replace HB := hid (HB.out.trans (hB.mono HB.out.size))
  clear hB hV5 hV6
  obtain ⟨V7, hV7, rV7, pV7, bV7⟩ := layL W3 _ [1] HP.out (by decide)
  replace hV7 : W3.alloc (.cells #[.int .i32 1] 40) = V7 := hV7
  replace HP := hid pV7
  replace HB := hid (HB.out.trans (bV7.mono HB.out.size))
  obtain ⟨V8, hV8, rV8, pV8, bV8⟩ := layH V7 _ [1, 2] HP.out (by decide)
  replace hV8 : V7.alloc (.cells #[.int .i64 1, .int .i64 2] 2) = V8 := hV8
  replace HP := hid pV8
  replace HB := hid (HB.out.trans (bV8.mono HB.out.size))
  replace HP := hid (HP.out.cons (some ⟨W3.heap.size, 0, none⟩) 1 (some ⟨V7.heap.size, 0, none⟩) 2 ⟨1, 4, [1], [1, 2]⟩ (rV7.below bV8) (rV8) (by decide))
  clear rV7 pV7 rV8 pV8 bV7 bV8
  have K28 := hid (C28.out 4 (some ⟨W3.heap.size, 0, none⟩) 1 1 (some ⟨V7.heap.size, 0, none⟩) 2 2 V8)
  obtain ⟨v3, hv3⟩ : ∃ v, (.agg #[.int .u8 1, .int .i64 4, .slice (some ⟨W3.heap.size, 0, none⟩) 1 1, .slice (some ⟨V7.heap.size, 0, none⟩) 2 2] : Value) = v := ⟨_, rfl⟩
  rw [hv3] at K28
  replace hv3 := hid hv3
  go_wp2_with fail
  go_at_call 28
  refine K28.out.mono ?_
  clear K28
  rintro e W4 ⟨rfl, hB⟩
  replace HP := hid (HP.out.below hB)
  replace HB := hid (HB.out.trans (hB.mono HB.out.size))
  clear hB hV7 hV8
  replace HP := hid (HP.out.cons none 0 none 0 ⟨1, 5, [], []⟩ (Row.nil _ _ _ _ _) (Row.nil _ _ _ _ _) (by decide))
  have K28 := hid (C28.out 5 none 0 0 none 0 0 W4)
  obtain ⟨v4, hv4⟩ : ∃ v, (.agg #[.int .u8 1, .int .i64 5, .slice none 0 0, .slice none 0 0] : Value) = v := ⟨_, rfl⟩
  rw [hv4] at K28
  replace hv4 := hid hv4
  go_wp2_with fail
  go_at_call 28
  refine K28.out.mono ?_
  clear K28
  rintro e W5 ⟨rfl, hB⟩
  replace HP := hid (HP.out.below hB)
  replace HB := hid (HB.out.trans (hB.mono HB.out.size))
  clear hB 
  obtain ⟨V9, hV9, rV9, pV9, bV9⟩ := layL W5 _ [3, 1] HP.out (by decide)
  replace hV9 : W5.alloc (.cells #[.int .i32 3, .int .i32 1] 40) = V9 := hV9
  replace HP := hid pV9
  replace HB := hid (HB.out.trans (bV9.mono HB.out.size))
  replace HP := hid (HP.out.cons (some ⟨W5.heap.size, 0, none⟩) 2 none 0 ⟨1, 5, [3, 1], []⟩ (rV9) (Row.nil _ _ _ _ _) (by decide))
  clear rV9 pV9 bV9
  have K28 := hid (C28.out 5 (some ⟨W5.heap.size, 0, none⟩) 2 2 none 0 0 V9)
  obtain ⟨v5, hv5⟩ : ∃ v, (.agg #[.int .u8 1, .int .i64 5, .slice (some ⟨W5.heap.size, 0, none⟩) 2 2, .slice none 0 0] : Value) = v := ⟨_, rfl⟩
  rw [hv5] at K28
  replace hv5 := hid hv5
  go_wp2_with fail
  go_at_call 28
  refine K28.out.mono ?_
  clear K28
  rintro e W6 ⟨rfl, hB⟩
  replace HP := hid (HP.out.below hB)
  replace HB := hid (HB.out.trans (hB.mono HB.out.size))
  clear hB hV9
  obtain ⟨V10, hV10, rV10, pV10, bV10⟩ := layL W6 _ [-3, 3] HP.out (by decide)
  replace hV10 : W6.alloc (.cells #[.int .i32 (-3), .int .i32 3] 40) = V10 := hV10
  replace HP := hid pV10
  replace HB := hid (HB.out.trans (bV10.mono HB.out.size))
  obtain ⟨V11, hV11, rV11, pV11, bV11⟩ := layH V10 _ [77] HP.out (by decide)
  replace hV11 : V10.alloc (.cells #[.int .i64 77] 2) = V11 := hV11
  replace HP := hid pV11
  replace HB := hid (HB.out.trans (bV11.mono HB.out.size))
  replace HP := hid (HP.out.cons (some ⟨W6.heap.size, 0, none⟩) 2 (some ⟨V10.heap.size, 0, none⟩) 1 ⟨1, 5, [-3, 3], [77]⟩ (rV10.below bV11) (rV11) (by decide))
  clear rV10 pV10 rV11 pV11 bV10 bV11
  have K28 := hid (C28.out 5 (some ⟨W6.heap.size, 0, none⟩) 2 2 (some ⟨V10.heap.size, 0, none⟩) 1 1 V11)
  obtain ⟨v6, hv6⟩ : ∃ v, (.agg #[.int .u8 1, .int .i64 5, .slice (some ⟨W6.heap.size, 0, none⟩) 2 2, .slice (some ⟨V10.heap.size, 0, none⟩) 1 1] : Value) = v := ⟨_, rfl⟩
  rw [hv6] at K28
  replace hv6 := hid hv6
  go_wp2_with fail
  go_at_call 28
  refine K28.out.mono ?_
  clear K28
  rintro e W7 ⟨rfl, hB⟩
  replace HP := hid (HP.out.below hB)
  replace HB := hid (HB.out.trans (hB.mono HB.out.size))
  clear hB hV10 hV11
  obtain ⟨V12, hV12, rV12, pV12, bV12⟩ := layL W7 _ [1] HP.out (by decide)
  replace hV12 : W7.alloc (.cells #[.int .i32 1] 40) = V12 := hV12
  replace HP := hid pV12
  replace HB := hid (HB.out.trans (bV12.mono HB.out.size))
  obtain ⟨V13, hV13, rV13, pV13, bV13⟩ := layH V12 _ [-3, -4] HP.out (by decide)
  replace hV13 : V12.alloc (.cells #[.int .i64 (-3), .int .i64 (-4)] 2) = V13 := hV13
  replace HP := hid pV13
  replace HB := hid (HB.out.trans (bV13.mono HB.out.size))
  replace HP := hid (HP.out.cons (some ⟨W7.heap.size, 0, none⟩) 1 (some ⟨V12.heap.size, 0, none⟩) 2 ⟨1, 5, [1], [-3, -4]⟩ (rV12.below bV13) (rV13) (by decide))
  clear rV12 pV12 rV13 pV13 bV12 bV13
  have K28 := hid (C28.out 5 (some ⟨W7.heap.size, 0, none⟩) 1 1 (some ⟨V12.heap.size, 0, none⟩) 2 2 V13)
  obtain ⟨v7, hv7⟩ : ∃ v, (.agg #[.int .u8 1, .int .i64 5, .slice (some ⟨W7.heap.size, 0, none⟩) 1 1, .slice (some ⟨V12.heap.size, 0, none⟩) 2 2] : Value) = v := ⟨_, rfl⟩
  rw [hv7] at K28
  replace hv7 := hid hv7
  go_wp2_with fail
  go_at_call 28
  refine K28.out.mono ?_
  clear K28
  rintro e W8 ⟨rfl, hB⟩
  replace HP := hid (HP.out.below hB)
  replace HB := hid (HB.out.trans (hB.mono HB.out.size))
  clear hB hV12 hV13
  obtain ⟨V14, hV14, rV14, pV14, bV14⟩ := layL W8 _ [1] HP.out (by decide)
  replace hV14 : W8.alloc (.cells #[.int .i32 1] 40) = V14 := hV14
  replace HP := hid pV14
  replace HB := hid (HB.out.trans (bV14.mono HB.out.size))
  obtain ⟨V15, hV15, rV15, pV15, bV15⟩ := layH V14 _ [-3, 1, -4, 2] HP.out (by decide)
  replace hV15 : V14.alloc (.cells #[.int .i64 (-3), .int .i64 1, .int .i64 (-4), .int .i64 2] 2) = V15 := hV15
  replace HP := hid pV15
  replace HB := hid (HB.out.trans (bV15.mono HB.out.size))
  replace HP := hid (HP.out.cons (some ⟨W8.heap.size, 0, none⟩) 1 (some ⟨V14.heap.size, 0, none⟩) 4 ⟨1, 5, [1], [-3, 1, -4, 2]⟩ (rV14.below bV15) (rV15) (by decide))
  clear rV14 pV14 rV15 pV15 bV14 bV15
  have K28 := hid (C28.out 5 (some ⟨W8.heap.size, 0, none⟩) 1 1 (some ⟨V14.heap.size, 0, none⟩) 4 4 V15)
  obtain ⟨v8, hv8⟩ : ∃ v, (.agg #[.int .u8 1, .int .i64 5, .slice (some ⟨W8.heap.size, 0, none⟩) 1 1, .slice (some ⟨V14.heap.size, 0, none⟩) 4 4] : Value) = v := ⟨_, rfl⟩
  rw [hv8] at K28
  replace hv8 := hid hv8
  go_wp2_with fail
  go_at_call 28
  refine K28.out.mono ?_
  clear K28
  rintro e W9 ⟨rfl, hB⟩
  replace HP := hid (HP.out.below hB)
  replace HB := hid (HB.out.trans (hB.mono HB.out.size))
  clear hB hV14 hV15
  obtain ⟨V16, hV16, rV16, pV16, bV16⟩ := layH W9 _ [1, 1] HP.out (by decide)
  replace hV16 : W9.alloc (.cells #[.int .i64 1, .int .i64 1] 2) = V16 := hV16
  replace HP := hid pV16
  replace HB := hid (HB.out.trans (bV16.mono HB.out.size))
  replace HP := hid (HP.out.cons none 0 (some ⟨W9.heap.size, 0, none⟩) 2 ⟨2, 0, [], [1, 1]⟩ (Row.nil _ _ _ _ _) (rV16) (by decide))
  clear rV16 pV16 bV16
  obtain ⟨V17, hV17, rV17, pV17, bV17⟩ := layH V16 _ [9] HP.out (by decide)
  replace hV17 : V16.alloc (.cells #[.int .i64 9] 2) = V17 := hV17
  replace HP := hid pV17
  replace HB := hid (HB.out.trans (bV17.mono HB.out.size))
  replace HP := hid (HP.out.cons none 0 (some ⟨V16.heap.size, 0, none⟩) 1 ⟨2, 0, [], [9]⟩ (Row.nil _ _ _ _ _) (rV17) (by decide))
  clear rV17 pV17 bV17
  obtain ⟨V18, hV18, rV18, pV18, bV18⟩ := layH V17 _ [1, 2] HP.out (by decide)
  replace hV18 : V17.alloc (.cells #[.int .i64 1, .int .i64 2] 2) = V18 := hV18
  replace HP := hid pV18
  replace HB := hid (HB.out.trans (bV18.mono HB.out.size))
  replace HP := hid (HP.out.cons none 0 (some ⟨V17.heap.size, 0, none⟩) 2 ⟨2, 0, [], [1, 2]⟩ (Row.nil _ _ _ _ _) (rV18) (by decide))
  clear rV18 pV18 bV18
  replace HP := hid (HP.out.cons none 0 none 0 ⟨0, 0, [], []⟩ (Row.nil _ _ _ _ _) (Row.nil _ _ _ _ _) (by decide))
  obtain ⟨V19, hV19, rV19, pV19, bV19⟩ := layL V18 _ [0] HP.out (by decide)
  replace hV19 : V18.alloc (.cells #[.int .i32 0] 40) = V19 := hV19
  replace HP := hid pV19
  replace HB := hid (HB.out.trans (bV19.mono HB.out.size))
  replace HP := hid (HP.out.cons (some ⟨V18.heap.size, 0, none⟩) 1 none 0 ⟨1, 5, [0], []⟩ (rV19) (Row.nil _ _ _ _ _) (by decide))
  clear rV19 pV19 bV19
  have K28 := hid (C28.out 5 (some ⟨V18.heap.size, 0, none⟩) 1 1 none 0 0 V19)
  obtain ⟨v13, hv13⟩ : ∃ v, (.agg #[.int .u8 1, .int .i64 5, .slice (some ⟨V18.heap.size, 0, none⟩) 1 1, .slice none 0 0] : Value) = v := ⟨_, rfl⟩
  rw [hv13] at K28
  replace hv13 := hid hv13
  go_wp2_with fail
  go_at_call 28
  refine K28.out.mono ?_
  clear K28
  rintro e W10 ⟨rfl, hB⟩
  replace HP := hid (HP.out.below hB)
  replace HB := hid (HB.out.trans (hB.mono HB.out.size))
  clear hB hV16 hV17 hV18 hV19
  obtain ⟨V20, hV20, rV20, pV20, bV20⟩ := layH W10 _ [-3, 2] HP.out (by decide)
  replace hV20 : W10.alloc (.cells #[.int .i64 (-3), .int .i64 2] 2) = V20 := hV20
  replace HP := hid pV20
  replace HB := hid (HB.out.trans (bV20.mono HB.out.size))
  replace HP := hid (HP.out.cons none 0 (some ⟨W10.heap.size, 0, none⟩) 2 ⟨1, 5, [], [-3, 2]⟩ (Row.nil _ _ _ _ _) (rV20) (by decide))
  clear rV20 pV20 bV20
  have K28 := hid (C28.out 5 none 0 0 (some ⟨W10.heap.size, 0, none⟩) 2 2 V20)
  obtain ⟨v14, hv14⟩ : ∃ v, (.agg #[.int .u8 1, .int .i64 5, .slice none 0 0, .slice (some ⟨W10.heap.size, 0, none⟩) 2 2] : Value) = v := ⟨_, rfl⟩
  rw [hv14] at K28
  replace hv14 := hid hv14
  go_wp2_with fail
  go_at_call 28
  refine K28.out.mono ?_
  clear K28
  rintro e W11 ⟨rfl, hB⟩
  replace HP := hid (HP.out.below hB)
  replace HB := hid (HB.out.trans (hB.mono HB.out.size))
  clear hB hV20
  obtain ⟨V21, hV21, rV21, pV21, bV21⟩ := layL W11 _ [1] HP.out (by decide)
  replace hV21 : W11.alloc (.cells #[.int .i32 1] 40) = V21 := hV21
  replace HP := hid pV21
  replace HB := hid (HB.out.trans (bV21.mono HB.out.size))
  obtain ⟨V22, hV22, rV22, pV22, bV22⟩ := layH V21 _ [-4, 2, -3, 1] HP.out (by decide)
  replace hV22 : V21.alloc (.cells #[.int .i64 (-4), .int .i64 2, .int .i64 (-3), .int .i64 1] 2) = V22 := hV22
  replace HP := hid pV22
  replace HB := hid (HB.out.trans (bV22.mono HB.out.size))
  replace HP := hid (HP.out.cons (some ⟨W11.heap.size, 0, none⟩) 1 (some ⟨V21.heap.size, 0, none⟩) 4 ⟨1, 5, [1], [-4, 2, -3, 1]⟩ (rV21.below bV22) (rV22) (by decide))
  clear rV21 pV21 rV22 pV22 bV21 bV22
  have K28 := hid (C28.out 5 (some ⟨W11.heap.size, 0, none⟩) 1 1 (some ⟨V21.heap.size, 0, none⟩) 4 4 V22)
  obtain ⟨v15, hv15⟩ : ∃ v, (.agg #[.int .u8 1, .int .i64 5, .slice (some ⟨W11.heap.size, 0, none⟩) 1 1, .slice (some ⟨V21.heap.size, 0, none⟩) 4 4] : Value) = v := ⟨_, rfl⟩
  rw [hv15] at K28
  replace hv15 := hid hv15
  go_wp2_with fail
  go_at_call 28
  refine K28.out.mono ?_
  clear K28
  rintro e W12 ⟨rfl, hB⟩
  replace HP := hid (HP.out.below hB)
  replace HB := hid (HB.out.trans (hB.mono HB.out.size))
  clear hB hV21 hV22
  obtain ⟨V23, hV23, rV23, pV23, bV23⟩ := layL W12 _ [1] HP.out (by decide)
  replace hV23 : W12.alloc (.cells #[.int .i32 1] 40) = V23 := hV23
  replace HP := hid pV23
  replace HB := hid (HB.out.trans (bV23.mono HB.out.size))
  obtain ⟨V24, hV24, rV24, pV24, bV24⟩ := layH V23 _ [-1, 2] HP.out (by decide)
  replace hV24 : V23.alloc (.cells #[.int .i64 (-1), .int .i64 2] 2) = V24 := hV24
  replace HP := hid pV24
  replace HB := hid (HB.out.trans (bV24.mono HB.out.size))
  replace HP := hid (HP.out.cons (some ⟨W12.heap.size, 0, none⟩) 1 (some ⟨V23.heap.size, 0, none⟩) 2 ⟨1, 5, [1], [-1, 2]⟩ (rV23.below bV24) (rV24) (by decide))
  clear rV23 pV23 rV24 pV24 bV23 bV24
  have K28 := hid (C28.out 5 (some ⟨W12.heap.size, 0, none⟩) 1 1 (some ⟨V23.heap.size, 0, none⟩) 2 2 V24)
  obtain ⟨v16, hv16⟩ : ∃ v, (.agg #[.int .u8 1, .int .i64 5, .slice (some ⟨W12.heap.size, 0, none⟩) 1 1, .slice (some ⟨V23.heap.size, 0, none⟩) 2 2] : Value) = v := ⟨_, rfl⟩
  rw [hv16] at K28
  replace hv16 := hid hv16
  go_wp2_with fail
  go_at_call 28
  refine K28.out.mono ?_
  clear K28
  rintro e W13 ⟨rfl, hB⟩
  replace HP := hid (HP.out.below hB)
  replace HB := hid (HB.out.trans (hB.mono HB.out.size))
  clear hB hV23 hV24
  obtain ⟨V25, hV25, rV25, pV25, bV25⟩ := layL W13 _ [1] HP.out (by decide)
  replace hV25 : W13.alloc (.cells #[.int .i32 1] 40) = V25 := hV25
  replace HP := hid pV25
  replace HB := hid (HB.out.trans (bV25.mono HB.out.size))
  obtain ⟨V26, hV26, rV26, pV26, bV26⟩ := layH V25 _ [-3, 1] HP.out (by decide)
  replace hV26 : V25.alloc (.cells #[.int .i64 (-3), .int .i64 1] 2) = V26 := hV26
  replace HP := hid pV26
  replace HB := hid (HB.out.trans (bV26.mono HB.out.size))
  replace HP := hid (HP.out.cons (some ⟨W13.heap.size, 0, none⟩) 1 (some ⟨V25.heap.size, 0, none⟩) 2 ⟨1, 5, [1], [-3, 1]⟩ (rV25.below bV26) (rV26) (by decide))
  clear rV25 pV25 rV26 pV26 bV25 bV26
  have K28 := hid (C28.out 5 (some ⟨W13.heap.size, 0, none⟩) 1 1 (some ⟨V25.heap.size, 0, none⟩) 2 2 V26)
  obtain ⟨v17, hv17⟩ : ∃ v, (.agg #[.int .u8 1, .int .i64 5, .slice (some ⟨W13.heap.size, 0, none⟩) 1 1, .slice (some ⟨V25.heap.size, 0, none⟩) 2 2] : Value) = v := ⟨_, rfl⟩
  rw [hv17] at K28
  replace hv17 := hid hv17
  go_wp2_with fail
  go_at_call 28
  refine K28.out.mono ?_
  clear K28
  rintro e W14 ⟨rfl, hB⟩
  replace HP := hid (HP.out.below hB)
  replace HB := hid (HB.out.trans (hB.mono HB.out.size))
  clear hB hV25 hV26
  obtain ⟨V27, hV27, rV27, pV27, bV27⟩ := layL W14 _ [1] HP.out (by decide)
  replace hV27 : W14.alloc (.cells #[.int .i32 1] 40) = V27 := hV27
  replace HP := hid pV27
  replace HB := hid (HB.out.trans (bV27.mono HB.out.size))
  obtain ⟨V28, hV28, rV28, pV28, bV28⟩ := layH V27 _ [-3, 9] HP.out (by decide)
  replace hV28 : V27.alloc (.cells #[.int .i64 (-3), .int .i64 9] 2) = V28 := hV28
  replace HP := hid pV28
  replace HB := hid (HB.out.trans (bV28.mono HB.out.size))
  replace HP := hid (HP.out.cons (some ⟨W14.heap.size, 0, none⟩) 1 (some ⟨V27.heap.size, 0, none⟩) 2 ⟨1, 5, [1], [-3, 9]⟩ (rV27.below bV28) (rV28) (by decide))
  clear rV27 pV27 rV28 pV28 bV27 bV28
  have K28 := hid (C28.out 5 (some ⟨W14.heap.size, 0, none⟩) 1 1 (some ⟨V27.heap.size, 0, none⟩) 2 2 V28)
  obtain ⟨v18, hv18⟩ : ∃ v, (.agg #[.int .u8 1, .int .i64 5, .slice (some ⟨W14.heap.size, 0, none⟩) 1 1, .slice (some ⟨V27.heap.size, 0, none⟩) 2 2] : Value) = v := ⟨_, rfl⟩
  rw [hv18] at K28
  replace hv18 := hid hv18
  go_wp2_with fail
  go_at_call 28
  refine K28.out.mono ?_
  clear K28
  rintro e W15 ⟨rfl, hB⟩
  replace HP := hid (HP.out.below hB)
  replace HB := hid (HB.out.trans (hB.mono HB.out.size))
  clear hB hV27 hV28
  obtain ⟨V29, hV29, rV29, pV29, bV29⟩ := layL W15 _ [1, 2] HP.out (by decide)
  replace hV29 : W15.alloc (.cells #[.int .i32 1, .int .i32 2] 40) = V29 := hV29
  replace HP := hid pV29
  replace HB := hid (HB.out.trans (bV29.mono HB.out.size))
  obtain ⟨V30, hV30, rV30, pV30, bV30⟩ := layH V29 _ [-3, -4, 1] HP.out (by decide)
  replace hV30 : V29.alloc (.cells #[.int .i64 (-3), .int .i64 (-4), .int .i64 1] 2) = V30 := hV30
  replace HP := hid pV30
  replace HB := hid (HB.out.trans (bV30.mono HB.out.size))
  replace HP := hid (HP.out.cons (some ⟨W15.heap.size, 0, none⟩) 2 (some ⟨V29.heap.size, 0, none⟩) 3 ⟨1, 5, [1, 2], [-3, -4, 1]⟩ (rV29.below bV30) (rV30) (by decide))
  clear rV29 pV29 rV30 pV30 bV29 bV30
  have K28 := hid (C28.out 5 (some ⟨W15.heap.size, 0, none⟩) 2 2 (some ⟨V29.heap.size, 0, none⟩) 3 3 V30)
  obtain ⟨v19, hv19⟩ : ∃ v, (.agg #[.int .u8 1, .int .i64 5, .slice (some ⟨W15.heap.size, 0, none⟩) 2 2, .slice (some ⟨V29.heap.size, 0, none⟩) 3 3] : Value) = v := ⟨_, rfl⟩
  rw [hv19] at K28
  replace hv19 := hid hv19
  go_wp2_with fail
  go_at_call 28
  refine K28.out.mono ?_
  clear K28
  rintro e W16 ⟨rfl, hB⟩
  replace HP := hid (HP.out.below hB)
  replace HB := hid (HB.out.trans (hB.mono HB.out.size))
  clear hB hV29 hV30
  obtain ⟨V31, hV31, rV31, pV31, bV31⟩ := layL W16 _ [-1, 2] HP.out (by decide)
  replace hV31 : W16.alloc (.cells #[.int .i32 (-1), .int .i32 2] 40) = V31 := hV31
  replace HP := hid pV31
  replace HB := hid (HB.out.trans (bV31.mono HB.out.size))
  obtain ⟨V32, hV32, rV32, pV32, bV32⟩ := layH V31 _ [3] HP.out (by decide)
  replace hV32 : V31.alloc (.cells #[.int .i64 3] 2) = V32 := hV32
  replace HP := hid pV32
  replace HB := hid (HB.out.trans (bV32.mono HB.out.size))
  replace HP := hid (HP.out.cons (some ⟨W16.heap.size, 0, none⟩) 2 (some ⟨V31.heap.size, 0, none⟩) 1 ⟨1, 5, [-1, 2], [3]⟩ (rV31.below bV32) (rV32) (by decide))
  clear rV31 pV31 rV32 pV32 bV31 bV32
  have K28 := hid (C28.out 5 (some ⟨W16.heap.size, 0, none⟩) 2 2 (some ⟨V31.heap.size, 0, none⟩) 1 1 V32)
  obtain ⟨v20, hv20⟩ : ∃ v, (.agg #[.int .u8 1, .int .i64 5, .slice (some ⟨W16.heap.size, 0, none⟩) 2 2, .slice (some ⟨V31.heap.size, 0, none⟩) 1 1] : Value) = v := ⟨_, rfl⟩
  rw [hv20] at K28
  replace hv20 := hid hv20
  go_wp2_with fail
  go_at_call 28
  refine K28.out.mono ?_
  clear K28
  rintro e W17 ⟨rfl, hB⟩
  replace HP := hid (HP.out.below hB)
  replace HB := hid (HB.out.trans (hB.mono HB.out.size))
  clear hB hV31 hV32
  obtain rfl := hv0.out
  clear hv0
  obtain rfl := hv1.out
  clear hv1
  obtain rfl := hv2.out
  clear hv2
  obtain rfl := hv3.out
  clear hv3
  obtain rfl := hv4.out
  clear hv4
  obtain rfl := hv5.out
  clear hv5
  obtain rfl := hv6.out
  clear hv6
  obtain rfl := hv7.out
  clear hv7
  obtain rfl := hv8.out
  clear hv8
  obtain rfl := hv13.out
  clear hv13
  obtain rfl := hv14.out
  clear hv14
  obtain rfl := hv15.out
  clear hv15
  obtain rfl := hv16.out
  clear hv16
  obtain rfl := hv17.out
  clear hv17
  obtain rfl := hv18.out
  clear hv18
  obtain rfl := hv19.out
  clear hv19
  obtain rfl := hv20.out
  clear hv20
  have hx := heap_alloc_new W17 (.cells #[.int .u8 1, .int .i64 5, .slice (some ⟨w.heap.size, 0, none⟩) 1 1, .slice (some ⟨V1.heap.size, 0, none⟩) 3 3, .int .u8 1, .int .i64 5, .slice (some ⟨W1.heap.size, 0, none⟩) 1 1, .slice (some ⟨V3.heap.size, 0, none⟩) 1 1, .int .u8 1, .int .i64 5, .slice (some ⟨W2.heap.size, 0, none⟩) 1 1, .slice (some ⟨V5.heap.size, 0, none⟩) 1 1, .int .u8 1, .int .i64 4, .slice (some ⟨W3.heap.size, 0, none⟩) 1 1, .slice (some ⟨V7.heap.size, 0, none⟩) 2 2, .int .u8 1, .int .i64 5, .slice none 0 0, .slice none 0 0, .int .u8 1, .int .i64 5, .slice (some ⟨W5.heap.size, 0, none⟩) 2 2, .slice none 0 0, .int .u8 1, .int .i64 5, .slice (some ⟨W6.heap.size, 0, none⟩) 2 2, .slice (some ⟨V10.heap.size, 0, none⟩) 1 1, .int .u8 1, .int .i64 5, .slice (some ⟨W7.heap.size, 0, none⟩) 1 1, .slice (some ⟨V12.heap.size, 0, none⟩) 2 2, .int .u8 1, .int .i64 5, .slice (some ⟨W8.heap.size, 0, none⟩) 1 1, .slice (some ⟨V14.heap.size, 0, none⟩) 4 4, .int .u8 2, .int .i64 0, .slice none 0 0, .slice (some ⟨W9.heap.size, 0, none⟩) 2 2, .int .u8 2, .int .i64 0, .slice none 0 0, .slice (some ⟨V16.heap.size, 0, none⟩) 1 1, .int .u8 2, .int .i64 0, .slice none 0 0, .slice (some ⟨V17.heap.size, 0, none⟩) 2 2, .int .u8 0, .int .i64 0, .slice none 0 0, .slice none 0 0, .int .u8 1, .int .i64 5, .slice (some ⟨V18.heap.size, 0, none⟩) 1 1, .slice none 0 0, .int .u8 1, .int .i64 5, .slice none 0 0, .slice (some ⟨W10.heap.size, 0, none⟩) 2 2, .int .u8 1, .int .i64 5, .slice (some ⟨W11.heap.size, 0, none⟩) 1 1, .slice (some ⟨V21.heap.size, 0, none⟩) 4 4, .int .u8 1, .int .i64 5, .slice (some ⟨W12.heap.size, 0, none⟩) 1 1, .slice (some ⟨V23.heap.size, 0, none⟩) 2 2, .int .u8 1, .int .i64 5, .slice (some ⟨W13.heap.size, 0, none⟩) 1 1, .slice (some ⟨V25.heap.size, 0, none⟩) 2 2, .int .u8 1, .int .i64 5, .slice (some ⟨W14.heap.size, 0, none⟩) 1 1, .slice (some ⟨V27.heap.size, 0, none⟩) 2 2, .int .u8 1, .int .i64 5, .slice (some ⟨W15.heap.size, 0, none⟩) 2 2, .slice (some ⟨V29.heap.size, 0, none⟩) 3 3, .int .u8 1, .int .i64 5, .slice (some ⟨W16.heap.size, 0, none⟩) 2 2, .slice (some ⟨V31.heap.size, 0, none⟩) 1 1] 44)
  have hB := below_box W17 (.cells #[.int .u8 1, .int .i64 5, .slice (some ⟨w.heap.size, 0, none⟩) 1 1, .slice (some ⟨V1.heap.size, 0, none⟩) 3 3, .int .u8 1, .int .i64 5, .slice (some ⟨W1.heap.size, 0, none⟩) 1 1, .slice (some ⟨V3.heap.size, 0, none⟩) 1 1, .int .u8 1, .int .i64 5, .slice (some ⟨W2.heap.size, 0, none⟩) 1 1, .slice (some ⟨V5.heap.size, 0, none⟩) 1 1, .int .u8 1, .int .i64 4, .slice (some ⟨W3.heap.size, 0, none⟩) 1 1, .slice (some ⟨V7.heap.size, 0, none⟩) 2 2, .int .u8 1, .int .i64 5, .slice none 0 0, .slice none 0 0, .int .u8 1, .int .i64 5, .slice (some ⟨W5.heap.size, 0, none⟩) 2 2, .slice none 0 0, .int .u8 1, .int .i64 5, .slice (some ⟨W6.heap.size, 0, none⟩) 2 2, .slice (some ⟨V10.heap.size, 0, none⟩) 1 1, .int .u8 1, .int .i64 5, .slice (some ⟨W7.heap.size, 0, none⟩) 1 1, .slice (some ⟨V12.heap.size, 0, none⟩) 2 2, .int .u8 1, .int .i64 5, .slice (some ⟨W8.heap.size, 0, none⟩) 1 1, .slice (some ⟨V14.heap.size, 0, none⟩) 4 4, .int .u8 2, .int .i64 0, .slice none 0 0, .slice (some ⟨W9.heap.size, 0, none⟩) 2 2, .int .u8 2, .int .i64 0, .slice none 0 0, .slice (some ⟨V16.heap.size, 0, none⟩) 1 1, .int .u8 2, .int .i64 0, .slice none 0 0, .slice (some ⟨V17.heap.size, 0, none⟩) 2 2, .int .u8 0, .int .i64 0, .slice none 0 0, .slice none 0 0, .int .u8 1, .int .i64 5, .slice (some ⟨V18.heap.size, 0, none⟩) 1 1, .slice none 0 0, .int .u8 1, .int .i64 5, .slice none 0 0, .slice (some ⟨W10.heap.size, 0, none⟩) 2 2, .int .u8 1, .int .i64 5, .slice (some ⟨W11.heap.size, 0, none⟩) 1 1, .slice (some ⟨V21.heap.size, 0, none⟩) 4 4, .int .u8 1, .int .i64 5, .slice (some ⟨W12.heap.size, 0, none⟩) 1 1, .slice (some ⟨V23.heap.size, 0, none⟩) 2 2, .int .u8 1, .int .i64 5, .slice (some ⟨W13.heap.size, 0, none⟩) 1 1, .slice (some ⟨V25.heap.size, 0, none⟩) 2 2, .int .u8 1, .int .i64 5, .slice (some ⟨W14.heap.size, 0, none⟩) 1 1, .slice (some ⟨V27.heap.size, 0, none⟩) 2 2, .int .u8 1, .int .i64 5, .slice (some ⟨W15.heap.size, 0, none⟩) 2 2, .slice (some ⟨V29.heap.size, 0, none⟩) 3 3, .int .u8 1, .int .i64 5, .slice (some ⟨W16.heap.size, 0, none⟩) 2 2, .slice (some ⟨V31.heap.size, 0, none⟩) 1 1] 44)
  generalize hVl : W17.alloc (.cells #[.int .u8 1, .int .i64 5, .slice (some ⟨w.heap.size, 0, none⟩) 1 1, .slice (some ⟨V1.heap.size, 0, none⟩) 3 3, .int .u8 1, .int .i64 5, .slice (some ⟨W1.heap.size, 0, none⟩) 1 1, .slice (some ⟨V3.heap.size, 0, none⟩) 1 1, .int .u8 1, .int .i64 5, .slice (some ⟨W2.heap.size, 0, none⟩) 1 1, .slice (some ⟨V5.heap.size, 0, none⟩) 1 1, .int .u8 1, .int .i64 4, .slice (some ⟨W3.heap.size, 0, none⟩) 1 1, .slice (some ⟨V7.heap.size, 0, none⟩) 2 2, .int .u8 1, .int .i64 5, .slice none 0 0, .slice none 0 0, .int .u8 1, .int .i64 5, .slice (some ⟨W5.heap.size, 0, none⟩) 2 2, .slice none 0 0, .int .u8 1, .int .i64 5, .slice (some ⟨W6.heap.size, 0, none⟩) 2 2, .slice (some ⟨V10.heap.size, 0, none⟩) 1 1, .int .u8 1, .int .i64 5, .slice (some ⟨W7.heap.size, 0, none⟩) 1 1, .slice (some ⟨V12.heap.size, 0, none⟩) 2 2, .int .u8 1, .int .i64 5, .slice (some ⟨W8.heap.size, 0, none⟩) 1 1, .slice (some ⟨V14.heap.size, 0, none⟩) 4 4, .int .u8 2, .int .i64 0, .slice none 0 0, .slice (some ⟨W9.heap.size, 0, none⟩) 2 2, .int .u8 2, .int .i64 0, .slice none 0 0, .slice (some ⟨V16.heap.size, 0, none⟩) 1 1, .int .u8 2, .int .i64 0, .slice none 0 0, .slice (some ⟨V17.heap.size, 0, none⟩) 2 2, .int .u8 0, .int .i64 0, .slice none 0 0, .slice none 0 0, .int .u8 1, .int .i64 5, .slice (some ⟨V18.heap.size, 0, none⟩) 1 1, .slice none 0 0, .int .u8 1, .int .i64 5, .slice none 0 0, .slice (some ⟨W10.heap.size, 0, none⟩) 2 2, .int .u8 1, .int .i64 5, .slice (some ⟨W11.heap.size, 0, none⟩) 1 1, .slice (some ⟨V21.heap.size, 0, none⟩) 4 4, .int .u8 1, .int .i64 5, .slice (some ⟨W12.heap.size, 0, none⟩) 1 1, .slice (some ⟨V23.heap.size, 0, none⟩) 2 2, .int .u8 1, .int .i64 5, .slice (some ⟨W13.heap.size, 0, none⟩) 1 1, .slice (some ⟨V25.heap.size, 0, none⟩) 2 2, .int .u8 1, .int .i64 5, .slice (some ⟨W14.heap.size, 0, none⟩) 1 1, .slice (some ⟨V27.heap.size, 0, none⟩) 2 2, .int .u8 1, .int .i64 5, .slice (some ⟨W15.heap.size, 0, none⟩) 2 2, .slice (some ⟨V29.heap.size, 0, none⟩) 3 3, .int .u8 1, .int .i64 5, .slice (some ⟨W16.heap.size, 0, none⟩) 2 2, .slice (some ⟨V31.heap.size, 0, none⟩) 1 1] 44) = Vl at hx hB
  have HS : Hid (StepsC Vl (some ⟨W17.heap.size, 0, none⟩) Ckr.kl) := hid (row21 Vl W17.heap.size (some ⟨w.heap.size, 0, none⟩) (some ⟨V1.heap.size, 0, none⟩) (some ⟨W1.heap.size, 0, none⟩) (some ⟨V3.heap.size, 0, none⟩) (some ⟨W2.heap.size, 0, none⟩) (some ⟨V5.heap.size, 0, none⟩) (some ⟨W3.heap.size, 0, none⟩) (some ⟨V7.heap.size, 0, none⟩)  (some ⟨W5.heap.size, 0, none⟩)  (some ⟨W6.heap.size, 0, none⟩) (some ⟨V10.heap.size, 0, none⟩) (some ⟨W7.heap.size, 0, none⟩) (some ⟨V12.heap.size, 0, none⟩) (some ⟨W8.heap.size, 0, none⟩) (some ⟨V14.heap.size, 0, none⟩) (some ⟨W9.heap.size, 0, none⟩) (some ⟨V16.heap.size, 0, none⟩) (some ⟨V17.heap.size, 0, none⟩)  (some ⟨V18.heap.size, 0, none⟩)  (some ⟨W10.heap.size, 0, none⟩) (some ⟨W11.heap.size, 0, none⟩) (some ⟨V21.heap.size, 0, none⟩) (some ⟨W12.heap.size, 0, none⟩) (some ⟨V23.heap.size, 0, none⟩) (some ⟨W13.heap.size, 0, none⟩) (some ⟨V25.heap.size, 0, none⟩) (some ⟨W14.heap.size, 0, none⟩) (some ⟨V27.heap.size, 0, none⟩) (some ⟨W15.heap.size, 0, none⟩) (some ⟨V29.heap.size, 0, none⟩) (some ⟨W16.heap.size, 0, none⟩) (some ⟨V31.heap.size, 0, none⟩) (HP.out.below hB) hx)
  replace HB := hid (HB.out.trans (hB.mono HB.out.size))
  clear hB hx HP
  have hy := heap_alloc_new Vl (.cells #[.int .i64 0, .int .i64 61, .int .i64 60, .int .i64 62, .int .i64 61, .int .i64 0, .int .i64 0, .int .i64 61, .int .i64 0, .int .i64 5, .int .i64 5, .int .i64 0, .int .i64 40, .int .i64 40, .int .i64 61, .int .i64 60, .int .i64 60, .int .i64 61, .int .i64 60, .int .i64 61, .int .i64 0] 31)
  have hB := below_box Vl (.cells #[.int .i64 0, .int .i64 61, .int .i64 60, .int .i64 62, .int .i64 61, .int .i64 0, .int .i64 0, .int .i64 61, .int .i64 0, .int .i64 5, .int .i64 5, .int .i64 0, .int .i64 40, .int .i64 40, .int .i64 61, .int .i64 60, .int .i64 60, .int .i64 61, .int .i64 60, .int .i64 61, .int .i64 0] 31)
  generalize hVw : Vl.alloc (.cells #[.int .i64 0, .int .i64 61, .int .i64 60, .int .i64 62, .int .i64 61, .int .i64 0, .int .i64 0, .int .i64 61, .int .i64 0, .int .i64 5, .int .i64 5, .int .i64 0, .int .i64 40, .int .i64 40, .int .i64 61, .int .i64 60, .int .i64 60, .int .i64 61, .int .i64 60, .int .i64 61, .int .i64 0] 31) = Vw at hy hB
  replace HS := hid (HS.out.below hB)
  replace HB := hid (HB.out.trans (hB.mono HB.out.size))
  have HW := hid (show ∀ j, j < 21 → Vw.cell? ⟨Vl.heap.size, j, none⟩ = some (.int .i64 (Ckr.kw.getD j 0)) from fun j hj => (row_cell hy j).trans (kw_cells j hj))
  have HYL := hid (Array.getElem?_eq_some_iff.1 hy).1
  clear hB hy
  generalize hgl : W17.heap.size = gl at *
  generalize hgw : Vl.heap.size = gw at *
  go_wp2_with fail
  generalize (Value.agg #[.int .u8 1, .int .i64 5, .slice (some ⟨w.heap.size, 0, none⟩) 1 1, .slice (some ⟨V1.heap.size, 0, none⟩) 3 3]) = u0
  generalize (Value.agg #[.int .u8 1, .int .i64 5, .slice (some ⟨W1.heap.size, 0, none⟩) 1 1, .slice (some ⟨V3.heap.size, 0, none⟩) 1 1]) = u1
  generalize (Value.agg #[.int .u8 1, .int .i64 5, .slice (some ⟨W2.heap.size, 0, none⟩) 1 1, .slice (some ⟨V5.heap.size, 0, none⟩) 1 1]) = u2
  generalize (Value.agg #[.int .u8 1, .int .i64 4, .slice (some ⟨W3.heap.size, 0, none⟩) 1 1, .slice (some ⟨V7.heap.size, 0, none⟩) 2 2]) = u3
  generalize (Value.agg #[.int .u8 1, .int .i64 5, .slice none 0 0, .slice none 0 0]) = u4
  generalize (Value.agg #[.int .u8 1, .int .i64 5, .slice (some ⟨W5.heap.size, 0, none⟩) 2 2, .slice none 0 0]) = u5
  generalize (Value.agg #[.int .u8 1, .int .i64 5, .slice (some ⟨W6.heap.size, 0, none⟩) 2 2, .slice (some ⟨V10.heap.size, 0, none⟩) 1 1]) = u6
  generalize (Value.agg #[.int .u8 1, .int .i64 5, .slice (some ⟨W7.heap.size, 0, none⟩) 1 1, .slice (some ⟨V12.heap.size, 0, none⟩) 2 2]) = u7
  generalize (Value.agg #[.int .u8 1, .int .i64 5, .slice (some ⟨W8.heap.size, 0, none⟩) 1 1, .slice (some ⟨V14.heap.size, 0, none⟩) 4 4]) = u8
  generalize (Value.agg #[.int .u8 1, .int .i64 5, .slice (some ⟨V18.heap.size, 0, none⟩) 1 1, .slice none 0 0]) = u13
  generalize (Value.agg #[.int .u8 1, .int .i64 5, .slice none 0 0, .slice (some ⟨W10.heap.size, 0, none⟩) 2 2]) = u14
  generalize (Value.agg #[.int .u8 1, .int .i64 5, .slice (some ⟨W11.heap.size, 0, none⟩) 1 1, .slice (some ⟨V21.heap.size, 0, none⟩) 4 4]) = u15
  generalize (Value.agg #[.int .u8 1, .int .i64 5, .slice (some ⟨W12.heap.size, 0, none⟩) 1 1, .slice (some ⟨V23.heap.size, 0, none⟩) 2 2]) = u16
  generalize (Value.agg #[.int .u8 1, .int .i64 5, .slice (some ⟨W13.heap.size, 0, none⟩) 1 1, .slice (some ⟨V25.heap.size, 0, none⟩) 2 2]) = u17
  generalize (Value.agg #[.int .u8 1, .int .i64 5, .slice (some ⟨W14.heap.size, 0, none⟩) 1 1, .slice (some ⟨V27.heap.size, 0, none⟩) 2 2]) = u18
  generalize (Value.agg #[.int .u8 1, .int .i64 5, .slice (some ⟨W15.heap.size, 0, none⟩) 2 2, .slice (some ⟨V29.heap.size, 0, none⟩) 3 3]) = u19
  generalize (Value.agg #[.int .u8 1, .int .i64 5, .slice (some ⟨W16.heap.size, 0, none⟩) 2 2, .slice (some ⟨V31.heap.size, 0, none⟩) 1 1]) = u20
  generalize (Value.slice (some ⟨w.heap.size, 0, none⟩) 1 1) = s0
  generalize (Value.slice (some ⟨V1.heap.size, 0, none⟩) 3 3) = t0
  generalize (Value.slice (some ⟨W1.heap.size, 0, none⟩) 1 1) = s1
  generalize (Value.slice (some ⟨V3.heap.size, 0, none⟩) 1 1) = t1
  generalize (Value.slice (some ⟨W2.heap.size, 0, none⟩) 1 1) = s2
  generalize (Value.slice (some ⟨V5.heap.size, 0, none⟩) 1 1) = t2
  generalize (Value.slice (some ⟨W3.heap.size, 0, none⟩) 1 1) = s3
  generalize (Value.slice (some ⟨V7.heap.size, 0, none⟩) 2 2) = t3
  generalize (Value.slice (some ⟨W5.heap.size, 0, none⟩) 2 2) = s5
  generalize (Value.slice (some ⟨W6.heap.size, 0, none⟩) 2 2) = s6
  generalize (Value.slice (some ⟨V10.heap.size, 0, none⟩) 1 1) = t6
  generalize (Value.slice (some ⟨W7.heap.size, 0, none⟩) 1 1) = s7
  generalize (Value.slice (some ⟨V12.heap.size, 0, none⟩) 2 2) = t7
  generalize (Value.slice (some ⟨W8.heap.size, 0, none⟩) 1 1) = s8
  generalize (Value.slice (some ⟨V14.heap.size, 0, none⟩) 4 4) = t8
  generalize (Value.slice (some ⟨W9.heap.size, 0, none⟩) 2 2) = t9
  generalize (Value.slice (some ⟨V16.heap.size, 0, none⟩) 1 1) = t10
  generalize (Value.slice (some ⟨V17.heap.size, 0, none⟩) 2 2) = t11
  generalize (Value.slice (some ⟨V18.heap.size, 0, none⟩) 1 1) = s13
  generalize (Value.slice (some ⟨W10.heap.size, 0, none⟩) 2 2) = t14
  generalize (Value.slice (some ⟨W11.heap.size, 0, none⟩) 1 1) = s15
  generalize (Value.slice (some ⟨V21.heap.size, 0, none⟩) 4 4) = t15
  generalize (Value.slice (some ⟨W12.heap.size, 0, none⟩) 1 1) = s16
  generalize (Value.slice (some ⟨V23.heap.size, 0, none⟩) 2 2) = t16
  generalize (Value.slice (some ⟨W13.heap.size, 0, none⟩) 1 1) = s17
  generalize (Value.slice (some ⟨V25.heap.size, 0, none⟩) 2 2) = t17
  generalize (Value.slice (some ⟨W14.heap.size, 0, none⟩) 1 1) = s18
  generalize (Value.slice (some ⟨V27.heap.size, 0, none⟩) 2 2) = t18
  generalize (Value.slice (some ⟨W15.heap.size, 0, none⟩) 2 2) = s19
  generalize (Value.slice (some ⟨V29.heap.size, 0, none⟩) 3 3) = t19
  generalize (Value.slice (some ⟨W16.heap.size, 0, none⟩) 2 2) = s20
  generalize (Value.slice (some ⟨V31.heap.size, 0, none⟩) 1 1) = t20
  generalize (some (⟨gl, 0, none⟩ : Addr)) = al at *
  have C36 := hid four36
  have C10 := hid works10
  clear hVl hVw hgl hgw
  have HW0 := hid HB.out
  go_loopw [3, 4, 5] (fun i _ _ wr => ∃ (k : Nat), i = .int .i64 k ∧ k ≤ 21 ∧ Hid (Below Vw.heap.size Vw wr)) (fun i _ _ _ => 21 - (intOf i).toNat)
  case atStart => exact ⟨0, rfl, by omega, hid (Below.refl _ _)⟩
  case round =>
    obtain ⟨k, rfl, hk, HBe⟩ := hrel
    by_cases hlt : k < 21
    · have hlt' : (k : Int) < 21 := by omega
      have hkl : k < Ckr.kl.length := hlt
      obtain ⟨b, off, a1, c1, a2, c2, rfl, hst, hcap⟩ := HS.out.at hkl
      have HE := hid (Ckr.known_at k hkl)
      have HLn := hid (Ckr.kl_len Ckr.kl[k] (List.getElem_mem hkl))
      have hw := HW.out k hlt
      have HST := hid hst
      have HCap := hid hcap
      have HWL := hid (show gw < Vw.heap.size from HYL.out)
      generalize hsk : Ckr.kl[k] = s at *
      clear hst hcap
      have K36 := hid (C36.out wr)
      go_wp2_with fail
      go_at_call 36
      refine K36.out.mono ?_
      clear K36
      rintro e W1 ⟨g, rfl, hCls, hB1⟩
      have HB1 := hid (HBe.out.trans (hB1.mono HBe.out.size))
      have K13 := hid (new13 2 (some ⟨g, 0, none⟩) 4 4 Ckr.four W1 rfl hCls (by decide))
      clear hCls hB1
      go_wp2_with fail
      go_at_call 13
      refine K13.out.mono ?_
      clear K13
      rintro e W2 ⟨cb, bm, t0, r0, rfl, hC2, hB2⟩
      have hBd : Below W2.heap.size W2 W2.drew := (Below.refl _ _).drew
      have hC2' : CkS W1.heap.size cb bm t0 r0 4 W2.drew (Ckr.new Ckr.four) := Ck.below hC2 hBd
      have hBd2 : Below W1.heap.size W1 W2.drew := hB2.trans (hBd.mono hB2.size)
      have hBd3 : Below Vw.heap.size Vw W2.drew := HB1.out.trans (hBd2.mono HB1.out.size)
      have hBv2 : Below Vw.heap.size Vw W2 := HB1.out.trans (hB2.mono HB1.out.size)
      have C16 := (step16 W1.heap.size cb bm t0 r0 4 W2.drew (Ckr.new Ckr.four) s a1 c1 a2 c2 hC2' (by decide) (Ck.argS hC2' (HST.out.v.below HB1.out) hBd2 HCap.out HLn.out)).mono (R' := fun e w' => e = .returned (.int .i64 (Ckr.kw.getD k 0)) ∧ Below Vw.heap.size Vw w') (by
        rintro e W5 ⟨rfl, t5, r5, k5, hk5, hC5, hF5, _, _⟩
        rw [HE.out]
        obtain ⟨p1, p2, p3, p4, p5⟩ := Ck.facts hC2'
        exact ⟨rfl, hBd3.trans ((hF5.below p1 p2 (fun g h => (p3 g h).1) (fun g h => (p4 g h).1) p5).mono HB1.out.size)⟩)
      unfold sval at C16
      have hS : ∀ W, Below Vw.heap.size Vw W → Below Vw.heap.size Vw W ∧ W.cell? ⟨b, off + k * 4, none⟩ = some (.int .u8 s.kind) ∧ W.cell? ⟨b, off + k * 4 + 1, none⟩ = some (.int .i64 s.id) ∧ W.cell? ⟨b, off + k * 4 + 2, none⟩ = some (.slice a1 s.lits.length c1) ∧ W.cell? ⟨b, off + k * 4 + 3, none⟩ = some (.slice a2 s.hints.length c2) ∧ W.cell? ⟨gw, k, none⟩ = some (.int .i64 (Ckr.kw.getD k 0)) := fun W h => by
        have hst2 := HST.out.below h
        exact ⟨h, hst2.k, hst2.i, hst2.l, hst2.h, (h.cell (p := ⟨gw, k, none⟩) HWL.out).trans hw⟩
      clear hw hC2 hC2' hB2 HST HCap HLn HE hBd hBd2 HB1
      generalize s.lits.length = n1 at *
      generalize s.hints.length = n2 at *
      generalize s.kind = kd at *
      generalize s.id = sid at *
      generalize Ckr.kw.getD k 0 = q at *
      have HK := hid hk
      have CC := hid C16
      obtain ⟨_, e0, e1, e2, e3, w0⟩ := hS W2 hBv2
      have KK := hid (hS W2.drew hBd3)
      have HST := hid hS
      clear hS C16 hBv2 hBd3 hk
      go_wp2
      go_region_held3 (fun W => Below Vw.heap.size Vw W ∧ W.cell? ⟨b, off + k * 4, none⟩ = some (.int .u8 kd) ∧ W.cell? ⟨b, off + k * 4 + 1, none⟩ = some (.int .i64 sid) ∧ W.cell? ⟨b, off + k * 4 + 2, none⟩ = some (.slice a1 n1 c1) ∧ W.cell? ⟨b, off + k * 4 + 3, none⟩ = some (.slice a2 n2 c2) ∧ W.cell? ⟨gw, k, none⟩ = some (.int .i64 q))
        (first | exact KK.out | exact HST.out _ hb8)
        (first | (go_at_call 16; refine CC.out.mono ?_; rintro e w8 ⟨rfl, hb8⟩))
      have HB8 := hid hb8
      have HK2 := HK.out
      clear hb8 KK HST CC
      go_wp2
      go_roundw
      case rel => exact ⟨k + 1, by go_num, by omega, HB8⟩
      case measure => simp [intOf]; omega
    · have hge : ¬ (k : Int) < 21 := by omega
      have HX := HBe
      have K := hid (e_call wr)
      go_wp2_with fail
      go_at_call 13
      refine K.out.mono ?_
      clear K
      rintro e X1 ⟨rfl, hX⟩
      replace HX := hid (HX.out.trans (hX.mono HX.out.size))
      obtain ⟨Y1, Y2, hY1, hY2, cY⟩ := f_lay X1
      have K := hid cY
      clear hX cY
      go_wp2_with fail
      go_at_call 13
      refine K.out.mono ?_
      clear K
      rintro e X2 ⟨rfl, hX⟩
      clear hY1 hY2
      replace HX := hid (HX.out.trans (hX.mono HX.out.size))
      obtain ⟨Y3, Y4, hY3, hY4, cY⟩ := a_lay X2
      have K := hid cY
      clear hX cY
      go_wp2_with fail
      go_at_call 21
      refine K.out.mono ?_
      clear K
      rintro e X3 ⟨rfl, hX⟩
      clear hY3 hY4
      replace HX := hid (HX.out.trans (hX.mono HX.out.size))
      have K := hid (C36.out X3)
      clear hX
      go_wp2_with fail
      go_at_call 36
      refine K.out.mono ?_
      clear K
      rintro e X4 ⟨g4, rfl, hCls, hX⟩
      replace HX := hid (HX.out.trans (hX.mono HX.out.size))
      obtain ⟨Y5, hY5, rY5, pY5, bY5⟩ := layL X4 _ [1] (SPs.nil X4) (by decide)
      replace hY5 : X4.alloc (.cells #[.int .i32 1] 40) = Y5 := hY5
      obtain ⟨Y6, hY6, rY6, pY6, bY6⟩ := layH Y5 _ [1, 2] pY5 (by decide)
      replace hY6 : Y5.alloc (.cells #[.int .i64 1, .int .i64 2] 2) = Y6 := hY6
      have HP := hid (pY6.cons (some ⟨X4.heap.size, 0, none⟩) 1 (some ⟨Y5.heap.size, 0, none⟩) 2 Ckr.wst1 (rY5.below bY6) rY6 (by decide))
      have HCl := hid ((hCls.below bY5).below bY6)
      replace HX := hid (HX.out.trans (bY5.mono HX.out.size))
      replace HX := hid (HX.out.trans (bY6.mono HX.out.size))
      have K := hid (C28.out 5 (some ⟨X4.heap.size, 0, none⟩) 1 1 (some ⟨Y5.heap.size, 0, none⟩) 2 2 Y6)
      clear hX hCls rY5 pY5 bY5 rY6 pY6 bY6
      go_wp2_with fail
      go_at_call 28
      refine K.out.mono ?_
      clear K
      rintro e X5 ⟨rfl, hX⟩
      clear hY5 hY6
      obtain ⟨Y7, hY7, rY7, pY7, bY7⟩ := layH X5 _ [5, 3, 3] (HP.out.below hX) (by decide)
      replace hY7 : X5.alloc (.cells #[.int .i64 5, .int .i64 3, .int .i64 3] 2) = Y7 := hY7
      replace HP := hid (pY7.cons none 0 (some ⟨X5.heap.size, 0, none⟩) 3 Ckr.kst2 (Row.nil _ _ _ _ _) rY7 (by decide))
      replace HCl := hid ((HCl.out.below hX).below bY7)
      replace HX := hid (HX.out.trans (hX.mono HX.out.size))
      replace HX := hid (HX.out.trans (bY7.mono HX.out.size))
      have K := hid (C28.out 6 none 0 0 (some ⟨X5.heap.size, 0, none⟩) 3 3 Y7)
      clear hX rY7 pY7 bY7
      go_wp2_with fail
      go_at_call 28
      refine K.out.mono ?_
      clear K
      rintro e X6 ⟨rfl, hX⟩
      clear hY7
      have hx := heap_alloc_new X6 (.cells #[.int .u8 1, .int .i64 5, .slice (some ⟨X4.heap.size, 0, none⟩) 1 1, .slice (some ⟨Y5.heap.size, 0, none⟩) 2 2, .int .u8 1, .int .i64 6, .slice none 0 0, .slice (some ⟨X5.heap.size, 0, none⟩) 3 3] 44)
      have hB := below_box X6 (.cells #[.int .u8 1, .int .i64 5, .slice (some ⟨X4.heap.size, 0, none⟩) 1 1, .slice (some ⟨Y5.heap.size, 0, none⟩) 2 2, .int .u8 1, .int .i64 6, .slice none 0 0, .slice (some ⟨X5.heap.size, 0, none⟩) 3 3] 44)
      generalize hY8 : X6.alloc (.cells #[.int .u8 1, .int .i64 5, .slice (some ⟨X4.heap.size, 0, none⟩) 1 1, .slice (some ⟨Y5.heap.size, 0, none⟩) 2 2, .int .u8 1, .int .i64 6, .slice none 0 0, .slice (some ⟨X5.heap.size, 0, none⟩) 3 3] 44) = Y8 at hx hB
      replace HX := hid (HX.out.trans (hX.mono HX.out.size))
      replace HX := hid (HX.out.trans (hB.mono HX.out.size))
      have K := hid (b_call Y8 g4 X6.heap.size ((HCl.out.below hX).below hB) _ _ _ ((HP.out.below hX).below hB) hx)
      clear hX hB hx HP HCl
      go_wp2_with fail
      go_at_call 21
      refine K.out.mono ?_
      clear K
      rintro e X7 ⟨rfl, hX⟩
      clear hY8
      replace HX := hid (HX.out.trans (hX.mono HX.out.size))
      have K := hid (C36.out X7)
      clear hX
      go_wp2_with fail
      go_at_call 36
      refine K.out.mono ?_
      clear K
      rintro e X8 ⟨g8, rfl, hCls, hX⟩
      replace HX := hid (HX.out.trans (hX.mono HX.out.size))
      have K := hid (d_call X8 g8 hCls)
      clear hX hCls
      go_wp2_with fail
      go_at_call 21
      refine K.out.mono ?_
      clear K
      rintro e X9 ⟨rfl, hX⟩
      replace HX := hid (HX.out.trans (hX.mono HX.out.size))
      have K := hid (C36.out X9)
      clear hX
      go_wp2_with fail
      go_at_call 36
      refine K.out.mono ?_
      clear K
      rintro e X10 ⟨g10, rfl, hCls, hX⟩
      replace HX := hid (HX.out.trans (hX.mono HX.out.size))
      have HN := hid HX.out.size
      have K := hid (new13 2 (some ⟨g10, 0, none⟩) 4 4 Ckr.four X10 rfl hCls (by decide))
      clear hX hCls
      go_wp2_with fail
      go_at_call 13
      refine K.out.mono ?_
      clear K
      rintro e X11 ⟨cb, bm, t0, r0, rfl, hC, hX⟩
      have hC2 : CkS X10.heap.size cb bm t0 r0 4 X11 (Ckr.new Ckr.four) := hC
      replace HX := hid (HX.out.trans (hX.mono HX.out.size))
      have K := hid (get3 hC2)
      clear hX hC hC2
      go_wp2_with fail
      go_at_call 37
      refine K.out.mono ?_
      clear K
      rintro e X12 ⟨gx, cx, rfl, hKc, hX⟩
      replace HX := hid (HX.out.trans (hX.mono HX.out.size))
      have HKc := hid hKc
      have K := hid (hKc.get9)
      clear hX hKc
      go_wp2_with fail
      go_at_call 37
      refine K.out.mono ?_
      clear K
      rintro e X13 ⟨a9, c9, rfl, hX⟩
      replace HX := hid (HX.out.trans (hX.mono HX.out.size))
      obtain ⟨Y9, hY9, bY9, cY⟩ := (HKc.out.below hX).del
      replace HX := hid (HX.out.trans (bY9.mono HX.out.size))
      have K := hid cY
      clear hX cY bY9 HKc
      go_wp2_with fail
      go_at_call 16
      refine K.out.mono ?_
      clear K
      rintro e X14 ⟨rfl, hKc, hX⟩
      clear hY9
      replace HX := hid (HX.out.trans (hX.mono HN.out))
      obtain ⟨Y10, Y11, hY10, hY11, bY, cY⟩ := hKc.two (by decide) 4 (by decide)
      replace HX := hid (HX.out.trans (bY.mono HX.out.size))
      rw [show (Ckr.stepP Ckr.ks1 ⟨1, 4, [1], [1, 2]⟩).1 = 62 from Ckr.kd2_e] at cY
      have HY := hid cY
      have K := hid (C28.out 4 (some ⟨X14.heap.size, 0, none⟩) 1 1 (some ⟨Y10.heap.size, 0, none⟩) 2 2 Y11)
      clear hX hKc cY bY
      go_wp2_with fail
      go_at_call 28
      refine K.out.mono ?_
      clear K
      rintro e X15 ⟨rfl, hX⟩
      clear hY10 hY11
      replace HX := hid (HX.out.trans (hX.mono HX.out.size))
      have K := hid (HY.out X15 hX)
      clear hX HY
      go_wp2_with fail
      go_at_call 16
      refine K.out.mono ?_
      clear K
      rintro e X16 ⟨rfl, hKc, hX⟩
      replace HX := hid (HX.out.trans (hX.mono HN.out))
      have hKd : Kc X10.heap.size cb bm 6 X16 Ckr.ks2 gx := hKc
      obtain ⟨Y12, Y13, hY12, hY13, bY, cY⟩ := hKd.two (by decide) 7 (by decide)
      replace HX := hid (HX.out.trans (bY.mono HX.out.size))
      rw [show (Ckr.stepP Ckr.ks2 ⟨1, 7, [1], [1, 2]⟩).1 = 0 from Ckr.kd3_e] at cY
      have HY := hid cY
      have K := hid (C28.out 7 (some ⟨X16.heap.size, 0, none⟩) 1 1 (some ⟨Y12.heap.size, 0, none⟩) 2 2 Y13)
      clear hX hKc hKd cY bY
      go_wp2_with fail
      go_at_call 28
      refine K.out.mono ?_
      clear K
      rintro e X17 ⟨rfl, hX⟩
      clear hY12 hY13
      replace HX := hid (HX.out.trans (hX.mono HX.out.size))
      have K := hid (HY.out X17 hX)
      clear hX HY
      go_wp2_with fail
      go_at_call 16
      refine K.out.mono ?_
      clear K
      rintro e X18 ⟨rfl, hKc, hX⟩
      replace HX := hid (HX.out.trans (hX.mono HN.out))
      have HKc : Hid (Kc X10.heap.size cb bm 7 X18 Ckr.ks3 gx) := hid hKc
      have K := hid (HKc.out.live (by decide))
      clear hX hKc
      go_wp2_with fail
      go_at_call 35
      refine K.out.mono ?_
      clear K
      rintro e X19 ⟨gl2, cl2, rfl, _, hX⟩
      replace HX := hid (HX.out.trans (hX.mono HX.out.size))
      replace HKc := hid (HKc.out.below hX)
      have K := hid (HKc.out.live (by decide))
      clear hX
      go_wp2_with fail
      go_at_call 35
      refine K.out.mono ?_
      clear K
      rintro e X20 ⟨gl3, cl3, rfl, hl3, hX⟩
      replace HX := hid (HX.out.trans (hX.mono HX.out.size))
      replace HKc := hid (HKc.out.below hX)
      have K := hid ((get_nil X20 1).mono (R' := fun e w' => e = .returned (.tuple #[.slice none 0 0, .bool false]) ∧ Below X20.heap.size X20 w') fun e w' q => ⟨q.1, by rw [q.2]; exact Below.refl _ _⟩)
      clear hX
      go_wp2_with fail
      go_at_call 37
      refine K.out.mono ?_
      clear K
      rintro e X21 ⟨rfl, hX⟩
      replace HX := hid (HX.out.trans (hX.mono HX.out.size))
      replace HKc := hid (HKc.out.below hX)
      obtain ⟨Y14, hY14, rY, pY, bY⟩ := layL X21 _ [-1, 2] (SPs.nil X21) (by decide)
      replace hY14 : X21.alloc (.cells #[.int .i32 (-1), .int .i32 2] 40) = Y14 := hY14
      replace HX := hid (HX.out.trans (bY.mono HX.out.size))
      have q15 := row15 (some ⟨gx, 0, none⟩) (some ⟨X21.heap.size, 0, none⟩) 2 cx 2 2 [-1, 2] [-1, 2] Y14 rfl rfl (by decide) (HKc.out.below bY).row rY
      rw [show decide (([-1, 2] : List Int) = [-1, 2]) = true from rfl] at q15
      have K := hid q15
      clear hX rY pY bY q15 HKc
      go_wp2_with fail
      go_at_call 15
      refine K.out.mono ?_
      clear K
      rintro e X22 ⟨rfl, hX⟩
      clear hY14
      replace HX := hid (hX.below HX.out)
      have h0l : 0 < Ckr.kl.length := by decide
      obtain ⟨b, off, a1, c1, a2, c2, rfl, hst, hcap⟩ := HS.out.at h0l
      have hst2 := hst.below HX.out
      have K := hid ((step_nil Ckr.kl[0] a1 c1 a2 c2 X22))
      unfold sval at K
      generalize Ckr.kl[0] = s at *
      have e0 : X22.cell? ⟨b, off, none⟩ = some (.int .u8 s.kind) := by simpa using hst2.k
      have e1 : X22.cell? ⟨b, off + 1, none⟩ = some (.int .i64 s.id) := by simpa using hst2.i
      have e2 : X22.cell? ⟨b, off + 2, none⟩ = some (.slice a1 s.lits.length c1) := by simpa using hst2.l
      have e3 : X22.cell? ⟨b, off + 3, none⟩ = some (.slice a2 s.hints.length c2) := by simpa using hst2.h
      generalize s.lits.length = n1 at *
      generalize s.hints.length = n2 at *
      generalize s.kind = kd at *
      generalize s.id = sid at *
      clear hX hst hst2 hcap HS
      go_wp2_with fail
      go_at_call 16
      refine K.out.mono ?_
      clear K
      rintro e X23 ⟨rfl, hX⟩
      clear e0 e1 e2 e3
      replace HX := hid (HX.out.trans (hX.mono HX.out.size))
      have K := hid ((done_nil X23).mono (R' := fun e w' => e = .returned (.bool false) ∧ Below X23.heap.size X23 w') fun e w' q => ⟨q.1, by rw [q.2]; exact Below.refl _ _⟩)
      clear hX
      go_wp2_with fail
      go_at_call 27
      refine K.out.mono ?_
      clear K
      rintro e X24 ⟨rfl, hX⟩
      replace HX := hid (HX.out.trans (hX.mono HX.out.size))
      have K := hid ((live_nil X24).mono (R' := fun e w' => e = .returned (.slice none 0 0) ∧ Below X24.heap.size X24 w') fun e w' q => ⟨q.1, by rw [q.2]; exact Below.refl _ _⟩)
      clear hX
      go_wp2_with fail
      go_at_call 35
      refine K.out.mono ?_
      clear K
      rintro e X25 ⟨rfl, hX⟩
      replace HX := hid (HX.out.trans (hX.mono HX.out.size))
      have K := hid (C10.out X25)
      clear hX
      go_wp2_with fail
      go_at_call 10
      refine K.out.mono ?_
      clear K
      rintro e X26 ⟨rfl, hX⟩
      replace HX := hid (HX.out.trans (hX.mono HX.out.size))
      have OUT := hid (HW0.out.trans (HX.out.mono HW0.out.size))
      clear hX
      go_wp2_with fail
      go_ret
      exact ⟨rfl, OUT.out⟩

end Go.Proofs.Ytjjanmgeogjngaa

/- The examples of the chapter, nil checkers, and what bounds ask: CheckKnown tells true. -/
namespace Go.Proofs.Ytjjanmgeogjngaa.checkKnown
open Go.ChangeShapes Go.WideShapes Go.ChangeAt Go.ChangeMaps Go.RowKit Go.Joins
set_option linter.unusedVariables false

set_option maxRecDepth 100000 in
theorem lifted (os : Os) (started : os.Started) (H : Type) (enc : TypeId × Value → H) :
    ReturnsInHanded {} Try.checked os 8 .any (Rows.checkKnownSpec.pre6 enc Try.prog Try.f8 Rows.checkKnownRow.domain false) (Rows.checkKnownSpec.post enc Try.prog Try.f8 false true false false) := by
  refine returnsInHanded_of_change_sized (C := Try.checked) own started (by kernel_rfl) Try.func8
    (ChangeSpec.witness6 (enc := enc) (C := Try.checked) false ⟨#[], #[], []⟩ 8 (by kernel_rfl) (by kernel_rfl) (by kernel_rfl) (by kernel_rfl)) ?_
  intro W base args ds gs before hval0 hW hcnd0 hsz0 hholds
  have hval : ∀ (j : Nat) t v, Try.f8.params[j]? = some t → args[j]? = some v → Value.okWide Try.prog W .any base t v := hval0
  have hW' := hW
  obtain ⟨p, q, hA0, hV, rfl, hfz, hnd⟩ := hW
  have hA : DataW.TrodAll enc Try.prog W 0 (fun _ => true) true Try.f8.params.toList args.toList ds p := hA0
  rw [Try.params8] at hA hval
  obtain ⟨hargs, rfl, rfl⟩ := trodAll_nil hA
  obtain rfl : args = #[] := by cases args; simp_all
  obtain ⟨rfl, rfl⟩ := trodVars_none hV
  clear hA0 hval0
  refine (law8 W).mono fun e W' ⟨he, bel⟩ => ?_
  subst he
  exact ⟨_, rfl, _, _, _, [], _, [], hW', trodAll_mk1 (shut_bool Try.underlying4 _), trodAll_mk0, rfl, bel.frame _, fun h => by cases h⟩

theorem over : Rows.checkKnownRow.holds Try.pinned (OpenSpec.ofChange Rows.checkKnownSpec) :=
  OpenClaim.holds_of_wide 8 Try.f8 rfl rfl rfl rfl rfl rfl rfl ⟨rfl, rfl, rfl, rfl, rfl⟩ rfl rfl rfl rfl rfl (by kernel_rfl) Try.func8 (by kernel_rfl)
    (of_decide_eq_true (by kernel_rfl)) (by unfold Func.isWrapper; first | (rw [if_pos (by decide +kernel)]; kernel_rfl) | (rw [if_neg (by decide +kernel)]; exact ⟨rfl, rfl⟩))
    (fun os started H enc _ => lifted os started H enc)

end Go.Proofs.Ytjjanmgeogjngaa.checkKnown
namespace Go.Proofs.Ytjjanmgeogjngaa
open Go

/-- The given statement. -/
theorem checkKnown_holds : Rows.CheckKnownSaid := checkKnown.over
end Go.Proofs.Ytjjanmgeogjngaa

