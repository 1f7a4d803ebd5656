/- Steps of a proof, plain and in memory; small laws. -/
import Derived.Test.YtjjanmgeogjngaaProg
import Derived.WalkKit
import Derived.Deep.QuietTactic
import Derived.BigQuiet
import Derived.Below
import Derived.OwnWalk
import Derived.Laws.AppendOwn
import Derived.Maps.AppendAt
import Derived.Laws.Strings
import Derived.Deep.RegionHeld3
/- Steps of a proof, plain and in memory; small laws. -/
namespace Lra
/-- A step: its kind, its id, its literals, its hints. -/
structure Stp where
  kind : Int
  id : Int
  lits : List Int
  hints : List Int
deriving DecidableEq
def maxID : Int := 4611686018427387903
def added (n : Int) : Bool := decide (1 ≤ n) && decide (n ≤ 4611686018427387903)
def known (n : Int) : Bool := decide (0 ≤ n) && decide (n ≤ 4611686018427387903)
def literal (n : Int) : Bool := n != 0 && (decide (-1048576 ≤ n) && decide (n ≤ 1048576))
def hint (n : Int) : Bool := n != 0 && (decide (-4611686018427387903 ≤ n) && decide (n ≤ 4611686018427387903))
def may (s : Stp) : Bool :=
  if s.kind = 1 then added s.id && (s.lits.all literal && s.hints.all hint)
  else if s.kind = 2 then known s.id && (s.lits.isEmpty && s.hints.all added)
  else false
def items (ss : List Stp) : Nat := (ss.map (fun s => s.lits.length + s.hints.length)).sum
theorem getD_mem (xs : List Int) (k : Nat) (h : k < xs.length) : xs.getD k 0 ∈ xs := by simp [List.getD, List.getElem?_eq_getElem h]
theorem take_snoc (xs : List Int) (k : Nat) (h : k < xs.length) : xs.take (k + 1) = xs.take k ++ [xs.getD k 0] := by
  rw [List.take_succ_eq_append_getElem h]; simp [List.getD, List.getElem?_eq_getElem h]
theorem all_take (p : Int → Bool) (xs : List Int) (k : Nat) (h : k < xs.length) (h1 : (xs.take k).all p = true) (h2 : p (xs.getD k 0) = true) : (xs.take (k + 1)).all p = true := by
  rw [take_snoc xs k h, List.all_append, h1]
  simpa using h2
theorem all_false (p : Int → Bool) (xs : List Int) (k : Nat) (h : k < xs.length) (h2 : p (xs.getD k 0) = false) : xs.all p = false := by
  cases e : xs.all p
  · rfl
  · have := List.all_eq_true.1 e _ (getD_mem xs k h)
    rw [h2] at this
    cases this
end Lra
namespace Go.Proofs.Ytjjanmgeogjngaa
open Go.RowKit
set_option linter.unusedVariables false

theorem hid {p : Prop} (h : p) : Hid p := h
theorem heap_set_row {W : World} {b k : Nat} {cs : Array Value} {t : TypeId} {fr : Nat × Nat} (h : W.heap[b]? = some (.cells cs t fr)) (v : Value) : (W.setCell ⟨b, k, none⟩ v).heap[b]? = some (.cells (cs.setIfInBounds k v) t fr) := by
  simp [World.setCell, Array.getElem?_modify, h]
theorem row_cell {W : World} {b : Nat} {cs : Array Value} {t : TypeId} {fr : Nat × Nat} (h : W.heap[b]? = some (.cells cs t fr)) (k : Nat) : W.cell? ⟨b, k, none⟩ = cs[k]? := by
  simp [World.cell?, h]
theorem row_frozen {W : World} {b : Nat} {cs : Array Value} {t : TypeId} (h : W.heap[b]? = some (.cells cs t (0, 0))) (k : Nat) : W.frozen? ⟨b, k, none⟩ = false := by
  simp [World.frozen?, h]
theorem heap_other (W : World) {b k x : Nat} (u : Value) (hne : x ≠ b) : (W.setCell ⟨b, k, none⟩ u).heap[x]? = W.heap[x]? := Below.heap_setCell W ⟨b, k, none⟩ u x hne
theorem below_box (w : World) (o : Obj) : Below w.heap.size w (w.alloc o) := (Below.refl _ _).alloc (Nat.le_refl _) o
theorem box_below (w : World) (o : Obj) {w' : World} (h : Below (w.alloc o).heap.size (w.alloc o) w') : Below w.heap.size w w' := (below_box w o).trans (h.mono (by simp))
theorem own_slc {W : World} {base n e size : Nat} {v : Value} {xs : List Value} (h : W.ownsRow base e size v n xs) : ∃ o c, v = .slice o n c := by
  rcases h.2 with ⟨e1, h0⟩ | ⟨g, c, cur, e1, _⟩
  · exact ⟨none, 0, by rw [e1, h0]⟩
  · exact ⟨_, _, e1⟩
theorem own_below {W W' : World} {base e size : Nat} {v : Value} {n : Nat} {xs : List Value} (h : W.ownsRow base e size v n xs) (hb : Below W.heap.size W W') : W'.ownsRow base e size v n xs := by
  refine ⟨h.1, h.2.imp id ?_⟩
  rintro ⟨g, c, cur, e1, h1, h2, h3⟩
  exact ⟨g, c, cur, e1, h1, (hb.block g (Array.getElem?_eq_some_iff.1 h2).1).trans h2, h3⟩
theorem own_base {W : World} {base base' e size : Nat} {v : Value} {n : Nat} {xs : List Value} (h : W.ownsRow base e size v n xs) (hb : base' ≤ base) : W.ownsRow base' e size v n xs := by
  refine ⟨h.1, h.2.imp id ?_⟩
  rintro ⟨g, c, cur, e1, h1, h2⟩
  exact ⟨g, c, cur, e1, by omega, h2⟩
theorem own_set {W : World} {base b k e size : Nat} {v : Value} {n : Nat} {xs : List Value} (h : W.ownsRow base e size v n xs) (hb : b < base) (u : Value) : (W.setCell ⟨b, k, none⟩ u).ownsRow base e size v n xs := by
  refine ⟨h.1, h.2.imp id ?_⟩
  rintro ⟨g, c, cur, e1, h1, h2, h3⟩
  exact ⟨g, c, cur, e1, h1, (heap_other W u (by omega)).trans h2, h3⟩
theorem cell_lt {W : World} {b i : Nat} {v : Value} (h : W.cell? ⟨b, i, none⟩ = some v) : b < W.heap.size := by
  rcases Nat.lt_or_ge b W.heap.size with h' | h'
  · exact h'
  · have hn : W.heap[b]? = none := Array.getElem?_eq_none h'
    simp [World.cell?, hn] at h
theorem wpList_append_run {P : Program} {w w' : World} {ops : Array Oper} {rest : List Oper} {o : Oper} {a : Act} {Q : Exit → Act → World → Prop} (hgd : o.guard = none) (s x : Operand) (t u : TypeId)
    (ho : o.op = .call { callee := .builtin .append, args := #[s, x], argTypes := #[t, u] }) {v xv v' : Value} (hs : a.eval s = v) (hx : a.eval x = xv)
    (hrun : (Builtin.append_ #[t, u] o.type #[v, xv]).run P w = .ok v' w') (h : wpList P ops Q rest (a.put o.dst v') w') : wpList P ops Q (o :: rest) a w := by
  refine wpList_plain hgd fun K hK => ?_
  unfold Oper.wp
  simp [execOp, ho, resolve, invoke, builtin, hs, hx, hrun, Result.andThen]
  exact hK _ _ h

/-- A row of numbers of a kind. -/
def Row (k : IntKind) (lo hi : Int) (W : World) (a : Option Addr) (xs : List Int) : Prop :=
  (∀ x ∈ xs, lo ≤ x ∧ x ≤ hi) ∧ (xs = [] ∨ ∃ b off, a = some ⟨b, off, none⟩ ∧ b < W.heap.size ∧ ∀ j, j < xs.length → W.cell? ⟨b, off + j, none⟩ = some (.int k (xs.getD j 0)))
abbrev Lits := Row .i32 (-2147483648) 2147483647
abbrev Hnts := Row .i64 (-9223372036854775808) 9223372036854775807
theorem Row.below {k : IntKind} {lo hi : Int} {w w' : World} {a : Option Addr} {xs : List Int} (h : Row k lo hi w a xs) (hb : Below w.heap.size w w') : Row k lo hi w' a xs := by
  refine ⟨h.1, ?_⟩
  rcases h.2 with h | ⟨b, off, e, hl, hc⟩
  · exact .inl h
  · exact .inr ⟨b, off, e, Nat.lt_of_lt_of_le hl hb.size, fun j hj => (hb.cell (p := ⟨b, off + j, none⟩) hl).trans (hc j hj)⟩
theorem Row.nil (k : IntKind) (lo hi : Int) (W : World) (a : Option Addr) : Row k lo hi W a [] := ⟨(fun x h => by cases h), .inl rfl⟩
theorem Row.at {k : IntKind} {lo hi : Int} {w : World} {a : Option Addr} {xs : List Int} (h : Row k lo hi w a xs) {j : Nat} (hj : j < xs.length) :
    ∃ b off, a = some ⟨b, off, none⟩ ∧ b < w.heap.size ∧ w.cell? ⟨b, off + j, none⟩ = some (.int k (xs.getD j 0)) ∧ lo ≤ xs.getD j 0 ∧ xs.getD j 0 ≤ hi := by
  rcases h.2 with h' | ⟨b, off, e, hl, hc⟩
  · rw [h'] at hj; simp at hj
  · exact ⟨b, off, e, hl, hc j hj, h.1 _ (Lra.getD_mem xs j hj)⟩
theorem Row.shape {k : IntKind} {lo hi : Int} {w : World} {a : Option Addr} {xs : List Int} (h : Row k lo hi w a xs) : xs.length = 0 ∨ ∃ b off, a = some ⟨b, off, none⟩ := by
  rcases h.2 with h' | ⟨b, off, e, _⟩
  · left; rw [h']; rfl
  · exact .inr ⟨b, off, e⟩

end Go.Proofs.Ytjjanmgeogjngaa

/- May a step be, by the program and by the document. -/
namespace Go.Proofs.Ytjjanmgeogjngaa
open Go.RowKit
set_option linter.unusedVariables false

/-- What a step's value leads to. -/
structure StpV (W : World) (a1 a2 : Option Addr) (s : Lra.Stp) : Prop where
  l : Lits W a1 s.lits
  h : Hnts W a2 s.hints
  k : 0 ≤ s.kind ∧ s.kind < 256
  i : -9223372036854775808 ≤ s.id ∧ s.id ≤ 9223372036854775807
  n : s.lits.length ≤ 35184372088832 ∧ s.hints.length ≤ 35184372088832
theorem StpV.below {W W' : World} {a1 a2 : Option Addr} {s : Lra.Stp} (h : StpV W a1 a2 s) (hb : Below W.heap.size W W') : StpV W' a1 a2 s := ⟨h.l.below hb, h.h.below hb, h.k, h.i, h.n⟩
/-- A step's value. -/
def sval (s : Lra.Stp) (a1 : Option Addr) (c1 : Nat) (a2 : Option Addr) (c2 : Nat) : Value := .agg #[.int .u8 s.kind, .int .i64 s.id, .slice a1 s.lits.length c1, .slice a2 s.hints.length c2]

end Go.Proofs.Ytjjanmgeogjngaa

/- May a step be, by the document's own function. -/
namespace Go.Proofs.Ytjjanmgeogjngaa
open Go.RowKit
set_option linter.unusedVariables false

set_option maxHeartbeats 1000000 in
theorem lit37 (n : Int) (w : World) : Calls Try.prog 62 #[.int .i32 n] w fun e w' => e = .returned (.bool (Lra.literal n)) ∧ w' = w := by
  go_enter Try.func62, Try.ntmps62
  go_wp2
  all_goals go_ret
  all_goals exact ⟨by simp_all [Lra.literal] <;> omega, rfl⟩

theorem hint_cases (x : Int) : (Lra.hint x = false ∧ (x == 0) = true) ∨ (Lra.hint x = false ∧ 4611686018427387903 < x) ∨ (Lra.hint x = false ∧ (x == 0) = false ∧ x < -4611686018427387903) ∨ (Lra.hint x = true ∧ (x == 0) = false ∧ ¬ 4611686018427387903 < x ∧ ¬ x < -4611686018427387903) := by
  unfold Lra.hint
  by_cases h0 : x = 0
  · left; simp [h0]
  · by_cases h1 : 4611686018427387903 < x
    · right; left; refine ⟨?_, h1⟩; simp; intro _ _; omega
    · by_cases h2 : x < -4611686018427387903
      · right; right; left; refine ⟨?_, by simpa using h0, h2⟩; simp; intro _ h; omega
      · right; right; right; refine ⟨?_, by simpa using h0, h1, h2⟩; simp [h0]; omega

set_option maxRecDepth 100000 in
set_option maxHeartbeats 4000000 in
theorem may24_add (id : Int) (lits hints : List Int) (a1 : Option Addr) (n1 c1 : Nat) (a2 : Option Addr) (n2 c2 : Nat) (w W1 : World) (hn1 : lits.length = n1) (hn2 : hints.length = n2)
    (hW : w.alloc (.cells #[.int .u8 1, .int .i64 id, .slice a1 n1 c1, .slice a2 n2 c2] 44) = W1) (h1 : Lits W1 a1 lits) (h2 : Hnts W1 a2 hints) (b1 : n1 ≤ 35184372088832) (b2 : n2 ≤ 35184372088832) (hok : Lra.added id = true) :
    Calls Try.prog 46 #[.agg #[.int .u8 1, .int .i64 id, .slice a1 n1 c1, .slice a2 n2 c2]] w fun e w' => e = .returned (.bool (lits.all Lra.literal && hints.all Lra.hint)) ∧ w' = W1 := by
  have hx := heap_alloc_new w (.cells #[.int .u8 1, .int .i64 id, .slice a1 n1 c1, .slice a2 n2 c2] 44)
  rw [hW] at hx
  have x0 := row_cell hx 0
  have x1 := row_cell hx 1
  have x2 := row_cell hx 2
  have x3 := row_cell hx 3
  simp only [List.getElem?_toArray, List.getElem?_cons_zero, List.getElem?_cons_succ] at x0 x1 x2 x3
  have k1 : ¬ id < 1 := by unfold Lra.added at hok; simp at hok; omega
  have k2 : ¬ 4611686018427387903 < id := by unfold Lra.added at hok; simp at hok; omega
  clear hx hok
  have H1 := hid h1
  have H2 := hid h2
  have N1 := hid hn1
  have N2 := hid hn2
  have sh1 := h1.shape
  have sh2 := h2.shape
  rw [hn1] at sh1
  rw [hn2] at sh2
  clear h1 h2 hn1 hn2
  obtain ⟨r1, hr1⟩ : ∃ r1, lits.all Lra.literal = r1 := ⟨_, rfl⟩
  obtain ⟨r2, hr2⟩ : ∃ r2, hints.all Lra.hint = r2 := ⟨_, rfl⟩
  have R1 := hid hr1
  have R2 := hid hr2
  rw [hr1, hr2]
  clear hr1 hr2
  have sh3 : Hid (n1 = 0) ∨ ∃ b off, a1 = some ⟨b, off, none⟩ := sh1
  have sh4 : Hid (n2 = 0) ∨ ∃ b off, a2 = some ⟨b, off, none⟩ := sh2
  clear sh1 sh2
  rcases sh3 with Z1 | ⟨g1, o1, rfl⟩ <;> rcases sh4 with Z2 | ⟨g2, o2, rfl⟩
  all_goals
    go_enter Try.func46, Try.ntmps46
    go_wp2
    go_loop [4] (fun i => ∃ k : Nat, i = .int .i64 k ∧ k ≤ n1 ∧ Hid ((lits.take k).all Lra.literal = true)) (fun i => n1 - (intOf i).toNat)
    case atStart => exact ⟨0, rfl, by omega, hid (by simp)⟩
    case round =>
      obtain ⟨k, rfl, hk, HI⟩ := hrel
      by_cases hlt : k < n1
      · have hlt' : (k : Int) < n1 := by omega
        first
        | (exfalso; have := Z1.out; omega)
        | (obtain ⟨b', off', e, _, hc, h1, h2⟩ := H1.out.at (j := k) (by rw [N1.out]; exact hlt)
           cases e
           have HT := hid (fun h => Lra.all_take Lra.literal lits k (by rw [N1.out]; exact hlt) HI.out h)
           have HZ := hid (fun h => Lra.all_false Lra.literal lits k (by rw [N1.out]; exact hlt) h)
           generalize lits.getD k 0 = x at hc h1 h2 HT HZ
           have C := hid (lit37 x W1)
           cases hp : Lra.literal x
           · have HRF := hid (show r1 = false by rw [← R1.out]; exact HZ.out hp)
             rw [hp] at C
             clear HT HZ hp
             go_wp2_with (go_at_call 62; refine C.out.mono ?_; clear C; rintro e W ⟨rfl, rfl⟩)
             go_ret
             exact ⟨by rw [HRF.out]; rfl, rfl⟩
           · have HK := hid (HT.out hp)
             rw [hp] at C
             clear HT HZ hp
             go_wp2_with (go_at_call 62; refine C.out.mono ?_; clear C; rintro e W ⟨rfl, rfl⟩)
             go_round
             case rel => exact ⟨k + 1, by go_num, by omega, HK⟩
             case measure => simp [intOf]; omega)
      · have hlt' : ¬ (k : Int) < n1 := by omega
        have HR1 := hid (show r1 = true by
          rw [← R1.out]
          have := HI.out
          rwa [List.take_of_length_le (by rw [N1.out]; omega)] at this)
        go_wp2
        go_loop [5] (fun i => ∃ q : Nat, i = .int .i64 q ∧ q ≤ n2 ∧ Hid ((hints.take q).all Lra.hint = true)) (fun i => n2 - (intOf i).toNat)
        case atStart => exact ⟨0, rfl, by omega, hid (by simp)⟩
        case round =>
          obtain ⟨q, rfl, hq, HJ⟩ := hrel
          by_cases hl2 : q < n2
          · have hl2' : (q : Int) < n2 := by omega
            first
            | (exfalso; have := Z2.out; omega)
            | (obtain ⟨b', off', e, _, hc, h1, h2⟩ := H2.out.at (j := q) (by rw [N2.out]; exact hl2)
               cases e
               have HT := hid (fun h => Lra.all_take Lra.hint hints q (by rw [N2.out]; exact hl2) HJ.out h)
               have HZ := hid (fun h => Lra.all_false Lra.hint hints q (by rw [N2.out]; exact hl2) h)
               generalize hints.getD q 0 = x at hc h1 h2 HT HZ
               have hcases := hint_cases x
               rcases hcases with ⟨t0, t1⟩ | ⟨t0, t1⟩ | ⟨t0, t1, t2⟩ | ⟨t0, t1, t2, t3⟩
               · have HRF := hid (show r2 = false by rw [← R2.out]; exact HZ.out t0)
                 clear HT HZ t0
                 go_wp2
                 go_ret
                 exact ⟨by rw [HRF.out, Bool.and_false]; rfl, rfl⟩
               · have HRF := hid (show r2 = false by rw [← R2.out]; exact HZ.out t0)
                 clear HT HZ t0
                 go_wp2
                 go_ret
                 exact ⟨by rw [HRF.out, Bool.and_false]; rfl, rfl⟩
               · have HRF := hid (show r2 = false by rw [← R2.out]; exact HZ.out t0)
                 clear HT HZ t0
                 go_wp2
                 go_ret
                 exact ⟨by rw [HRF.out, Bool.and_false]; rfl, rfl⟩
               · have HK := hid (HT.out t0)
                 clear HT HZ t0
                 go_wp2
                 all_goals
                   go_round
                   case rel => exact ⟨q + 1, by go_num, by omega, HK⟩
                   case measure => simp [intOf]; omega)
          · have hl2' : ¬ (q : Int) < n2 := by omega
            have HR2 := hid (show r2 = true by
              rw [← R2.out]
              have := HJ.out
              rwa [List.take_of_length_le (by rw [N2.out]; omega)] at this)
            go_wp2
            go_ret
            exact ⟨by rw [HR1.out, HR2.out]; rfl, rfl⟩
theorem added_cases (x : Int) : (Lra.added x = false ∧ (x == 0) = true) ∨ (Lra.added x = false ∧ 4611686018427387903 < x) ∨ (Lra.added x = false ∧ (x == 0) = false ∧ x < -4611686018427387903) ∨ (Lra.added x = false ∧ (x == 0) = false ∧ ¬ 4611686018427387903 < x ∧ ¬ x < -4611686018427387903 ∧ x < 0) ∨ (Lra.added x = true ∧ ¬ 4611686018427387903 < x ∧ ¬ x < 0 ∧ (x == 0) = false) := by
  unfold Lra.added
  by_cases h0 : x = 0
  · left; simp [h0]
  · by_cases h1 : 4611686018427387903 < x
    · right; left; refine ⟨?_, h1⟩; simp; intro _; omega
    · by_cases h2 : x < -4611686018427387903
      · right; right; left; refine ⟨?_, by simpa using h0, h2⟩; simp; intro _; omega
      · by_cases h3 : x < 0
        · right; right; right; left; refine ⟨?_, by simpa using h0, h1, h2, h3⟩; simp; intro _; omega
        · right; right; right; right; refine ⟨?_, h1, h3, by simpa using h0⟩; simp; omega

set_option maxRecDepth 100000 in
set_option maxHeartbeats 4000000 in
theorem may24_del (id : Int) (lits hints : List Int) (a1 : Option Addr) (n1 c1 : Nat) (a2 : Option Addr) (n2 c2 : Nat) (w W1 : World) (hn1 : lits.length = n1) (hn2 : hints.length = n2)
    (hW : w.alloc (.cells #[.int .u8 2, .int .i64 id, .slice a1 n1 c1, .slice a2 n2 c2] 44) = W1) (h1 : Lits W1 a1 lits) (h2 : Hnts W1 a2 hints) (b1 : n1 ≤ 35184372088832) (b2 : n2 ≤ 35184372088832) (hok : Lra.known id = true) (hz : n1 = 0) :
    Calls Try.prog 46 #[.agg #[.int .u8 2, .int .i64 id, .slice a1 n1 c1, .slice a2 n2 c2]] w fun e w' => e = .returned (.bool (hints.all Lra.added)) ∧ w' = W1 := by
  have hx := heap_alloc_new w (.cells #[.int .u8 2, .int .i64 id, .slice a1 n1 c1, .slice a2 n2 c2] 44)
  rw [hW] at hx
  have x0 := row_cell hx 0
  have x1 := row_cell hx 1
  have x2 := row_cell hx 2
  have x3 := row_cell hx 3
  simp only [List.getElem?_toArray, List.getElem?_cons_zero, List.getElem?_cons_succ] at x0 x1 x2 x3
  have k1 : ¬ id < 0 := by unfold Lra.known at hok; simp at hok; omega
  subst hz
  have k2 : ¬ 4611686018427387903 < id := by unfold Lra.known at hok; simp at hok; omega
  clear hx hok
  have H1 := hid h1
  have H2 := hid h2
  have N1 := hid hn1
  have N2 := hid hn2
  have sh1 := h1.shape
  have sh2 := h2.shape
  rw [hn1] at sh1
  rw [hn2] at sh2
  clear h1 h2 hn1 hn2
  obtain ⟨r2, hr2⟩ : ∃ r2, hints.all Lra.added = r2 := ⟨_, rfl⟩
  have R2 := hid hr2
  rw [hr2]
  clear hr2 sh1
  have sh4 : Hid (n2 = 0) ∨ ∃ b off, a2 = some ⟨b, off, none⟩ := sh2
  clear sh2
  rcases sh4 with Z2 | ⟨g2, o2, rfl⟩
  all_goals
    go_enter Try.func46, Try.ntmps46
    go_wp2
    go_loop [4] (fun i => i = .int .i64 0) (fun _ => 0)
    case atStart => rfl
    case round =>
        subst hrel
        go_wp2
        go_loop [5] (fun i => ∃ q : Nat, i = .int .i64 q ∧ q ≤ n2 ∧ Hid ((hints.take q).all Lra.added = true)) (fun i => n2 - (intOf i).toNat)
        case atStart => exact ⟨0, rfl, by omega, hid (by simp)⟩
        case round =>
          obtain ⟨q, rfl, hq, HJ⟩ := hrel
          by_cases hl2 : q < n2
          · have hl2' : (q : Int) < n2 := by omega
            first
            | (exfalso; have := Z2.out; omega)
            | (obtain ⟨b', off', e, _, hc, h1, h2⟩ := H2.out.at (j := q) (by rw [N2.out]; exact hl2)
               cases e
               have HT := hid (fun h => Lra.all_take Lra.added hints q (by rw [N2.out]; exact hl2) HJ.out h)
               have HZ := hid (fun h => Lra.all_false Lra.added hints q (by rw [N2.out]; exact hl2) h)
               generalize hints.getD q 0 = x at hc h1 h2 HT HZ
               have hcases := added_cases x
               rcases hcases with ⟨t0, t1⟩ | ⟨t0, t1⟩ | ⟨t0, t1, t2⟩ | ⟨t0, t1, t2, t3, t4⟩ | ⟨t0, t1, t2, t3⟩
               · have HRF := hid (show r2 = false by rw [← R2.out]; exact HZ.out t0)
                 clear HT HZ t0
                 go_wp2
                 go_ret
                 exact ⟨by rw [HRF.out]; rfl, rfl⟩
               · have HRF := hid (show r2 = false by rw [← R2.out]; exact HZ.out t0)
                 clear HT HZ t0
                 go_wp2
                 go_ret
                 exact ⟨by rw [HRF.out]; rfl, rfl⟩
               · have HRF := hid (show r2 = false by rw [← R2.out]; exact HZ.out t0)
                 clear HT HZ t0
                 go_wp2
                 go_ret
                 exact ⟨by rw [HRF.out]; rfl, rfl⟩
               · have HRF := hid (show r2 = false by rw [← R2.out]; exact HZ.out t0)
                 clear HT HZ t0
                 go_wp2
                 go_ret
                 exact ⟨by rw [HRF.out]; rfl, rfl⟩
               · have HK := hid (HT.out t0)
                 clear HT HZ t0
                 go_wp2
                 all_goals
                   go_round
                   case rel => exact ⟨q + 1, by go_num, by omega, HK⟩
                   case measure => simp [intOf]; omega)
          · have hl2' : ¬ (q : Int) < n2 := by omega
            have HR2 := hid (show r2 = true by
              rw [← R2.out]
              have := HJ.out
              rwa [List.take_of_length_le (by rw [N2.out]; omega)] at this)
            go_wp2
            go_ret
            exact ⟨by rw [HR2.out]; rfl, rfl⟩

set_option maxRecDepth 100000 in
set_option maxHeartbeats 4000000 in
theorem may21 (s : Lra.Stp) (a1 : Option Addr) (c1 : Nat) (a2 : Option Addr) (c2 : Nat) (w : World) (hs : StpV w a1 a2 s) :
    Calls Try.prog 46 #[sval s a1 c1 a2 c2] w fun e w' => e = .returned (.bool (Lra.may s)) ∧ Below w.heap.size w w' := by
  obtain ⟨kind, id, lits, hints⟩ := s
  obtain ⟨h1, h2, h3, h4, h5⟩ := hs
  simp only at h1 h2 h3 h4 h5
  unfold sval Lra.may
  simp only
  have hB := below_box w (.cells #[.int .u8 kind, .int .i64 id, .slice a1 lits.length c1, .slice a2 hints.length c2] 44)
  have HB := hid hB
  by_cases k1 : kind = 1
  · rw [if_pos k1]
    subst k1
    cases hok : Lra.added id
    · have hid' : id < 1 ∨ (¬ id < 1 ∧ 4611686018427387903 < id) := by unfold Lra.added at hok; simp at hok; omega
      clear h1 h2 h3 h4 h5 hB hok
      generalize lits.length = n1 at HB ⊢
      generalize hints.length = n2 at HB ⊢
      rcases hid' with q | ⟨q1, q2⟩
      all_goals
        go_enter Try.func46, Try.ntmps46
        go_wp2
        go_ret
        exact ⟨rfl, HB.out⟩
    · refine (may24_add id lits hints a1 lits.length c1 a2 hints.length c2 w _ rfl rfl rfl (h1.below hB) (h2.below hB) h5.1 h5.2 hok).mono ?_
      rintro e w' ⟨rfl, rfl⟩
      exact ⟨rfl, hB⟩
  by_cases k2 : kind = 2
  · rw [if_neg k1, if_pos k2]
    subst k2
    by_cases hl : lits.length = 0
    · have hl' : lits = [] := List.eq_nil_of_length_eq_zero hl
      subst hl'
      cases hok : Lra.known id
      · have hid' : id < 0 ∨ (¬ id < 0 ∧ 4611686018427387903 < id) := by unfold Lra.known at hok; simp at hok; omega
        clear h1 h2 h3 h4 h5 hB hok k1 hl
        simp only [List.length_nil] at HB ⊢
        generalize hints.length = n2 at HB ⊢
        rcases hid' with q | ⟨q1, q2⟩
        all_goals
          go_enter Try.func46, Try.ntmps46
          go_wp2
          go_ret
          exact ⟨rfl, HB.out⟩
      · refine (may24_del id [] hints a1 0 c1 a2 hints.length c2 w _ rfl rfl rfl (h1.below hB) (h2.below hB) (by omega) h5.2 hok rfl).mono ?_
        rintro e w' ⟨rfl, rfl⟩
        exact ⟨by simp, hB⟩
    · have hp : (0 : Int) < lits.length := by omega
      have he : lits.isEmpty = false := by cases lits with
        | nil => simp at hl
        | cons a b => rfl
      rw [he, Bool.false_and, Bool.and_false]
      clear h1 h2 h3 h4 h5 hB k1 hl he
      generalize lits.length = n1 at HB hp ⊢
      generalize hints.length = n2 at HB ⊢
      go_enter Try.func46, Try.ntmps46
      go_wp2
      go_ret
      exact ⟨rfl, HB.out⟩
  · rw [if_neg k1, if_neg k2]
    have e1 : (kind == 1) = false := by simpa using k1
    have e2 : (kind == 2) = false := by simpa using k2
    clear h1 h2 h3 h4 h5 hB k1 k2
    generalize lits.length = n1 at HB ⊢
    generalize hints.length = n2 at HB ⊢
    go_enter Try.func46, Try.ntmps46
    go_wp2
    go_ret
    exact ⟨rfl, HB.out⟩
end Go.Proofs.Ytjjanmgeogjngaa

/- Rows of steps in memory; how many there are. -/
namespace Lra
theorem items_nil : items [] = 0 := rfl
theorem items_cons (s : Stp) (ss : List Stp) : items (s :: ss) = s.lits.length + s.hints.length + items ss := by simp [items]
theorem items_app (xs ys : List Stp) : items (xs ++ ys) = items xs + items ys := by simp [items]
theorem items_take (ss : List Stp) (k : Nat) (h : k < ss.length) : items (ss.take (k + 1)) = items (ss.take k) + (ss[k].lits.length + ss[k].hints.length) := by
  rw [List.take_succ_eq_append_getElem h, items_app]
  simp [items]
theorem items_le (ss : List Stp) (k : Nat) : items (ss.take k) ≤ items ss := by
  conv => rhs; rw [← List.take_append_drop k ss, items_app]
  omega
end Lra
namespace Go.Proofs.Ytjjanmgeogjngaa
open Go.RowKit
set_option linter.unusedVariables false

/-- A step in memory. -/
structure StC (W : World) (b o : Nat) (s : Lra.Stp) (a1 : Option Addr) (c1 : Nat) (a2 : Option Addr) (c2 : Nat) : Prop where
  k : W.cell? ⟨b, o, none⟩ = some (.int .u8 s.kind)
  i : W.cell? ⟨b, o + 1, none⟩ = some (.int .i64 s.id)
  l : W.cell? ⟨b, o + 2, none⟩ = some (.slice a1 s.lits.length c1)
  h : W.cell? ⟨b, o + 3, none⟩ = some (.slice a2 s.hints.length c2)
  v : StpV W a1 a2 s
theorem StC.below {W W' : World} {b o : Nat} {s : Lra.Stp} {a1 : Option Addr} {c1 : Nat} {a2 : Option Addr} {c2 : Nat} (h : StC W b o s a1 c1 a2 c2) (hb : Below W.heap.size W W') : StC W' b o s a1 c1 a2 c2 := by
  have hl := cell_lt h.k
  exact ⟨(hb.cell (p := ⟨b, o, none⟩) hl).trans h.k, (hb.cell (p := ⟨b, o + 1, none⟩) hl).trans h.i, (hb.cell (p := ⟨b, o + 2, none⟩) hl).trans h.l, (hb.cell (p := ⟨b, o + 3, none⟩) hl).trans h.h, h.v.below hb⟩
/-- A row of steps. -/
def Steps (W : World) (a : Option Addr) (ss : List Lra.Stp) : Prop :=
  ss = [] ∨ ∃ b off, a = some ⟨b, off, none⟩ ∧ ∀ j (h : j < ss.length), ∃ a1 c1 a2 c2, StC W b (off + j * 4) ss[j] a1 c1 a2 c2
theorem Steps.below {W W' : World} {a : Option Addr} {ss : List Lra.Stp} (h : Steps W a ss) (hb : Below W.heap.size W W') : Steps W' a ss := by
  rcases h with h | ⟨b, off, e, h⟩
  · exact .inl h
  · refine .inr ⟨b, off, e, fun j hj => ?_⟩
    obtain ⟨a1, c1, a2, c2, h⟩ := h j hj
    exact ⟨a1, c1, a2, c2, h.below hb⟩
theorem Steps.shape {W : World} {a : Option Addr} {ss : List Lra.Stp} (h : Steps W a ss) : Hid (ss.length = 0) ∨ ∃ b off, a = some ⟨b, off, none⟩ := by
  rcases h with h' | ⟨b, off, e, _⟩
  · left; rw [h']; exact hid rfl
  · exact .inr ⟨b, off, e⟩
theorem Steps.at {W : World} {b off : Nat} {ss : List Lra.Stp} (h : Steps W (some ⟨b, off, none⟩) ss) {j : Nat} (hj : j < ss.length) : ∃ a1 c1 a2 c2, StC W b (off + j * 4) ss[j] a1 c1 a2 c2 := by
  rcases h with h' | ⟨b', off', e, h⟩
  · rw [h'] at hj; simp at hj
  · cases e; exact h j hj
end Go.Proofs.Ytjjanmgeogjngaa

/- How many steps, literals and hints: the statements' and the document's own counting. -/
namespace Go.Proofs.Ytjjanmgeogjngaa
open Go.RowKit
set_option linter.unusedVariables false

theorem below_drewN (B : Nat) (w : World) (q : Nat) : Below B w (w.drewN q) := ⟨rfl, rfl, rfl, Nat.le_refl _, fun _ _ => rfl⟩
def SizeOut (top : Nat) (ss : List Lra.Stp) (e : Ending) : Prop := ∃ z : Nat, e = .returned (.int .i64 z) ∧ (z ≤ top → ss.length + Lra.items ss ≤ top)

set_option maxRecDepth 100000 in
set_option maxHeartbeats 4000000 in
theorem size8 (a : Option Addr) (n c : Nat) (ss : List Lra.Stp) (w : World) (hn : ss.length = n) (hb : n ≤ 35184372088832) (hs : Steps w a ss) :
    Calls Try.prog 38 #[.slice a n c, .int .i64 6000] w fun e w' => SizeOut 6000 ss e ∧ Below w.heap.size w w' := by
  have HS := hid hs
  have HN := hid hn
  have sh := hs.shape
  rw [hn] at sh
  clear hs hn
  rcases sh with Z | ⟨b, off, rfl⟩
  all_goals
    go_enter Try.func38, Try.ntmps38
    go_wp2
    go_loopw [5, 6] (fun mv iv wr => ∃ k m : Nat, mv = .int .i64 m ∧ iv = .int .i64 k ∧ k ≤ n ∧ m ≤ 18001 ∧ Hid (m ≤ 6000 → m = k + Lra.items (ss.take k)) ∧ Hid (Below w.heap.size w wr)) (fun _ iv _ => n - (intOf iv).toNat)
    case atStart => exact ⟨0, 0, rfl, rfl, by omega, by omega, hid (fun _ => by simp [Lra.items]), hid (Below.refl _ _)⟩
    case round =>
      obtain ⟨k, m, rfl, rfl, hk, hm, HM, HB⟩ := hrel
      by_cases hlt : k < n
      · have hlt' : (k : Int) < n := by omega
        by_cases hm6 : m ≤ 6000
        · have hm6' : (m : Int) ≤ 6000 := by omega
          first
          | (exfalso; have := Z.out; omega)
          | (have hks : k < ss.length := by rw [HN.out]; exact hlt
             obtain ⟨a1, c1, a2, c2, hst⟩ := (HS.out.below HB.out).at (j := k) hks
             have HT := hid (Lra.items_take ss k hks)
             obtain ⟨x0, x1, x2, x3, hv⟩ := hst
             obtain ⟨_, _, _, _, hn12⟩ := hv
             generalize ss[k] = s at x0 x1 x2 x3 HT hn12
             generalize s.lits.length = n1 at x2 HT hn12
             generalize s.hints.length = n2 at x3 HT hn12
             obtain ⟨hn1, hn2⟩ := hn12
             have hM := hid (HM.out hm6)
             go_wp2
             go_quiet (fail)
             go_wp2
             go_roundw
             case rel => exact ⟨k + 1, m + 1 + min n1 6000 + min n2 6000, by go_num, by go_num, by omega, by omega, hid (fun h => by rw [HT.out]; have := hM.out; omega), hid (HB.out.trans (below_drewN _ _ _))⟩
             case measure => simp [intOf]; omega)
        · have hm6' : ¬ (m : Int) ≤ 6000 := by omega
          go_wp2
          go_ret
          exact ⟨⟨m, rfl, fun h => absurd h hm6⟩, HB.out⟩
      · have hlt' : ¬ (k : Int) < n := by omega
        have HF := hid (show m ≤ 6000 → ss.length + Lra.items ss ≤ 6000 from fun h => by
          have := HM.out h
          rw [List.take_of_length_le (by rw [HN.out]; omega)] at this
          have := HN.out
          omega)
        go_wp2
        go_ret
        exact ⟨⟨m, rfl, HF.out⟩, HB.out⟩

end Go.Proofs.Ytjjanmgeogjngaa

/- Are two steps, two proofs the same? -/
namespace Lra
theorem list_split (xs ys : List Int) (n : Nat) (hx : xs.length = n) (hy : ys.length = n) (h : ∀ k, k < n → xs.getD k 0 = ys.getD k 0) : xs = ys := by
  apply List.ext_getElem (by omega)
  intro i h1 h2
  have := h i (by omega)
  simpa [List.getD, List.getElem?_eq_getElem h1, List.getElem?_eq_getElem h2] using this
end Lra
namespace Go.Proofs.Ytjjanmgeogjngaa
open Go.RowKit
set_option linter.unusedVariables false

set_option maxRecDepth 100000 in
set_option maxHeartbeats 4000000 in
theorem sameStep23 (s t : Lra.Stp) (a1 : Option Addr) (c1 : Nat) (a2 : Option Addr) (c2 : Nat) (b1 : Option Addr) (d1 : Nat) (b2 : Option Addr) (d2 : Nat) (w : World) (hs : StpV w a1 a2 s) (ht : StpV w b1 b2 t) :
    Calls Try.prog 18 #[sval s a1 c1 a2 c2, sval t b1 d1 b2 d2] w fun e w' => e = .returned (.bool (decide (s = t))) ∧ Below w.heap.size w w' := by
  obtain ⟨k1, i1, l1, h1⟩ := s
  obtain ⟨k2, i2, l2, h2⟩ := t
  obtain ⟨p1, p2, p3, p4, p5⟩ := hs
  obtain ⟨q1, q2, q3, q4, q5⟩ := ht
  simp only at p1 p2 p3 p4 p5 q1 q2 q3 q4 q5
  unfold sval
  simp only
  obtain ⟨W1, hW1⟩ : ∃ W1, w.alloc (.cells #[.int .u8 k1, .int .i64 i1, .slice a1 l1.length c1, .slice a2 h1.length c2] 44) = W1 := ⟨_, rfl⟩
  obtain ⟨W2, hW2⟩ : ∃ W2, W1.alloc (.cells #[.int .u8 k2, .int .i64 i2, .slice b1 l2.length d1, .slice b2 h2.length d2] 44) = W2 := ⟨_, rfl⟩
  have B1 : Below w.heap.size w W1 := by rw [← hW1]; exact below_box _ _
  have B2 : Below W1.heap.size W1 W2 := by rw [← hW2]; exact below_box _ _
  have z1 : W1.heap.size = w.heap.size + 1 := by rw [← hW1]; simp
  have B := B1.trans (B2.mono B1.size)
  have r1 : W2.heap[w.heap.size]? = some (.cells #[.int .u8 k1, .int .i64 i1, .slice a1 l1.length c1, .slice a2 h1.length c2] 44 (0, 0)) := by
    rw [B2.block _ (by omega), ← hW1]; exact heap_alloc_new _ _
  have r2 : W2.heap[w.heap.size + 1]? = some (.cells #[.int .u8 k2, .int .i64 i2, .slice b1 l2.length d1, .slice b2 h2.length d2] 44 (0, 0)) := by
    rw [← hW2, ← z1]; exact heap_alloc_new _ _
  have x0 := row_cell r1 0
  have x1 := row_cell r1 1
  have x2 := row_cell r1 2
  have x3 := row_cell r1 3
  have y0 := row_cell r2 0
  have y1 := row_cell r2 1
  have y2 := row_cell r2 2
  have y3 := row_cell r2 3
  simp only [List.getElem?_toArray, List.getElem?_cons_zero, List.getElem?_cons_succ] at x0 x1 x2 x3 y0 y1 y2 y3
  have hW : (w.alloc (.cells #[.int .u8 k1, .int .i64 i1, .slice a1 l1.length c1, .slice a2 h1.length c2] 44)).alloc (.cells #[.int .u8 k2, .int .i64 i2, .slice b1 l2.length d1, .slice b2 h2.length d2] 44) = W2 := by rw [hW1, hW2]
  have P1 := hid (p1.below B)
  have P2 := hid (p2.below B)
  have Q1 := hid (q1.below B)
  have Q2 := hid (q2.below B)
  have HB := hid B
  have P5 := hid p5
  have Q5 := hid q5
  obtain ⟨r, hr⟩ : ∃ r, decide ((⟨k1, i1, l1, h1⟩ : Lra.Stp) = ⟨k2, i2, l2, h2⟩) = r := ⟨_, rfl⟩
  rw [hr]
  have HR := hid hr
  clear p1 p2 p3 p4 p5 q1 q2 q3 q4 q5 B1 B2 z1 B r1 r2 hW1 hW2 hr
  have no : Hid (∀ (h : ¬ (k1 = k2 ∧ i1 = i2 ∧ l1 = l2 ∧ h1 = h2)), r = false) := hid (fun h => by rw [← HR.out]; exact decide_eq_false (fun e => by injection e with e1 e2 e3 e4; exact h ⟨e1, e2, e3, e4⟩))
  by_cases ek : k1 = k2
  case neg =>
    have HF := hid (no.out (fun h => ek h.1))
    have t0 : (k1 != k2) = true := by simpa using ek
    generalize l1.length = n1 at hW x2
    generalize h1.length = n2 at hW x3
    generalize l2.length = m1 at hW y2
    generalize h2.length = m2 at hW y3
    clear ek
    go_enter Try.func18, Try.ntmps18
    go_wp2
    go_ret
    exact ⟨by rw [HF.out]; rfl, HB.out⟩
  subst ek
  have t0 : (k1 != k1) = false := by simp
  by_cases ei : i1 = i2
  case neg =>
    have HF := hid (no.out (fun h => ei h.2.1))
    have t1 : (i1 != i2) = true := by simpa using ei
    generalize l1.length = n1 at hW x2
    generalize h1.length = n2 at hW x3
    generalize l2.length = m1 at hW y2
    generalize h2.length = m2 at hW y3
    clear ei
    go_enter Try.func18, Try.ntmps18
    go_wp2
    go_ret
    exact ⟨by rw [HF.out]; rfl, HB.out⟩
  subst ei
  have t1 : (i1 != i1) = false := by simp
  by_cases el : l1.length = l2.length
  case neg =>
    have HF := hid (no.out (fun h => el (by rw [h.2.2.1])))
    have t2 : ((l1.length : Int) != (l2.length : Int)) = true := by simp; omega
    generalize l1.length = n1 at hW x2 t2
    generalize h1.length = n2 at hW x3
    generalize l2.length = m1 at hW y2 t2
    generalize h2.length = m2 at hW y3
    clear el
    go_enter Try.func18, Try.ntmps18
    go_wp2
    go_ret
    exact ⟨by rw [HF.out]; rfl, HB.out⟩
  by_cases eh : h1.length = h2.length
  case neg =>
    have HF := hid (no.out (fun h => eh (by rw [h.2.2.2])))
    have t2 : ((l1.length : Int) != (l2.length : Int)) = false := by simp; omega
    have t3 : ((h1.length : Int) != (h2.length : Int)) = true := by simp; omega
    generalize l1.length = n1 at hW x2 t2
    generalize h1.length = n2 at hW x3 t3
    generalize l2.length = m1 at hW y2 t2
    generalize h2.length = m2 at hW y3 t3
    clear el eh
    go_enter Try.func18, Try.ntmps18
    go_wp2
    go_ret
    exact ⟨by rw [HF.out]; rfl, HB.out⟩
  rw [← el] at hW y2 ⊢
  rw [← eh] at hW y3 ⊢
  have M1 := hid el.symm
  have M2 := hid eh.symm
  have sh1 : Hid (l1.length = 0) ∨ ∃ g o g' o', a1 = some ⟨g, o, none⟩ ∧ b1 = some ⟨g', o', none⟩ := by
    rcases P1.out.shape with h | ⟨g, o, e⟩
    · exact .inl (hid h)
    · rcases Q1.out.shape with h | ⟨g', o', e'⟩
      · exact .inl (hid (by omega))
      · exact .inr ⟨g, o, g', o', e, e'⟩
  have sh2 : Hid (h1.length = 0) ∨ ∃ g o g' o', a2 = some ⟨g, o, none⟩ ∧ b2 = some ⟨g', o', none⟩ := by
    rcases P2.out.shape with h | ⟨g, o, e⟩
    · exact .inl (hid h)
    · rcases Q2.out.shape with h | ⟨g', o', e'⟩
      · exact .inl (hid (by omega))
      · exact .inr ⟨g, o, g', o', e, e'⟩
  generalize hn1 : l1.length = n1 at hW x2 y2 M1 sh1 P5 ⊢
  generalize hn2 : h1.length = n2 at hW x3 y3 M2 sh2 P5 ⊢
  have N1 := hid hn1
  have N2 := hid hn2
  obtain ⟨bn1, bn2⟩ := P5.out
  clear el eh hn1 hn2 P5 Q5
  have t2 : ((n1 : Int) != (n1 : Int)) = false := by simp
  have t3 : ((n2 : Int) != (n2 : Int)) = false := by simp
  have ER := hid (show r = decide (l1 = l2 ∧ h1 = h2) by
    rw [← HR.out, decide_eq_decide]
    constructor
    · intro e; injection e with _ _ e3 e4; exact ⟨e3, e4⟩
    · rintro ⟨rfl, rfl⟩; rfl)
  clear HR no
  rcases sh1 with Z1 | ⟨g1, o1, g3, o3, rfl, rfl⟩ <;> rcases sh2 with Z2 | ⟨g2, o2, g4, o4, rfl, rfl⟩
  all_goals
    go_enter Try.func18, Try.ntmps18
    go_wp2
    go_loopw [5] (fun iv wr => ∃ k : Nat, iv = .int .i64 k ∧ k ≤ n1 ∧ Hid (∀ j, j < k → l1.getD j 0 = l2.getD j 0) ∧ Hid (Below W2.heap.size W2 wr)) (fun iv _ => n1 - (intOf iv).toNat)
    case atStart => exact ⟨0, rfl, by omega, hid (fun j h => by omega), hid (Below.refl _ _)⟩
    case round =>
      obtain ⟨k, rfl, hk, HI, HD⟩ := hrel
      have X2 := (HD.out.cell (p := ⟨w.heap.size, 2, none⟩) (cell_lt x2)).trans x2
      have X3 := (HD.out.cell (p := ⟨w.heap.size, 3, none⟩) (cell_lt x3)).trans x3
      have Y2 := (HD.out.cell (p := ⟨w.heap.size + 1, 2, none⟩) (cell_lt y2)).trans y2
      by_cases hlt : k < n1
      · have hlt' : (k : Int) < n1 := by omega
        first
        | (exfalso; have := Z1.out; omega)
        | (obtain ⟨b', off', e, _, hc, _, _⟩ := (P1.out.below HD.out).at (j := k) (by rw [N1.out]; exact hlt)
           cases e
           obtain ⟨b', off', e, _, hc', _, _⟩ := (Q1.out.below HD.out).at (j := k) (by rw [M1.out]; exact hlt)
           cases e
           obtain ⟨x, hx⟩ : ∃ x, l1.getD k 0 = x := ⟨_, rfl⟩
           obtain ⟨y, hy⟩ : ∃ y, l2.getD k 0 = y := ⟨_, rfl⟩
           rw [hx] at hc
           rw [hy] at hc'
           have HX := hid hx
           have HY := hid hy
           clear hx hy
           by_cases hxy : x = y
           · have hne : (x != y) = false := by simpa using hxy
             have HK := hid (show ∀ j, j < k + 1 → l1.getD j 0 = l2.getD j 0 from fun j hj => by
               rcases Nat.lt_or_ge j k with h | h
               · exact HI.out j h
               · rw [show j = k by omega, HX.out, HY.out, hxy])
             clear hxy HX HY
             go_wp2
             go_quiet (fail)
             go_wp2
             go_roundw
             case rel => exact ⟨k + 1, by go_num, by omega, HK, hid (HD.out.trans (below_drewN _ _ _))⟩
             case measure => simp [intOf]; omega
           · have hne : (x != y) = true := by simpa using hxy
             have HF := hid (show r = false by
               rw [ER.out]
               exact decide_eq_false (fun h => hxy (by rw [← HX.out, ← HY.out, h.1])))
             clear hxy HX HY
             go_wp2
             go_quiet (fail)
             go_wp2
             go_ret
             exact ⟨by rw [HF.out]; rfl, HB.out.trans ((HD.out.trans (below_drewN _ _ _)).mono HB.out.size)⟩)
      · have hlt' : ¬ (k : Int) < n1 := by omega
        have HE1 := hid (Lra.list_split l1 l2 n1 N1.out M1.out (fun j hj => HI.out j (by omega)))
        go_wp2
        go_loopw [6] (fun iv wr => ∃ q : Nat, iv = .int .i64 q ∧ q ≤ n2 ∧ Hid (∀ j, j < q → h1.getD j 0 = h2.getD j 0) ∧ Hid (Below W2.heap.size W2 wr)) (fun iv _ => n2 - (intOf iv).toNat)
        case atStart => exact ⟨0, rfl, by omega, hid (fun j h => by omega), HD⟩
        case round =>
          clear HD X2 X3 Y2
          obtain ⟨q, rfl, hq, HJ, HD⟩ := hrel
          have X3 := (HD.out.cell (p := ⟨w.heap.size, 3, none⟩) (cell_lt x3)).trans x3
          have Y3 := (HD.out.cell (p := ⟨w.heap.size + 1, 3, none⟩) (cell_lt y3)).trans y3
          by_cases hl2 : q < n2
          · have hl2' : (q : Int) < n2 := by omega
            first
            | (exfalso; have := Z2.out; omega)
            | (obtain ⟨b', off', e, _, hc, _, _⟩ := (P2.out.below HD.out).at (j := q) (by rw [N2.out]; exact hl2)
               cases e
               obtain ⟨b', off', e, _, hc', _, _⟩ := (Q2.out.below HD.out).at (j := q) (by rw [M2.out]; exact hl2)
               cases e
               obtain ⟨x, hx⟩ : ∃ x, h1.getD q 0 = x := ⟨_, rfl⟩
               obtain ⟨y, hy⟩ : ∃ y, h2.getD q 0 = y := ⟨_, rfl⟩
               rw [hx] at hc
               rw [hy] at hc'
               have HX := hid hx
               have HY := hid hy
               clear hx hy
               by_cases hxy : x = y
               · have hne : (x != y) = false := by simpa using hxy
                 have HK := hid (show ∀ j, j < q + 1 → h1.getD j 0 = h2.getD j 0 from fun j hj => by
                   rcases Nat.lt_or_ge j q with h | h
                   · exact HJ.out j h
                   · rw [show j = q by omega, HX.out, HY.out, hxy])
                 clear hxy HX HY
                 go_wp2
                 go_quiet (fail)
                 go_wp2
                 go_roundw
                 case rel => exact ⟨q + 1, by go_num, by omega, HK, hid (HD.out.trans (below_drewN _ _ _))⟩
                 case measure => simp [intOf]; omega
               · have hne : (x != y) = true := by simpa using hxy
                 have HF := hid (show r = false by
                   rw [ER.out]
                   exact decide_eq_false (fun h => hxy (by rw [← HX.out, ← HY.out, h.2])))
                 clear hxy HX HY
                 go_wp2
                 go_quiet (fail)
                 go_wp2
                 go_ret
                 exact ⟨by rw [HF.out]; rfl, HB.out.trans ((HD.out.trans (below_drewN _ _ _)).mono HB.out.size)⟩)
          · have hl2' : ¬ (q : Int) < n2 := by omega
            have HF := hid (show r = true by
              rw [ER.out]
              exact decide_eq_true ⟨HE1.out, Lra.list_split h1 h2 n2 N2.out M2.out (fun j hj => HJ.out j (by omega))⟩)
            go_wp2
            go_ret
            exact ⟨by rw [HF.out]; rfl, HB.out.trans (HD.out.mono HB.out.size)⟩
end Go.Proofs.Ytjjanmgeogjngaa

/- A row in memory of its own. -/
namespace Go.Proofs.Ytjjanmgeogjngaa
open Go.RowKit
set_option linter.unusedVariables false
set_option linter.unusedSimpArgs false

theorem info2 : (Try.prog.info? 2).map (fun i => (i.zero, i.size, i.bytes)) = some (some (.int .i64 0), 1, 8) := by kernel_rfl
theorem info44 : (Try.prog.info? 40).map (fun i => (i.zero, i.size, i.bytes)) = some (some (.int .i32 0), 1, 4) := by kernel_rfl
theorem grown_below {W B : World} (h : W.grownBy B none) : Below W.heap.size W B := ⟨h.os, h.tape, h.output, h.size, fun k hk => h.block k hk (by simp)⟩
/-- A row put behind nothing. -/
theorem copy_row {P : Program} {W : World} {base n : Nat} (t e : TypeId) (i : TypeInfo) (z : Value) (bytes : Nat) (ht : P.underlying t = some (.slice e)) (hi : P.info? e = some i) (hz : i.zero = some z)
    (hsize : i.size = 1) (hby : i.bytes = bytes) (hzs : z.cells.size = 1) {v : Value} {xs : List Value} (h : W.ownsRow base e 1 v n xs) (h1 : ∀ u ∈ xs, u.oneCell' = true) (hn : n ≤ 16777216) (hb8 : bytes ≤ 8) :
    ∃ o c B, (Builtin.append_ #[t, t] t #[.slice none 0 0, v]).run P W = .ok (.slice o n c) B ∧ B.ownsRow W.heap.size e 1 (.slice o n c) n xs ∧ Below W.heap.size W B := by
  rcases h.2 with ⟨rfl, rfl⟩ | ⟨g, cap, cur, rfl, hb, hg, hnc, hcm, hcs, htk⟩
  · refine ⟨none, 0, W, ?_, ?_, Below.refl _ _⟩
    · simp [Builtin.append_, run_underlying ht, sizeOf, typeInfo, zeroValue, hi, hz, Builtin.lenOf, Question.forced, run_firstCells_none]
    · have hx : xs = [] := List.eq_nil_of_length_eq_zero (by rw [h.1])
      rw [hx]
      exact World.ownsRow_nil _ _ _ _
  · have hl := h.1
    have hbb : n * bytes ≤ 140737488355328 := by
      have := Nat.mul_le_mul hn hb8
      omega
    obtain ⟨v2, B, hr, ho2, hgb, _, _⟩ := run_append_own_at (P := P) W W.heap.size t t e i z 1 bytes ht hi hz hsize hby hzs (by decide) (.slice none 0 0) 0 [] (World.ownsRow_nil _ _ _ _) ⟨g, 0, none⟩ n cap xs hl (fun j u hu => by
      have hj : j < xs.length := by
        rcases Nat.lt_or_ge j xs.length with h' | h'
        · exact h'
        · rw [List.getElem?_eq_none h'] at hu; cases hu
      rw [show (⟨g, 0, none⟩ : Addr).add j = ⟨g, j, none⟩ by simp [Addr.add]; intro h9; exact h9.symm, row_cell hg j]
      rw [← htk, List.getElem?_take_of_lt (by omega)] at hu
      simpa using hu) h1 (by simp [maxLen]; omega) (by simpa using hbb) (Nat.le_refl _)
    obtain ⟨o, c, rfl⟩ := own_slc ho2
    rw [Nat.zero_add] at hr ho2
    rw [List.nil_append] at ho2
    exact ⟨o, c, B, hr, ho2, grown_below hgb⟩
theorem one_ints (k : IntKind) (l : List Int) : ∀ u ∈ l.map (Value.int k), u.oneCell' = true := by
  intro u hu
  obtain ⟨x, _, rfl⟩ := List.mem_map.1 hu
  rfl
theorem copy_hints {W : World} {base : Nat} {v : Value} {hs : List Int} (h : W.ownsRow base 2 1 v hs.length (hs.map (Value.int .i64))) (hl : hs.length ≤ 16777216) :
    ∃ o c B, (Builtin.append_ #[42, 42] 42 #[.slice none 0 0, v]).run Try.prog W = .ok (.slice o hs.length c) B ∧ B.ownsRow W.heap.size 2 1 (.slice o hs.length c) hs.length (hs.map (Value.int .i64)) ∧ Below W.heap.size W B := by
  obtain ⟨i0, hi, hz⟩ := Option.map_eq_some_iff.1 info2
  simp only [Prod.mk.injEq] at hz
  exact copy_row 42 2 i0 _ 8 Try.underlying42 hi hz.1 hz.2.1 hz.2.2 rfl h (one_ints _ _) hl (by decide)
theorem copy_lits {W : World} {base : Nat} {v : Value} {ls : List Int} (h : W.ownsRow base 40 1 v ls.length (ls.map (Value.int .i32))) (hl : ls.length ≤ 16777216) :
    ∃ o c B, (Builtin.append_ #[39, 39] 39 #[.slice none 0 0, v]).run Try.prog W = .ok (.slice o ls.length c) B ∧ B.ownsRow W.heap.size 40 1 (.slice o ls.length c) ls.length (ls.map (Value.int .i32)) ∧ Below W.heap.size W B := by
  obtain ⟨i0, hi, hz⟩ := Option.map_eq_some_iff.1 info44
  simp only [Prod.mk.injEq] at hz
  exact copy_row 39 40 i0 _ 4 Try.underlying39 hi hz.1 hz.2.1 hz.2.2 rfl h (one_ints _ _) hl (by decide)
end Go.Proofs.Ytjjanmgeogjngaa

/- Rows of steps that are one's own, each with its rows. -/
namespace Go.Proofs.Ytjjanmgeogjngaa
open Go.RowKit
set_option linter.unusedVariables false
set_option linter.unusedSimpArgs false

/-- A step, and the values of its rows. -/
abbrev Q := Lra.Stp × Value × Value
def qvals (q : Q) : List Value := [.int .u8 q.1.kind, .int .i64 q.1.id, q.2.1, q.2.2]
structure QV (n : Nat) (W : World) (q : Q) : Prop where
  l : W.ownsRow n 40 1 q.2.1 q.1.lits.length (q.1.lits.map (Value.int .i32))
  h : W.ownsRow n 2 1 q.2.2 q.1.hints.length (q.1.hints.map (Value.int .i64))
structure Mem (n : Nat) (W : World) (v : Value) (qs : List Q) : Prop where
  row : W.ownsRow n 44 4 v qs.length (qs.flatMap qvals)
  each : ∀ q ∈ qs, QV n W q

theorem own_keep {W W' : World} {base n size : Nat} {e : TypeId} {v : Value} {xs : List Value} (h : W.ownsRow base e size v n xs) (hk : ∀ g cs, v.ownBlock = some g → W.heap[g]? = some (.cells cs e (0, 0)) → W'.heap[g]? = W.heap[g]?) : W'.ownsRow base e size v n xs := by
  refine ⟨h.1, ?_⟩
  rcases h.2 with h' | ⟨g, cap, cur, rfl, h1, h2, h3⟩
  · exact .inl h'
  · exact .inr ⟨g, cap, cur, rfl, h1, (hk g cur rfl h2).trans h2, h3⟩
theorem own_ne {W : World} {b base n size : Nat} {cs : Array Value} {t e : TypeId} {fr : Nat × Nat} {v : Value} {xs : List Value} (h : W.heap[b]? = some (.cells cs t fr)) (hr : W.ownsRow base e size v n xs) (hne : t ≠ e) : v.ownBlock ≠ some b := by
  rcases hr.2 with ⟨rfl, _⟩ | ⟨g, cap, cur, rfl, _, hgb, _⟩
  · simp [Value.ownBlock]
  · intro e'
    obtain rfl : g = b := by simpa [Value.ownBlock] using e'
    rw [h] at hgb
    cases hgb
    exact hne rfl
theorem own_blk {W : World} {base n size : Nat} {e : TypeId} {v : Value} {xs : List Value} {g : Nat} (h : W.ownsRow base e size v n xs) (hg : v.ownBlock = some g) : base ≤ g ∧ ∃ cur, W.heap[g]? = some (.cells cur e (0, 0)) := by
  rcases h.2 with ⟨rfl, _⟩ | ⟨g', cap, cur, rfl, hb, hgb, _⟩
  · cases hg
  · cases hg; exact ⟨hb, cur, hgb⟩
theorem QV.keep {n : Nat} {W W' : World} {q : Q} (h : QV n W q) (hk : ∀ g, q.2.1.ownBlock = some g ∨ q.2.2.ownBlock = some g → W'.heap[g]? = W.heap[g]?) : QV n W' q :=
  ⟨own_keep h.l (fun g cs e _ => hk g (.inl e)), own_keep h.h (fun g cs e _ => hk g (.inr e))⟩
theorem QV.below {n : Nat} {W W' : World} {q : Q} (h : QV n W q) (hb : Below W.heap.size W W') : QV n W' q := ⟨own_below h.l hb, own_below h.h hb⟩
theorem QV.base {n n' : Nat} {W : World} {q : Q} (h : QV n W q) (hn : n' ≤ n) : QV n' W q := ⟨own_base h.l hn, own_base h.h hn⟩
theorem QV.lt {n : Nat} {W : World} {q : Q} (h : QV n W q) {g : Nat} (hg : q.2.1.ownBlock = some g ∨ q.2.2.ownBlock = some g) : n ≤ g ∧ g < W.heap.size := by
  rcases hg with hg | hg
  · exact h.l.lt g hg
  · exact h.h.lt g hg
theorem Mem.keep {n : Nat} {W W' : World} {v : Value} {qs : List Q} (h : Mem n W v qs) (hv : ∀ g, v.ownBlock = some g → W'.heap[g]? = W.heap[g]?) (hk : ∀ q ∈ qs, ∀ g, q.2.1.ownBlock = some g ∨ q.2.2.ownBlock = some g → W'.heap[g]? = W.heap[g]?) : Mem n W' v qs :=
  ⟨own_keep h.row (fun g cs e _ => hv g e), fun q hq => (h.each q hq).keep (hk q hq)⟩
theorem Mem.below {n : Nat} {W W' : World} {v : Value} {qs : List Q} (h : Mem n W v qs) (hb : Below W.heap.size W W') : Mem n W' v qs := ⟨own_below h.row hb, fun q hq => (h.each q hq).below hb⟩
theorem Mem.base {n n' : Nat} {W : World} {v : Value} {qs : List Q} (h : Mem n W v qs) (hn : n' ≤ n) : Mem n' W v qs := ⟨own_base h.row hn, fun q hq => (h.each q hq).base hn⟩
theorem Mem.set {n b k : Nat} {W : World} {v : Value} {qs : List Q} (h : Mem n W v qs) (hb : b < n) (u : Value) : Mem n (W.setCell ⟨b, k, none⟩ u) v qs :=
  ⟨own_set h.row hb u, fun q hq => ⟨own_set (h.each q hq).l hb u, own_set (h.each q hq).h hb u⟩⟩
/-- A block that is neither the row of steps nor one of their rows may turn. -/
theorem Mem.set_other {n b k : Nat} {W : World} {v : Value} {qs : List Q} {cs : Array Value} {t : TypeId} {fr : Nat × Nat} (h : Mem n W v qs) (hb : W.heap[b]? = some (.cells cs t fr)) (h1 : t ≠ 44) (h2 : t ≠ 40) (h3 : t ≠ 2) (u : Value) : Mem n (W.setCell ⟨b, k, none⟩ u) v qs := by
  refine h.keep (fun g hg => heap_other _ _ (fun e => own_ne hb h.row h1 (e ▸ hg))) (fun q hq g hg => heap_other _ _ ?_)
  rintro rfl
  rcases hg with hg | hg
  · exact own_ne hb (h.each q hq).l h2 hg
  · exact own_ne hb (h.each q hq).h h3 hg
theorem Mem.nil (n : Nat) (W : World) : Mem n W (.slice none 0 0) [] := ⟨World.ownsRow_nil _ _ _ _, fun q hq => by cases hq⟩
theorem info43 : (Try.prog.info? 44).map (fun i => (i.zero, i.size, i.bytes)) = some (some (.agg #[.int .u8 0, .int .i64 0, .slice none 0 0, .slice none 0 0]), 4, 64) := by kernel_rfl
theorem own_one {W : World} {base n size : Nat} {e : TypeId} {v : Value} {xs : List Value} (h : W.ownsRow base e size v n xs) : v.oneCell' = true := by
  obtain ⟨o, c, rfl⟩ := own_slc h
  rfl
/-- A step more. -/
theorem Mem.push {n : Nat} {W : World} {v : Value} {qs : List Q} (h : Mem n W v qs) (q : Q) (hq : QV n W q) (hl : qs.length ≤ 4194304) (hb : n ≤ W.heap.size) :
    ∃ o c B, (Builtin.append_ #[25, 25] 25 #[v, .slice (some ⟨W.heap.size, 0, none⟩) 1 1]).run Try.prog (W.alloc (.cells #[.int .u8 q.1.kind, .int .i64 q.1.id, q.2.1, q.2.2] 44)) = .ok (.slice o (qs.length + 1) c) B ∧
      Mem n B (.slice o (qs.length + 1) c) (qs ++ [q]) ∧ (∀ k, k < W.heap.size → v.ownBlock ≠ some k → B.heap[k]? = W.heap[k]?) ∧ W.heap.size ≤ B.heap.size ∧ B.os = W.os ∧ B.tape = W.tape ∧ B.output = W.output ∧ (∀ k, k < W.heap.size → Value.ownBlock (.slice o (qs.length + 1) c) = some k → v.ownBlock = some k) := by
  obtain ⟨i0, hi, hz⟩ := Option.map_eq_some_iff.1 info43
  simp only [Prod.mk.injEq] at hz
  obtain ⟨hz0, hz1, hz2⟩ := hz
  obtain ⟨W1, hW1⟩ : ∃ W1, W.alloc (.cells #[.int .u8 q.1.kind, .int .i64 q.1.id, q.2.1, q.2.2] 44) = W1 := ⟨_, rfl⟩
  have hM : W1.heap[W.heap.size]? = some (.cells #[.int .u8 q.1.kind, .int .i64 q.1.id, q.2.1, q.2.2] 44 (0, 0)) := by rw [← hW1]; exact heap_alloc_new _ _
  have h01 : Below W.heap.size W W1 := by rw [← hW1]; exact below_box _ _
  have hs1 : W1.heap.size = W.heap.size + 1 := by rw [← hW1]; simp
  have hop := own_below h.row h01
  rw [hW1]
  obtain ⟨v2, B, hr, ho2, hg, _, hat⟩ := run_append_own_at (P := Try.prog) W1 n 25 25 44 i0 _ 4 64 Try.underlying25 hi hz0 hz1 hz2 rfl (by decide) v qs.length _ hop ⟨W.heap.size, 0, none⟩ 1 1 (qvals q) rfl (fun j u hu => by
    match j, hu with
    | 0, hu => rw [show (⟨W.heap.size, 0, none⟩ : Addr).add 0 = ⟨W.heap.size, 0, none⟩ from rfl, row_cell hM 0]; exact hu
    | 1, hu => rw [show (⟨W.heap.size, 0, none⟩ : Addr).add 1 = ⟨W.heap.size, 1, none⟩ from rfl, row_cell hM 1]; exact hu
    | 2, hu => rw [show (⟨W.heap.size, 0, none⟩ : Addr).add 2 = ⟨W.heap.size, 2, none⟩ from rfl, row_cell hM 2]; exact hu
    | 3, hu => rw [show (⟨W.heap.size, 0, none⟩ : Addr).add 3 = ⟨W.heap.size, 3, none⟩ from rfl, row_cell hM 3]; exact hu
    | j + 4, hu => simp [qvals] at hu) (by
      intro u hu
      simp [qvals] at hu
      rcases hu with rfl | rfl | rfl | rfl
      · rfl
      · rfl
      · exact own_one hq.l
      · exact own_one hq.h) (by simp [maxLen]; omega) (by omega) (by omega)
  obtain ⟨o', cp', rfl⟩ := own_slc ho2
  have keep : ∀ k, k < W.heap.size → v.ownBlock ≠ some k → B.heap[k]? = W.heap[k]? := fun k hk hne =>
    (hg.block _ (by omega) (fun e => hne e.symm)).trans (h01.block _ hk)
  have kq : ∀ p : Q, QV n W p → QV n B p := fun p hp => ⟨own_keep hp.l (fun g cs e hgc => keep g (Array.getElem?_eq_some_iff.1 hgc).1 (own_ne hgc h.row (by decide))), own_keep hp.h (fun g cs e hgc => keep g (Array.getElem?_eq_some_iff.1 hgc).1 (own_ne hgc h.row (by decide)))⟩
  refine ⟨o', cp', B, hr, ⟨?_, ?_⟩, keep, ?_, hg.os.trans h01.os, hg.tape.trans h01.tape, hg.output.trans h01.output, fun k hk e => ?_⟩
  · rw [show (qs ++ [q]).length = qs.length + 1 by simp, List.flatMap_append]
    simpa using ho2
  · intro p hp
    rcases List.mem_append.1 hp with hp | hp
    · exact kq p (h.each p hp)
    · simp at hp; subst hp; exact kq p hq
  · have := hg.size; omega
  · rcases hat with hat | hat
    · rw [← hat]; exact e
    · rw [hat] at e; cases e; omega
/-- A step's numbers lie within their types. -/
structure Fits (s : Lra.Stp) : Prop where
  k : 0 ≤ s.kind ∧ s.kind < 256
  i : -9223372036854775808 ≤ s.id ∧ s.id ≤ 9223372036854775807
  l : ∀ x ∈ s.lits, -2147483648 ≤ x ∧ x ≤ 2147483647
  h : ∀ x ∈ s.hints, -9223372036854775808 ≤ x ∧ x ≤ 9223372036854775807
  n : s.lits.length ≤ 35184372088832 ∧ s.hints.length ≤ 35184372088832
theorem own_row {W : World} {n : Nat} {e : TypeId} {k : IntKind} {lo hi : Int} {a : Option Addr} {c : Nat} {xs : List Int} (h : W.ownsRow n e 1 (.slice a xs.length c) xs.length (xs.map (Value.int k))) (hx : ∀ x ∈ xs, lo ≤ x ∧ x ≤ hi) : Row k lo hi W a xs := by
  refine ⟨hx, ?_⟩
  rcases h.2 with ⟨_, h0⟩ | ⟨g, cap, cur, e1, hb, hg, hnc, hcm, hcs, htk⟩
  · exact .inl (List.eq_nil_of_length_eq_zero h0)
  · cases e1
    refine .inr ⟨g, 0, rfl, (Array.getElem?_eq_some_iff.1 hg).1, fun j hj => ?_⟩
    rw [Nat.zero_add, row_cell hg j]
    have e2 : (cur.toList.take (xs.length * 1))[j]? = cur.toList[j]? := List.getElem?_take_of_lt (by omega)
    rw [htk] at e2
    rw [← Array.getElem?_toList, ← e2]
    simp [List.getD, List.getElem?_eq_getElem hj]
theorem flat_at (qs : List Q) : ∀ (j r : Nat) (hj : j < qs.length), r < 4 → (qs.flatMap qvals)[j * 4 + r]? = (qvals qs[j])[r]? := by
  induction qs with
  | nil => intro j r hj; simp at hj
  | cons q qs ih =>
    intro j r hj hr
    rw [List.flatMap_cons]
    cases j with
    | zero =>
      rw [List.getElem?_append_left (by simp [qvals]; omega)]
      simp
    | succ j =>
      rw [List.getElem?_append_right (by simp [qvals]; omega)]
      have := ih j r (by simpa using hj) hr
      rw [show (j + 1) * 4 + r - (qvals q).length = j * 4 + r by simp [qvals]; omega]
      simpa using this
/-- Steps of one's own are steps. -/
theorem Mem.steps {n : Nat} {W : World} {v : Value} {qs : List Q} (h : Mem n W v qs) (hf : ∀ q ∈ qs, Fits q.1) : ∃ a c, v = .slice a qs.length c ∧ Steps W a (qs.map (·.1)) := by
  obtain ⟨a, c, rfl⟩ := own_slc h.row
  refine ⟨a, c, rfl, ?_⟩
  rcases h.row.2 with ⟨_, h0⟩ | ⟨g, cap, cur, e1, hb, hg, hnc, hcm, hcs, htk⟩
  · left
    rw [List.eq_nil_of_length_eq_zero h0]; rfl
  · cases e1
    right
    refine ⟨g, 0, rfl, fun j hj => ?_⟩
    have hj' : j < qs.length := by simpa using hj
    have hm := List.getElem_mem hj'
    have hq := h.each _ hm
    have hF := hf _ hm
    have cell : ∀ r, r < 4 → W.cell? ⟨g, 0 + j * 4 + r, none⟩ = (qvals qs[j])[r]? := fun r hr => by
      rw [Nat.zero_add, row_cell hg]
      have e2 : (cur.toList.take (qs.length * 4))[j * 4 + r]? = cur.toList[j * 4 + r]? := List.getElem?_take_of_lt (by omega)
      rw [htk] at e2
      rw [← Array.getElem?_toList, ← e2, flat_at qs j r hj' hr]
    have c0 := cell 0 (by decide)
    have c1 := cell 1 (by decide)
    have c2 := cell 2 (by decide)
    have c3 := cell 3 (by decide)
    rw [List.getElem_map]
    obtain ⟨o1, k1, hv1⟩ := own_slc hq.l
    obtain ⟨o2, k2, hv2⟩ := own_slc hq.h
    refine ⟨o1, k1, o2, k2, ⟨c0, c1, ?_, ?_, ?_⟩⟩
    · rw [← hv1]; exact c2
    · rw [← hv2]; exact c3
    · exact ⟨own_row (hv1 ▸ hq.l) hF.l, own_row (hv2 ▸ hq.h) hF.h, hF.k, hF.i, hF.n⟩
end Go.Proofs.Ytjjanmgeogjngaa

