/- The base in memory: M tells which blocks are its own to turn. -/
import Derived.Test.YthpebfojkpnojaaNil
namespace Go.Proofs.Ythpebfojkpnojaa
open Go.RowKit Go.Maps
set_option linter.unusedVariables false
set_option linter.unusedSimpArgs false

/-- Nothing is turned but blocks of M, and what is new. -/
structure Fm (M : Nat → Prop) (W W' : World) : Prop where
  os : W'.os = W.os
  tape : W'.tape = W.tape
  output : W'.output = W.output
  size : W.heap.size ≤ W'.heap.size
  block : ∀ g, g < W.heap.size → ¬ M g → W'.heap[g]? = W.heap[g]?
/-- The blocks to turn are the old ones, or new. -/
def Mn (W : World) (M M' : Nat → Prop) : Prop := ∀ g, M' g → M g ∨ W.heap.size ≤ g
theorem Mn.refl (W : World) (M : Nat → Prop) : Mn W M M := fun _ h => .inl h
theorem Mn.trans {W W1 : World} {M M1 M2 : Nat → Prop} (h : Mn W M M1) (h1 : Mn W1 M1 M2) (hs : W.heap.size ≤ W1.heap.size) : Mn W M M2 := fun g hg => by
  rcases h1 g hg with h2 | h2
  · exact h g h2
  · exact .inr (Nat.le_trans hs h2)
theorem Mn.not {W : World} {M M' : Nat → Prop} (h : Mn W M M') {g : Nat} (hg : g < W.heap.size) (hm : ¬ M g) : ¬ M' g := fun h2 => by
  rcases h g h2 with h3 | h3
  · exact hm h3
  · omega
theorem Fm.refl (M : Nat → Prop) (W : World) : Fm M W W := ⟨rfl, rfl, rfl, Nat.le_refl _, fun _ _ _ => rfl⟩
theorem Fm.trans {M M1 : Nat → Prop} {W W1 W2 : World} (h : Fm M W W1) (h1 : Fm M1 W1 W2) (hm : Mn W M M1) : Fm M W W2 :=
  ⟨h1.os.trans h.os, h1.tape.trans h.tape, h1.output.trans h.output, Nat.le_trans h.size h1.size, fun g hg hn => (h1.block g (Nat.lt_of_lt_of_le hg h.size) (hm.not hg hn)).trans (h.block g hg hn)⟩
theorem Fm.of_below {M : Nat → Prop} {W W' : World} (h : Below W.heap.size W W') : Fm M W W' := ⟨h.os, h.tape, h.output, h.size, fun g hg _ => h.block g hg⟩
theorem Fm.below {M : Nat → Prop} {n : Nat} {W W' : World} (h : Fm M W W') (hn : n ≤ W.heap.size) (hm : ∀ g, M g → n ≤ g) : Below n W W' := ⟨h.os, h.tape, h.output, h.size, fun g hg => h.block g (by omega) (fun h2 => by have := hm g h2; omega)⟩
theorem Fm.set {M : Nat → Prop} (W : World) {b k : Nat} (hm : M b) (u : Value) : Fm M W (W.setCell ⟨b, k, none⟩ u) := ⟨rfl, rfl, rfl, by simp [World.setCell], fun g _ hn => heap_other W u (fun e => hn (e ▸ hm))⟩
theorem Fm.grown {M : Nat → Prop} {W W' : World} {row : Option Nat} (h : W.grownBy W' row) (hr : ∀ k, row = some k → M k) : Fm M W W' := ⟨h.os, h.tape, h.output, h.size, fun g hg hn => h.block g hg (fun e => hn (hr g e.symm))⟩
/-- A row that is not the base's to turn. -/
def RI (k : IntKind) (lo hi : Int) (M : Nat → Prop) (W : World) (a : Option Addr) (xs : List Int) : Prop := Row k lo hi W a xs ∧ ∀ b off, a = some ⟨b, off, none⟩ → xs ≠ [] → ¬ M b
abbrev LI := RI .i32 (-2147483648) 2147483647
abbrev HI := RI .i64 (-9223372036854775808) 9223372036854775807
theorem RI.fm {k : IntKind} {lo hi : Int} {M M' : Nat → Prop} {W W' : World} {a : Option Addr} {xs : List Int} (h : RI k lo hi M W a xs) (hf : Fm M W W') (hm : Mn W M M') : RI k lo hi M' W' a xs := by
  obtain ⟨⟨h1, h2⟩, h3⟩ := h
  rcases h2 with h2 | ⟨b, off, e, hl, hc⟩
  · exact ⟨⟨h1, .inl h2⟩, fun b off _ hne => absurd h2 hne⟩
  · by_cases hx : xs = []
    · exact ⟨⟨h1, .inl hx⟩, fun b off _ hne => absurd hx hne⟩
    · have hn := h3 b off e hx
      refine ⟨⟨h1, .inr ⟨b, off, e, Nat.lt_of_lt_of_le hl hf.size, fun j hj => (World.cell?_of_block (w := W) (a := ⟨b, off + j, none⟩) (hf.block b hl hn)).trans (hc j hj)⟩⟩, fun b2 off2 e2 _ => ?_⟩
      rw [e] at e2
      cases e2
      exact hm.not hl hn
theorem RI.below {k : IntKind} {lo hi : Int} {M : Nat → Prop} {W W' : World} {a : Option Addr} {xs : List Int} (h : RI k lo hi M W a xs) (hb : Below W.heap.size W W') : RI k lo hi M W' a xs := h.fm (Fm.of_below hb) (Mn.refl _ _)
/-- A row of its own, in a block that it may turn. -/
def OwnM (M : Nat → Prop) (W : World) (e : TypeId) (size : Nat) (v : Value) (n : Nat) (xs : List Value) : Prop := W.ownsRow 0 e size v n xs ∧ ∀ g, v.ownBlock = some g → M g
def entV (e : Bas.E) (a : Option Addr) (c : Nat) : Value := .agg #[.int .i64 e.id, .slice a e.lits.length c, .bool e.red]
/-- What stands under an id. -/
def EntAt (M : Nat → Prop) (W : World) (o : Option Bas.E) (v : Option Value) : Prop := match o with
  | none => v = none
  | some e => ∃ a c, v = some (entV e a c) ∧ LI M W a e.lits ∧ e.lits.length ≤ c ∧ c ≤ maxLen
/-- A literal's row: its ids, those that went among them. -/
structure RowAt (M : Nat → Prop) (W : World) (last : Int) (L : List Bas.E) (l : Int) (v : Value) (rb : Nat) (ids : List Int) (iv : Value) : Prop where
  ptr : v = .pointer (some ⟨rb, 0, none⟩)
  mine : M rb
  blk : ∃ go la, W.heap[rb]? = some (.cells #[iv, .int .i64 go, .int .i64 la] 92 (0, 0)) ∧ I64 go ∧ I64 la
  own : OwnM M W 2 1 iv ids.length (ids.map (Value.int .i64))
  occ : ids.filter (fun i => (Bas.look L i).isSome) = Bas.occ L l
  sorted : ids.Pairwise (· < ·) ∧ ∀ i ∈ ids, 0 < i ∧ i ≤ last
def ruleV (r : Bas.Rl) (a : Option Addr) (c : Nat) (a2 : Option Addr) (c2 : Nat) : List Value := [.int .u8 r.kind, .int .i64 r.id, .int .i64 r.by_, .bool r.red, .slice a r.lits.length c, .slice a2 r.hints.length c2]
abbrev RlM := Bas.Rl × (Option Addr × Nat) × (Option Addr × Nat)
def rlv (q : RlM) : List Value := ruleV q.1 q.2.1.1 q.2.1.2 q.2.2.1 q.2.2.2
abbrev WtM := (List Int × List Int) × (Option Addr × Nat) × (Option Addr × Nat)
def wtv (q : WtM) : List Value := [.slice q.2.1.1 q.1.1.length q.2.1.2, .slice q.2.2.1 q.1.2.length q.2.2.2]
/-- The base in memory. -/
structure Bs (M : Nat → Prop) (bb K : Nat) (s : Bas.S) (W : World) : Prop where
  vars : 0 ≤ s.vars ∧ s.vars ≤ 1048576
  mem : ∃ bm br k k2 f g rv sv tv, ∃ (R : List RlM) (Z : List WtM) (rw : Int → Nat) (ids : Int → List Int) (iv : Int → Value),
    W.heap[bb]? = some (.cells #[.int .i64 s.vars, .int .i64 s.form, .int .i64 s.last, .map (some bm), .map (some br), rv, .int .i64 (Bas.nsteps s : Nat), sv, tv] 78 (0, 0)) ∧
    M bb ∧ M bm ∧ M br ∧ bm ≠ br ∧
    (Mp W bm k f ∧ k ≤ K ∧ ∀ id, I64 id → EntAt M W (Bas.look s.live id) (f id)) ∧
    (Mr W br k2 g ∧ k2 ≤ K ∧ (∀ l v, g l = some v → RowAt M W s.last s.live l v (rw l) (ids l) (iv l)) ∧ (∀ l, g l = none → Bas.occ s.live l = []) ∧
      (∀ l l' v v', g l = some v → g l' = some v' → l ≠ l' → rw l ≠ rw l' ∧ ∀ q, (iv l).ownBlock = some q → (iv l').ownBlock ≠ some q)) ∧
    (OwnM M W 81 6 rv R.length (R.flatMap rlv) ∧ R.map (·.1) = s.rules ∧ ∀ q ∈ R, LI M W q.2.1.1 q.1.lits ∧ HI M W q.2.2.1 q.1.hints) ∧
    (OwnM M W 67 2 sv Z.length (Z.flatMap wtv) ∧ Z.map (·.1) = s.stack ∧ ∀ q ∈ Z, LI M W q.2.1.1 q.1.1 ∧ LI M W q.2.2.1 q.1.2) ∧
    (OwnM M W 45 1 tv (s.vars.toNat + 1) (List.replicate (s.vars.toNat + 1) (.int .i32 0)))
set_option maxHeartbeats 2000000 in
theorem vars12 {M : Nat → Prop} {bb K : Nat} {s : Bas.S} {W : World} (h : Bs M bb K s W) : Calls Try.prog 12 #[.pointer (some ⟨bb, 0, none⟩)] W fun e w' => e = .returned (.int .i64 s.vars) ∧ w' = W := by
  obtain ⟨bm, br, k, k2, f, g, rv, sv, tv, R, Z, rw', ids, iv, hb, _⟩ := h.mem
  have x0 := row_cell hb 0
  simp only [List.getElem?_toArray, List.getElem?_cons_zero, List.getElem?_cons_succ] at x0
  clear hb h
  go_enter Try.func12, Try.ntmps12
  go_wp2
  go_ret
  exact ⟨rfl, rfl⟩
set_option maxHeartbeats 2000000 in
theorem last13 {M : Nat → Prop} {bb K : Nat} {s : Bas.S} {W : World} (h : Bs M bb K s W) : Calls Try.prog 13 #[.pointer (some ⟨bb, 0, none⟩)] W fun e w' => e = .returned (.int .i64 s.last) ∧ w' = W := by
  obtain ⟨bm, br, k, k2, f, g, rv, sv, tv, R, Z, rw', ids, iv, hb, _⟩ := h.mem
  have x0 := row_cell hb 2
  simp only [List.getElem?_toArray, List.getElem?_cons_zero, List.getElem?_cons_succ] at x0
  clear hb h
  go_enter Try.func13, Try.ntmps13
  go_wp2
  go_ret
  exact ⟨rfl, rfl⟩
set_option maxHeartbeats 2000000 in
theorem full28 {M : Nat → Prop} {bb K : Nat} {s : Bas.S} {W : World} (h : Bs M bb K s W) : Calls Try.prog 28 #[.pointer (some ⟨bb, 0, none⟩)] W fun e w' => e = .returned (.bool (Bas.full s)) ∧ w' = W := by
  obtain ⟨bm, br, k, k2, f, g, rv, sv, tv, R, Z, rw', ids, iv, hb, _⟩ := h.mem
  have x0 := row_cell hb 6
  simp only [List.getElem?_toArray, List.getElem?_cons_zero, List.getElem?_cons_succ] at x0
  clear hb h
  by_cases hf : 4194304 ≤ Bas.nsteps s
  · have e : Bas.full s = true := by simp [Bas.full, hf]
    have hf' : (4194304 : Int) ≤ (Bas.nsteps s : Nat) := by omega
    rw [e]
    clear e hf
    generalize Bas.nsteps s = m at *
    go_enter Try.func28, Try.ntmps28
    go_wp2
    go_ret
    exact ⟨rfl, rfl⟩
  · have e : Bas.full s = false := by simp [Bas.full, hf]
    have hf' : ¬ (4194304 : Int) ≤ (Bas.nsteps s : Nat) := by omega
    rw [e]
    clear e hf
    generalize Bas.nsteps s = m at *
    go_enter Try.func28, Try.ntmps28
    go_wp2
    go_ret
    exact ⟨rfl, rfl⟩
end Go.Proofs.Ythpebfojkpnojaa
