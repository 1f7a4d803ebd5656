/- The base in memory: M tells which blocks are its own to turn. -/
import Derived.Test.YthpebfojkpnojaaGreatJac
import Derived.Deep.RegionHeld3
/- The base in memory: M tells which blocks are its own to turn. -/
namespace Go.Proofs.YthpebfojkpnojaaGreat
open Go.RowKit Go.Maps
set_option linter.unusedVariables false
set_option linter.unusedSimpArgs false

/-- Nothing is turned but blocks of M, and what is new. -/
structure Fm (M : Nat → Prop) (W W' : World) : Prop where
  os : W'.os = W.os
  tape : W'.tape = W.tape
  output : W'.output = W.output
  size : W.heap.size ≤ W'.heap.size
  block : ∀ g, g < W.heap.size → ¬ M g → W'.heap[g]? = W.heap[g]?
/-- The blocks to turn are the old ones, or new. -/
def Mn (W : World) (M M' : Nat → Prop) : Prop := ∀ g, M' g → M g ∨ W.heap.size ≤ g
theorem Mn.refl (W : World) (M : Nat → Prop) : Mn W M M := fun _ h => .inl h
theorem Mn.trans {W W1 : World} {M M1 M2 : Nat → Prop} (h : Mn W M M1) (h1 : Mn W1 M1 M2) (hs : W.heap.size ≤ W1.heap.size) : Mn W M M2 := fun g hg => by
  rcases h1 g hg with h2 | h2
  · exact h g h2
  · exact .inr (Nat.le_trans hs h2)
theorem Mn.not {W : World} {M M' : Nat → Prop} (h : Mn W M M') {g : Nat} (hg : g < W.heap.size) (hm : ¬ M g) : ¬ M' g := fun h2 => by
  rcases h g h2 with h3 | h3
  · exact hm h3
  · omega
theorem Fm.refl (M : Nat → Prop) (W : World) : Fm M W W := ⟨rfl, rfl, rfl, Nat.le_refl _, fun _ _ _ => rfl⟩
theorem Fm.trans {M M1 : Nat → Prop} {W W1 W2 : World} (h : Fm M W W1) (h1 : Fm M1 W1 W2) (hm : Mn W M M1) : Fm M W W2 :=
  ⟨h1.os.trans h.os, h1.tape.trans h.tape, h1.output.trans h.output, Nat.le_trans h.size h1.size, fun g hg hn => (h1.block g (Nat.lt_of_lt_of_le hg h.size) (hm.not hg hn)).trans (h.block g hg hn)⟩
theorem Fm.of_below {M : Nat → Prop} {W W' : World} (h : Below W.heap.size W W') : Fm M W W' := ⟨h.os, h.tape, h.output, h.size, fun g hg _ => h.block g hg⟩
theorem Fm.below {M : Nat → Prop} {n : Nat} {W W' : World} (h : Fm M W W') (hn : n ≤ W.heap.size) (hm : ∀ g, M g → n ≤ g) : Below n W W' := ⟨h.os, h.tape, h.output, h.size, fun g hg => h.block g (by omega) (fun h2 => by have := hm g h2; omega)⟩
theorem Fm.set {M : Nat → Prop} (W : World) {b k : Nat} (hm : M b) (u : Value) : Fm M W (W.setCell ⟨b, k, none⟩ u) := ⟨rfl, rfl, rfl, by simp [World.setCell], fun g _ hn => heap_other W u (fun e => hn (e ▸ hm))⟩
theorem Fm.grown {M : Nat → Prop} {W W' : World} {row : Option Nat} (h : W.grownBy W' row) (hr : ∀ k, row = some k → M k) : Fm M W W' := ⟨h.os, h.tape, h.output, h.size, fun g hg hn => h.block g hg (fun e => hn (hr g e.symm))⟩
/-- A row that is not the base's to turn. -/
def RI (k : IntKind) (lo hi : Int) (M : Nat → Prop) (W : World) (a : Option Addr) (xs : List Int) : Prop := Row k lo hi W a xs ∧ ∀ b off, a = some ⟨b, off, none⟩ → xs ≠ [] → ¬ M b
abbrev LI := RI .i32 (-2147483648) 2147483647
abbrev HI := RI .i64 (-9223372036854775808) 9223372036854775807
theorem RI.fm {k : IntKind} {lo hi : Int} {M M' : Nat → Prop} {W W' : World} {a : Option Addr} {xs : List Int} (h : RI k lo hi M W a xs) (hf : Fm M W W') (hm : Mn W M M') : RI k lo hi M' W' a xs := by
  obtain ⟨⟨h1, h2⟩, h3⟩ := h
  rcases h2 with h2 | ⟨b, off, e, hl, hc⟩
  · exact ⟨⟨h1, .inl h2⟩, fun b off _ hne => absurd h2 hne⟩
  · by_cases hx : xs = []
    · exact ⟨⟨h1, .inl hx⟩, fun b off _ hne => absurd hx hne⟩
    · have hn := h3 b off e hx
      refine ⟨⟨h1, .inr ⟨b, off, e, Nat.lt_of_lt_of_le hl hf.size, fun j hj => (World.cell?_of_block (w := W) (a := ⟨b, off + j, none⟩) (hf.block b hl hn)).trans (hc j hj)⟩⟩, fun b2 off2 e2 _ => ?_⟩
      rw [e] at e2
      cases e2
      exact hm.not hl hn
theorem RI.below {k : IntKind} {lo hi : Int} {M : Nat → Prop} {W W' : World} {a : Option Addr} {xs : List Int} (h : RI k lo hi M W a xs) (hb : Below W.heap.size W W') : RI k lo hi M W' a xs := h.fm (Fm.of_below hb) (Mn.refl _ _)
/-- A row of its own, in a block that it may turn. -/
def OwnM (M : Nat → Prop) (W : World) (e : TypeId) (size : Nat) (v : Value) (n : Nat) (xs : List Value) : Prop := W.ownsRow 0 e size v n xs ∧ ∀ g, v.ownBlock = some g → M g
def entV (e : Bas.E) (a : Option Addr) (c : Nat) : Value := .agg #[.int .i64 e.id, .slice a e.lits.length c, .bool e.red]
/-- What stands under an id. -/
def EntAt (M : Nat → Prop) (W : World) (o : Option Bas.E) (v : Option Value) : Prop := match o with
  | none => v = none
  | some e => ∃ a c, v = some (entV e a c) ∧ LI M W a e.lits ∧ e.lits.length ≤ c ∧ c ≤ maxLen
/-- A literal's row: its ids, those that went among them. -/
structure RowAt (M : Nat → Prop) (W : World) (last : Int) (L : List Bas.E) (l : Int) (v : Value) (rb : Nat) (ids : List Int) (iv : Value) : Prop where
  ptr : v = .pointer (some ⟨rb, 0, none⟩)
  mine : M rb
  blk : ∃ go la, W.heap[rb]? = some (.cells #[iv, .int .i64 go, .int .i64 la] 88 (0, 0)) ∧ I64 go ∧ I64 la
  own : OwnM M W 2 1 iv ids.length (ids.map (Value.int .i64))
  occ : ids.filter (fun i => (Bas.look L i).isSome) = Bas.occ L l
  sorted : ids.Pairwise (· < ·) ∧ ∀ i ∈ ids, 0 < i ∧ i ≤ last
def ruleV (r : Bas.Rl) (a : Option Addr) (c : Nat) (a2 : Option Addr) (c2 : Nat) : List Value := [.int .u8 r.kind, .int .i64 r.id, .int .i64 r.by_, .bool r.red, .slice a r.lits.length c, .slice a2 r.hints.length c2]
abbrev RlM := Bas.Rl × (Option Addr × Nat) × (Option Addr × Nat)
def rlv (q : RlM) : List Value := ruleV q.1 q.2.1.1 q.2.1.2 q.2.2.1 q.2.2.2
abbrev WtM := (List Int × List Int) × (Option Addr × Nat) × (Option Addr × Nat)
def wtv (q : WtM) : List Value := [.slice q.2.1.1 q.1.1.length q.2.1.2, .slice q.2.2.1 q.1.2.length q.2.2.2]
/-- The base in memory. -/
structure Bs (M : Nat → Prop) (bb K : Nat) (s : Bas.S) (W : World) : Prop where
  vars : 0 ≤ s.vars ∧ s.vars ≤ 1048576
  mem : ∃ bm br k k2 f g rv sv tv, ∃ (R : List RlM) (Z : List WtM) (rw : Int → Nat) (ids : Int → List Int) (iv : Int → Value),
    W.heap[bb]? = some (.cells #[.int .i64 s.vars, .int .i64 s.form, .int .i64 s.last, .map (some bm), .map (some br), rv, .int .i64 (Bas.nsteps s : Nat), sv, tv] 76 (0, 0)) ∧
    M bb ∧ M bm ∧ M br ∧ bm ≠ br ∧
    (Mp W bm k f ∧ k ≤ K ∧ ∀ id, I64 id → EntAt M W (Bas.look s.live id) (f id)) ∧
    (Mr W br k2 g ∧ k2 ≤ K ∧ (∀ l v, g l = some v → RowAt M W s.last s.live l v (rw l) (ids l) (iv l)) ∧ (∀ l, g l = none → Bas.occ s.live l = []) ∧
      (∀ l l' v v', g l = some v → g l' = some v' → l ≠ l' → rw l ≠ rw l' ∧ ∀ q, (iv l).ownBlock = some q → (iv l').ownBlock ≠ some q)) ∧
    (OwnM M W 92 6 rv R.length (R.flatMap rlv) ∧ R.map (·.1) = s.rules ∧ ∀ q ∈ R, LI M W q.2.1.1 q.1.lits ∧ HI M W q.2.2.1 q.1.hints) ∧
    (OwnM M W 95 2 sv Z.length (Z.flatMap wtv) ∧ Z.map (·.1) = s.stack ∧ ∀ q ∈ Z, LI M W q.2.1.1 q.1.1 ∧ LI M W q.2.2.1 q.1.2) ∧
    (OwnM M W 66 1 tv (s.vars.toNat + 1) (List.replicate (s.vars.toNat + 1) (.int .i32 0)))
set_option maxHeartbeats 2000000 in
theorem vars12 {M : Nat → Prop} {bb K : Nat} {s : Bas.S} {W : World} (h : Bs M bb K s W) : Calls Tryz.prog 60 #[.pointer (some ⟨bb, 0, none⟩)] W fun e w' => e = .returned (.int .i64 s.vars) ∧ w' = W := by
  obtain ⟨bm, br, k, k2, f, g, rv, sv, tv, R, Z, rw', ids, iv, hb, _⟩ := h.mem
  have x0 := row_cell hb 0
  simp only [List.getElem?_toArray, List.getElem?_cons_zero, List.getElem?_cons_succ] at x0
  clear hb h
  go_enter Tryz.func60, Tryz.ntmps60
  go_wp2
  go_ret
  exact ⟨rfl, rfl⟩
set_option maxHeartbeats 2000000 in
theorem last13 {M : Nat → Prop} {bb K : Nat} {s : Bas.S} {W : World} (h : Bs M bb K s W) : Calls Tryz.prog 61 #[.pointer (some ⟨bb, 0, none⟩)] W fun e w' => e = .returned (.int .i64 s.last) ∧ w' = W := by
  obtain ⟨bm, br, k, k2, f, g, rv, sv, tv, R, Z, rw', ids, iv, hb, _⟩ := h.mem
  have x0 := row_cell hb 2
  simp only [List.getElem?_toArray, List.getElem?_cons_zero, List.getElem?_cons_succ] at x0
  clear hb h
  go_enter Tryz.func61, Tryz.ntmps61
  go_wp2
  go_ret
  exact ⟨rfl, rfl⟩
set_option maxHeartbeats 2000000 in
theorem full28 {M : Nat → Prop} {bb K : Nat} {s : Bas.S} {W : World} (h : Bs M bb K s W) : Calls Tryz.prog 66 #[.pointer (some ⟨bb, 0, none⟩)] W fun e w' => e = .returned (.bool (Bas.full s)) ∧ w' = W := by
  obtain ⟨bm, br, k, k2, f, g, rv, sv, tv, R, Z, rw', ids, iv, hb, _⟩ := h.mem
  have x0 := row_cell hb 6
  simp only [List.getElem?_toArray, List.getElem?_cons_zero, List.getElem?_cons_succ] at x0
  clear hb h
  by_cases hf : 4194304 ≤ Bas.nsteps s
  · have e : Bas.full s = true := by simp [Bas.full, hf]
    have hf' : (4194304 : Int) ≤ (Bas.nsteps s : Nat) := by omega
    rw [e]
    clear e hf
    generalize Bas.nsteps s = m at *
    go_enter Tryz.func66, Tryz.ntmps66
    go_wp2
    go_ret
    exact ⟨rfl, rfl⟩
  · have e : Bas.full s = false := by simp [Bas.full, hf]
    have hf' : ¬ (4194304 : Int) ≤ (Bas.nsteps s : Nat) := by omega
    rw [e]
    clear e hf
    generalize Bas.nsteps s = m at *
    go_enter Tryz.func66, Tryz.ntmps66
    go_wp2
    go_ret
    exact ⟨rfl, rfl⟩
end Go.Proofs.YthpebfojkpnojaaGreat

/- Var, has, left: what is asked of literals. -/
namespace Go.Proofs.YthpebfojkpnojaaGreat
open Go.RowKit Go.Maps
set_option linter.unusedVariables false
set_option linter.unusedSimpArgs false
set_option maxRecDepth 100000
def Drawn (w w' : World) : Prop := ∃ q, w' = w.drewN q
theorem Drawn.refl (w : World) : Drawn w w := ⟨0, rfl⟩
theorem Drawn.drewN {w w' : World} (h : Drawn w w') (n : Nat) : Drawn w (w'.drewN n) := by obtain ⟨q, rfl⟩ := h; exact ⟨q + n, by rw [World.drewN_drewN]⟩
theorem Drawn.trans {w w' w'' : World} (h : Drawn w w') (k : Drawn w' w'') : Drawn w w'' := by obtain ⟨q, rfl⟩ := k; exact h.drewN q
theorem Drawn.cell {w w' : World} (h : Drawn w w') (a : Addr) : w'.cell? a = w.cell? a := by obtain ⟨q, rfl⟩ := h; rfl
theorem Drawn.below {w w' : World} (h : Drawn w w') : Below w.heap.size w w' := by obtain ⟨q, rfl⟩ := h; exact ⟨rfl, rfl, rfl, Nat.le_refl _, fun _ _ => rfl⟩
theorem vr_pos {l : Int} (h : ¬ l < 0) : Bas.vr l = l := by unfold Bas.vr; rw [if_neg h]
theorem vr_neg {l : Int} (h : l < 0) : Bas.vr l = -l := by unfold Bas.vr; rw [if_pos h]
set_option maxHeartbeats 1000000 in
theorem var49 (l : Int) (W : World) (hl : I32 l) : Calls Tryz.prog 71 #[.int .i32 l] W fun e w' => e = .returned (.int .i64 (Bas.vr l)) ∧ w' = W := by
  have h1 := hl.1
  have h2 := hl.2
  clear hl
  by_cases h : l < 0
  · rw [vr_neg h]
    go_enter Tryz.func71, Tryz.ntmps71
    go_wp2
    go_ret
    exact ⟨rfl, rfl⟩
  · rw [vr_pos h]
    go_enter Tryz.func71, Tryz.ntmps71
    go_wp2
    go_ret
    exact ⟨rfl, rfl⟩
theorem has_cons (vars : Int) (xs : List Int) (k : Nat) (hk : k < xs.length) : Bas.has vars (xs.take (k + 1)) = (Bas.has vars (xs.take k) && (decide (1 ≤ Bas.vr (xs.getD k 0)) && decide (Bas.vr (xs.getD k 0) ≤ vars))) := by
  unfold Bas.has
  rw [List.take_succ_eq_append_getElem hk, List.all_append]
  simp [List.getD, hk]
theorem has_no (vars : Int) (xs : List Int) (k : Nat) (hk : k < xs.length) (h : ¬ (1 ≤ Bas.vr (xs.getD k 0) ∧ Bas.vr (xs.getD k 0) ≤ vars)) : Bas.has vars xs = false := by
  cases hh : Bas.has vars xs with
  | false => rfl
  | true =>
    exfalso
    have := List.all_eq_true.1 hh _ (getD_mem xs k hk)
    simp only [Bool.and_eq_true, decide_eq_true_eq] at this
    exact h this
set_option maxHeartbeats 2000000 in
theorem has29 {M : Nat → Prop} {bb K : Nat} {s : Bas.S} {W : World} (h : Bs M bb K s W) (a : Option Addr) (n c : Nat) (xs : List Int) (hn : xs.length = n) (hN : n ≤ 35184372088832) (hx : Lits W a xs) :
    Calls Tryz.prog 67 #[.pointer (some ⟨bb, 0, none⟩), .slice a n c] W fun e w' => e = .returned (.bool (Bas.has s.vars xs)) ∧ w' = W := by
  obtain ⟨bm, br, k, k2, f, g, rv, sv, tv, R, Z, rw', ids, iv, hb, _⟩ := h.mem
  have x0 : W.cell? ⟨bb, 0, none⟩ = some (.int .i64 s.vars) := row_cell hb 0
  have HX0 := hid x0
  have hv := h.vars
  have HX := hid hx
  have HN := hid hn
  have sh : Hid (n = 0) ∨ ∃ b off, a = some ⟨b, off, none⟩ := by
    rcases hx.2 with h | ⟨b, off, e, _⟩
    · left; rw [h] at hn; exact hn.symm
    · exact .inr ⟨b, off, e⟩
  generalize s.vars = vs at *
  clear hb h hx hn x0
  rcases sh with Z | ⟨b, off, rfl⟩
  all_goals
    go_enter Tryz.func67, Tryz.ntmps67
    go_wp2_with fail
    go_loop [6, 7, 10] (fun _ _ iv => ∃ k : Nat, k ≤ n ∧ iv = .int .i64 k ∧ Hid (Bas.has vs (xs.take k) = true)) (fun _ _ iv => n - (intOf iv).toNat)
    case atStart => exact ⟨0, Nat.zero_le _, rfl, hid (by simp [Bas.has])⟩
    case round =>
      obtain ⟨k, hk, rfl, HH⟩ := hrel
      by_cases hlt : k < n
      · first
        | (exfalso; have := Z.out; omega)
        | (have hlt' : (k : Int) < n := by omega
           have hkx : k < xs.length := by rw [HN.out]; exact hlt
           obtain ⟨b2, off2, e2, _, hc, hlo, hhi⟩ := Row.at HX.out hkx
           cases e2
           have C49 := hid (var49 (xs.getD k 0) W ⟨hlo, hhi⟩)
           have HT := hid (has_cons vs xs k hkx)
           have HF := hid (has_no vs xs k hkx)
           have x0 := HX0.out
           generalize xs.getD k 0 = lv at *
           generalize Bas.vr lv = vv at *
           by_cases h1 : vv < 1
           · have HE := hid (HF.out (by omega))
             go_wp2_with (go_at_call 71; refine C49.out.mono ?_; rintro e w4 ⟨rfl, hw4⟩; rw [hw4]; clear hw4)
             go_ret
             exact ⟨by rw [HE.out]; rfl, rfl⟩
           · by_cases h2 : vs < vv
             · have HE := hid (HF.out (by omega))
               go_wp2_with (go_at_call 71; refine C49.out.mono ?_; rintro e w4 ⟨rfl, hw4⟩; rw [hw4]; clear hw4)
               go_ret
               exact ⟨by rw [HE.out]; rfl, rfl⟩
             · have HE := hid (show Bas.has vs (xs.take (k + 1)) = true by rw [HT.out, HH.out]; simp; omega)
               go_wp2_with (go_at_call 71; refine C49.out.mono ?_; rintro e w4 ⟨rfl, hw4⟩; rw [hw4]; clear hw4)
               go_round
               case rel => exact ⟨k + 1, by omega, by go_num, HE⟩
               case measure => simp [intOf]; omega)
      · have hge : ¬ (k : Int) < n := by omega
        have HE := hid (show Bas.has vs xs = true by have := HH.out; rwa [List.take_of_length_le (by rw [HN.out]; omega)] at this)
        go_wp2
        go_ret
        exact ⟨by rw [HE.out]; rfl, rfl⟩
end Go.Proofs.YthpebfojkpnojaaGreat

/- left: what of a clause is not false. -/
namespace Bas
/-- What a check has found true, by variables. -/
structure Tru (T ts : List Int) : Prop where
  at_ : ∀ l, 1 ≤ vr l → vr l < ts.length → (ts.getD (vr l).toNat 0 = l ↔ l ∈ T)
  free : ∀ v : Nat, v < ts.length → (ts.getD v 0 = 0 ∨ vr (ts.getD v 0) = v)
theorem leftP_step (T : List Int) (l : Int) (d : List Int) (f : Int) : leftP T (l :: d) f = if l = f ∨ -l ∈ T then leftP T d f else if f ≠ 0 then (2, f) else leftP T d l := rfl
end Bas
namespace Go.Proofs.YthpebfojkpnojaaGreat
open Go.RowKit Go.Maps
set_option linter.unusedVariables false
set_option linter.unusedSimpArgs false
set_option maxRecDepth 100000
set_option maxHeartbeats 4000000 in
theorem left52 {bb gt m ct : Nat} {W : World} {ts T : List Int} (x8 : W.cell? ⟨bb, 8, none⟩ = some (.slice (some ⟨gt, 0, none⟩) m ct)) (hm : ts.length = m) (hmm : m ≤ 1048577) (hts : ∀ v, v < m → W.cell? ⟨gt, v, none⟩ = some (.int .i32 (ts.getD v 0))) (hT : Bas.Tru T ts)
    (a : Option Addr) (n c : Nat) (xs : List Int) (hn : xs.length = n) (hN : n ≤ 35184372088832) (hx : Lits W a xs) (hxs : ∀ x ∈ xs, 1 ≤ Bas.vr x ∧ Bas.vr x < m) :
    Calls Tryz.prog 100 #[.pointer (some ⟨bb, 0, none⟩), .slice a n c] W fun e w' => e = .returned (.tuple #[.int .i64 (Bas.leftP T xs 0).1, .int .i32 (Bas.leftP T xs 0).2]) ∧ Drawn W w' := by
  have HX8 := hid x8
  have HTS := hid hts
  have HT := hid hT
  have HX := hid hx
  have HN := hid hn
  have HM := hid hm
  have HXS := hid hxs
  have sh : Hid (n = 0) ∨ ∃ b off, a = some ⟨b, off, none⟩ := by
    rcases hx.2 with h | ⟨b, off, e, _⟩
    · left; rw [h] at hn; exact hn.symm
    · exact .inr ⟨b, off, e⟩
  clear x8 hts hT hx hn hm hxs
  obtain ⟨R, hR⟩ : ∃ R, Bas.leftP T xs 0 = R := ⟨_, rfl⟩
  have HR := hid hR
  rw [hR]
  clear hR
  rcases sh with Z | ⟨b, off, rfl⟩
  all_goals
    go_enter Tryz.func100, Tryz.ntmps100
    go_wp2_with fail
    go_loopw [6, 8, 11] (fun fv _ iv wr => ∃ (k : Nat) (f : Int), k ≤ n ∧ iv = .int .i64 k ∧ fv = .int .i32 f ∧ I32 f ∧ Hid (Bas.leftP T (xs.drop k) f = R) ∧ Hid (Drawn W wr)) (fun _ _ iv _ => n - (intOf iv).toNat)
    case atStart => exact ⟨0, 0, Nat.zero_le _, rfl, rfl, ⟨by decide, by decide⟩, hid (by rw [List.drop_zero]; exact HR.out), hid (Drawn.refl _)⟩
    case round =>
      obtain ⟨k, f, hk, rfl, rfl, hf, HL, HD⟩ := hrel
      by_cases hlt : k < n
      · first
        | (exfalso; have := Z.out; omega)
        | (have hlt' : (k : Int) < n := by omega
           have hkx : k < xs.length := by rw [HN.out]; exact hlt
           obtain ⟨b2, off2, e2, _, hc, hlo, hhi⟩ := Row.at HX.out hkx
           cases e2
           obtain ⟨hv1, hv2⟩ := HXS.out _ (getD_mem xs k hkx)
           have HDR := hid (show xs.drop k = xs.getD k 0 :: xs.drop (k + 1) by rw [List.drop_eq_getElem_cons hkx]; simp [List.getD, hkx])
           have C49 := hid (fun X => var49 (xs.getD k 0) X ⟨hlo, hhi⟩)
           obtain ⟨v, hv⟩ : ∃ v : Nat, Bas.vr (xs.getD k 0) = v := ⟨(Bas.vr (xs.getD k 0)).toNat, by omega⟩
           rw [hv] at hv1 hv2 C49
           have hvm : v < m := by omega
           have hvm' : (v : Int) < m := by omega
           have ht := HTS.out v hvm
           have HA := hid (show ts.getD v 0 = -(xs.getD k 0) ↔ -(xs.getD k 0) ∈ T by
             have hvn : Bas.vr (-(xs.getD k 0)) = v := by rw [← hv]; unfold Bas.vr; split <;> split <;> omega
             have := HT.out.at_ (-(xs.getD k 0)) (by rw [hvn]; exact hv1) (by rw [hvn, HM.out]; omega)
             rw [hvn] at this
             exact this)
           rw [← HD.out.cell] at hc
           have x8 := HX8.out
           have HQX := hid (show ∀ X, Drawn W X → X.cell? ⟨bb, 8, none⟩ = some (.slice (some ⟨gt, 0, none⟩) m ct) ∧ X.cell? ⟨gt, v, none⟩ = some (.int .i32 (ts.getD v 0)) ∧ Drawn W X from fun X hX => ⟨(hX.cell _).trans x8, (hX.cell _).trans ht, hX⟩)
           have hwn : xs.getD k 0 ≠ -2147483648 := fun e => by rw [e] at hv; unfold Bas.vr at hv; simp at hv; omega
           generalize xs.getD k 0 = lv at *
           generalize ts.getD v 0 = tv at *
           clear x8 ht
           have hwr : IntKind.i32.wrap (-lv) = -lv := by rw [IntKind.wrap_i32]; omega
           have HDD := hid (show Drawn W wr.drew from HD.out.trans ⟨1, rfl⟩)
           by_cases h1 : lv = f
           · have h1b : (lv == f) = true := by simpa using h1
             have HL2 := hid (show Bas.leftP T (xs.drop (k + 1)) f = R by have := HL.out; rw [HDR.out, Bas.leftP_step, if_pos (.inl h1)] at this; exact this)
             subst h1
             go_wp2_with fail
             go_quiet (fail)
             all_goals
               go_wp2
               go_roundw
               case rel => exact ⟨k + 1, lv, by omega, by go_num, rfl, hf, HL2, hid (HD.out.drewN _)⟩
               case measure => simp [intOf]; omega
           · have h1b : (lv == f) = false := by simpa using h1
             by_cases h2 : tv = -lv
             · have h2b : (tv == -lv) = true := by simpa using h2
               have HL2 := hid (show Bas.leftP T (xs.drop (k + 1)) f = R by have := HL.out; rw [HDR.out, Bas.leftP_step, if_pos (.inr (HA.out.1 h2))] at this; exact this)
               clear h1 h2
               go_wp2_with fail
               go_region_held3 (fun X => X.cell? ⟨bb, 8, none⟩ = some (.slice (some ⟨gt, 0, none⟩) m ct) ∧ X.cell? ⟨gt, v, none⟩ = some (.int .i32 tv) ∧ Drawn W X)
                 (first | exact HQX.out _ HDD.out)
                 (first | (go_at_call 71; refine (C49.out _).mono ?_; rintro e w4 ⟨rfl, hw4⟩; rw [hw4]; clear hw4))
               all_goals
                 go_wp2
                 go_roundw
                 case rel => exact ⟨k + 1, f, by omega, by go_num, rfl, hf, HL2, HDD⟩
                 case measure => simp [intOf]; omega
             · have h2b : (tv == -lv) = false := by simpa using h2
               have HL2 := hid (show (if f ≠ 0 then ((2 : Int), f) else Bas.leftP T (xs.drop (k + 1)) lv) = R by have := HL.out; rw [HDR.out, Bas.leftP_step, if_neg (fun h3 => by rcases h3 with h3 | h3; exact h1 h3; exact h2 (HA.out.2 h3))] at this; exact this)
               clear h1 h2
               by_cases h3 : f = 0
               · have h3b : (f != 0) = false := by simpa using h3
                 have HL3 := hid (show Bas.leftP T (xs.drop (k + 1)) lv = R by have := HL2.out; rwa [if_neg (by simp [h3])] at this)
                 clear h3
                 go_wp2_with fail
                 go_region_held3 (fun X => X.cell? ⟨bb, 8, none⟩ = some (.slice (some ⟨gt, 0, none⟩) m ct) ∧ X.cell? ⟨gt, v, none⟩ = some (.int .i32 tv) ∧ Drawn W X)
                   (first | exact HQX.out _ HDD.out)
                   (first | (go_at_call 71; refine (C49.out _).mono ?_; rintro e w4 ⟨rfl, hw4⟩; rw [hw4]; clear hw4))
                 all_goals
                   go_wp2
                   go_roundw
                   case rel => exact ⟨k + 1, lv, by omega, by go_num, rfl, ⟨hlo, hhi⟩, HL3, HDD⟩
                   case measure => simp [intOf]; omega
               · have h3b : (f != 0) = true := by simpa using h3
                 have HL3 := hid (show R = (2, f) by have := HL2.out; rw [if_pos h3] at this; exact this.symm)
                 clear h3
                 go_wp2_with fail
                 go_region_held3 (fun X => X.cell? ⟨bb, 8, none⟩ = some (.slice (some ⟨gt, 0, none⟩) m ct) ∧ X.cell? ⟨gt, v, none⟩ = some (.int .i32 tv) ∧ Drawn W X)
                   (first | exact HQX.out _ HDD.out)
                   (first | (go_at_call 71; refine (C49.out _).mono ?_; rintro e w4 ⟨rfl, hw4⟩; rw [hw4]; clear hw4))
                 all_goals
                   go_wp2
                   go_ret2
                   exact ⟨by rw [HL3.out]; rfl, HDD.out⟩)
      · have hge : ¬ (k : Int) < n := by omega
        have HL2 := hid (show (if f = 0 then ((0 : Int), (0 : Int)) else (1, f)) = R by
          have := HL.out
          rw [List.drop_eq_nil_of_le (by rw [HN.out]; omega)] at this
          exact this)
        by_cases h3 : f = 0
        · have h3b : (f == 0) = true := by simpa using h3
          have HL3 := hid (show R = (0, 0) by have := HL2.out; rw [if_pos h3] at this; exact this.symm)
          clear h3
          go_wp2
          go_ret2
          exact ⟨by rw [HL3.out]; rfl, HD.out⟩
        · have h3b : (f == 0) = false := by simpa using h3
          have HL3 := hid (show R = (1, f) by have := HL2.out; rw [if_neg h3] at this; exact this.symm)
          clear h3
          go_wp2
          go_ret2
          exact ⟨by rw [HL3.out]; rfl, HD.out⟩
end Go.Proofs.YthpebfojkpnojaaGreat

