/- The four clauses of two variables. -/
import Derived.Test.YthpebfojkpnojaaGreatJbf
import Derived.Laws.Rows
import Derived.Test.YthpebfojkpnojaaGreatJbi
import Derived.Test.YthpebfojkpnojaaGreatJbj
import Derived.Test.YthpebfojkpnojaaGreatJap
import Derived.Shelf.SlGeneric
import Derived.Shelf.SlSortCmp.NoneTotal
import Derived.Shelf.SlicesE.Compact
import Derived.Shelf.Small.Bits
import Derived.Ground.NamesProg
import Derived.Ground.SlsfProg
import Derived.Ground.SlgnProg
import Derived.Ground.SlsgProg
import Derived.Test.YthpebfojkpnojaaGreatProg
import Init
/- The four clauses of two variables. -/
namespace Go.Proofs.YthpebfojkpnojaaGreat
open Go.RowKit Go.Maps
set_option linter.unusedVariables false
set_option linter.unusedSimpArgs false
set_option maxRecDepth 100000
theorem results_row1 {P : Program} {fn : Func} {p : Tmp} {ty : TypeId} (h : fn.results = #[.cell p ty]) (tmps : Array Value) (w : World) (g : Nat) (t : TypeId) (cs : Array Value) (fr : Nat × Nat) (d : TypeDesc)
    (hp : tmps.getD p undef = .pointer (some ⟨g, 0, none⟩)) (hg : w.heap[g]? = some (.cells cs t fr))
    (hu : P.underlying ty = some d) (hd : (match d with | .struct _ | .array _ _ => true | _ => false) = true) (hi : (P.info? ty).map (·.size) = some cs.size) :
    (results fn tmps).run P w = .ok (.agg cs) w := by
  have hp' : tmps[p]?.getD undef = .pointer (some ⟨g, 0, none⟩) := by simpa using hp
  simp [results, h, hp', asAddr, run_loadVar_row w g t ty cs fr d hg hu hd hi]
theorem lits2 {W : World} {b : Nat} {x y : Int} (h : W.heap[b]? = some (.cells #[.int .i32 x, .int .i32 y] 66 (0, 0))) (hx : -2147483648 ≤ x ∧ x ≤ 2147483647) (hy : -2147483648 ≤ y ∧ y ≤ 2147483647) : Lits W (some ⟨b, 0, none⟩) [x, y] := by
  refine ⟨fun z hz => by simp at hz; rcases hz with rfl | rfl <;> assumption, .inr ⟨b, 0, rfl, lt_of_blk h, fun j hj => ?_⟩⟩
  have hcase : j = 0 ∨ j = 1 := by simp at hj; omega
  rcases hcase with rfl | rfl
  · exact row_cell h 0
  · exact row_cell h 1
def sq : List (List Int) := [[1, 2], [-1, 2], [1, -2], [-1, -2]]
set_option maxHeartbeats 4000000 in
theorem square45 (w : World) : Calls Tryz.prog 30 #[] w fun e w' => ∃ a, e = .returned (.agg #[.int .i64 2, .slice a 4 4]) ∧ Cls w' a sq ∧ Below w.heap.size w w' := by
  go_enter Tryz.func30, Tryz.ntmps30
  go_wp2_with fail
  generalize hW : ((((((w.alloc (Obj.cells #[Value.int IntKind.i64 2, Value.slice (some { block := w.heap.size + 1 + 1 + 1 + 1 + 1, off := 0 }) 4 4] 24)).alloc (Obj.cells #[Value.int IntKind.i32 1, Value.int IntKind.i32 2] 66)).alloc (Obj.cells #[Value.int IntKind.i32 (-1), Value.int IntKind.i32 2] 66)).alloc (Obj.cells #[Value.int IntKind.i32 1, Value.int IntKind.i32 (-2)] 66)).alloc (Obj.cells #[Value.int IntKind.i32 (-1), Value.int IntKind.i32 (-2)] 66)).alloc
      (Obj.cells #[Value.slice (some { block := w.heap.size + 1, off := 0 }) 2 2, Value.slice (some { block := w.heap.size + 1 + 1, off := 0 }) 2 2, Value.slice (some { block := w.heap.size + 1 + 1 + 1, off := 0 }) 2 2, Value.slice (some { block := w.heap.size + 1 + 1 + 1 + 1, off := 0 }) 2 2] 38)) = V
  have hB : Below w.heap.size w V := by
    rw [← hW]
    exact bla (bla (bla (bla (bla (bla (Below.refl _ _) _) _) _) _) _) _
  have hs : V.heap.size = w.heap.size + 6 := by rw [← hW]; simp only [alloc_size]
  have g0 : V.heap[w.heap.size]? = some (.cells #[.int .i64 2, .slice (some ⟨w.heap.size + 1 + 1 + 1 + 1 + 1, 0, none⟩) 4 4] 24 (0, 0)) := by
    rw [← hW]; simp only [alloc_get, alloc_size]; repeat (first | rw [if_pos trivial] | rw [if_pos (by omega)] | rw [if_neg (by omega)])
  have g1 : V.heap[w.heap.size + 1]? = some (.cells #[.int .i32 1, .int .i32 2] 66 (0, 0)) := by
    rw [← hW]; simp only [alloc_get, alloc_size]; repeat (first | rw [if_pos trivial] | rw [if_pos (by omega)] | rw [if_neg (by omega)])
  have g2 : V.heap[w.heap.size + 1 + 1]? = some (.cells #[.int .i32 (-1), .int .i32 2] 66 (0, 0)) := by
    rw [← hW]; simp only [alloc_get, alloc_size]; repeat (first | rw [if_pos trivial] | rw [if_pos (by omega)] | rw [if_neg (by omega)])
  have g3 : V.heap[w.heap.size + 1 + 1 + 1]? = some (.cells #[.int .i32 1, .int .i32 (-2)] 66 (0, 0)) := by
    rw [← hW]; simp only [alloc_get, alloc_size]; repeat (first | rw [if_pos trivial] | rw [if_pos (by omega)] | rw [if_neg (by omega)])
  have g4 : V.heap[w.heap.size + 1 + 1 + 1 + 1]? = some (.cells #[.int .i32 (-1), .int .i32 (-2)] 66 (0, 0)) := by
    rw [← hW]; simp only [alloc_get, alloc_size]; repeat (first | rw [if_pos trivial] | rw [if_pos (by omega)] | rw [if_neg (by omega)])
  have g5 : V.heap[w.heap.size + 1 + 1 + 1 + 1 + 1]? = some (.cells #[.slice (some ⟨w.heap.size + 1, 0, none⟩) 2 2, .slice (some ⟨w.heap.size + 1 + 1, 0, none⟩) 2 2, .slice (some ⟨w.heap.size + 1 + 1 + 1, 0, none⟩) 2 2, .slice (some ⟨w.heap.size + 1 + 1 + 1 + 1, 0, none⟩) 2 2] 38 (0, 0)) := by
    rw [← hW]; simp only [alloc_get, alloc_size]; repeat (first | rw [if_pos trivial] | rw [if_pos (by omega)] | rw [if_neg (by omega)])
  clear hW
  refine bodyPost_ret (results_row1 rfl _ _ w.heap.size 24 _ (0, 0) _ rfl g0 Tryz.underlying24 rfl (by kernel_rfl)) rfl ?_
  refine ⟨_, rfl, ⟨by intro c hc; simp [sq] at hc; rcases hc with rfl | rfl | rfl | rfl <;> decide, .inr ⟨_, 0, rfl, lt_of_blk g5, fun j hj => ?_⟩⟩, hB⟩
  have hj4 : j < 4 := hj
  have hcase : j = 0 ∨ j = 1 ∨ j = 2 ∨ j = 3 := by omega
  rcases hcase with rfl | rfl | rfl | rfl
  · exact ⟨_, _, row_cell g5 0, lits2 g1 (by decide) (by decide)⟩
  · exact ⟨_, _, row_cell g5 1, lits2 g2 (by decide) (by decide)⟩
  · exact ⟨_, _, row_cell g5 2, lits2 g3 (by decide) (by decide)⟩
  · exact ⟨_, _, row_cell g5 3, lits2 g4 (by decide) (by decide)⟩
end Go.Proofs.YthpebfojkpnojaaGreat

/- The base at work: what is called of it, one behind the other. -/
namespace Go.Proofs.YthpebfojkpnojaaGreat
open Go.RowKit Go.Maps
set_option linter.unusedVariables false
set_option linter.unusedSimpArgs false
set_option maxRecDepth 100000
/-- A base of blocks of its own, behind a world. -/
def Bst (w : World) (bb B : Nat) (s : Bas.S) (X : World) : Prop := ∃ M K, Bs M bb K s X ∧ K ≤ B ∧ (∀ g, M g → w.heap.size ≤ g ∧ g < X.heap.size) ∧ Below w.heap.size w X
theorem Bst.below {w : World} {bb B : Nat} {s : Bas.S} {X X' : World} (h : Bst w bb B s X) (hX : Below X.heap.size X X') : Bst w bb B s X' := by
  obtain ⟨M, K, h1, h2, h3, h4⟩ := h
  exact ⟨M, K, h1.below hX, h2, fun g hg => ⟨(h3 g hg).1, Nat.lt_of_lt_of_le (h3 g hg).2 hX.size⟩, h4.trans (hX.mono h4.size)⟩
theorem Bst.step {w : World} {bb B B' K' : Nat} {s' : Bas.S} {V X X' : World} {M M' : Nat → Prop} (hM : ∀ g, M g → w.heap.size ≤ g ∧ g < V.heap.size) (hw : Below w.heap.size w V) (hV : Below V.heap.size V X) (h : Bs M' bb K' s' X') (hK : K' ≤ B') (hF : Fm M X X') (hN : Mn X M M') : Bst w bb B' s' X' := by
  have hwX : Below w.heap.size w X := hw.trans (hV.mono hw.size)
  refine ⟨fun g => M' g ∧ g < X'.heap.size, K', h.cap, hK, fun g hg => ⟨?_, hg.2⟩, hwX.trans (hF.below hwX.size (fun g hg => (hM g hg).1))⟩
  rcases hN g hg.1 with h1 | h1
  · exact (hM g h1).1
  · exact Nat.le_trans hwX.size h1
theorem Bst.add {w : World} {bb B : Nat} {s : Bas.S} {V X : World} (h : Bst w bb B s V) (hX : Below V.heap.size V X) (hg : Bas.Good s) (hll : ∀ e ∈ s.live, e.lits.length ≤ 100000000) (hL : s.last < 100000000) (hru : s.rules.length ≤ 1000000000) (hB : B ≤ 1000000000)
    (a : Option Addr) (n c : Nat) (lits : List Int) (hn : lits.length = n) (hN : n ≤ 16777216) (hl : Lits X a lits) (hla : ∀ b off, a = some ⟨b, off, none⟩ → V.heap.size ≤ b)
    (ah : Option Addr) (nh ch : Nat) (hs : List Int) (hnh : hs.length = nh) (hNh : nh ≤ 16777216) (hh : Hnts X ah hs) (hha : ∀ b off, ah = some ⟨b, off, none⟩ → V.heap.size ≤ b) (red : Bool) :
    Calls Tryz.prog 20 #[.pointer (some ⟨bb, 0, none⟩), .slice a n c, .slice ah nh ch, .bool red] X fun en w' => en = .returned (.tuple #[.int .i64 (Bas.addR s lits hs), .int .i64 (Bas.addE s lits hs)]) ∧ Bst w bb (B + 1 + n) (Bas.addS s lits hs red) w' := by
  obtain ⟨M, K, h1, h2, h3, h4⟩ := h
  have h0 : 0 ≤ s.last := by have := hg.form; omega
  refine (add5 (h1.below hX) hg hll h0 hL hru a n c lits hn hN (by unfold maxLen; omega) ⟨hl, fun b off e _ hm => ?_⟩ ah nh ch hs hnh hNh ⟨hh, fun b off e _ hm => ?_⟩ red).mono ?_
  · have := hla b off e; have := (h3 b hm).2; omega
  · have := hha b off e; have := (h3 b hm).2; omega
  · rintro en w' ⟨e, M', q1, q2, q3⟩
    exact ⟨e, Bst.step (B := B) h3 h4 hX q1 (by omega) q2 q3⟩
theorem Bst.delete {w : World} {bb B : Nat} {s : Bas.S} {X : World} (h : Bst w bb B s X) (hL : s.last ≤ 100000000) (hlit : ∀ e ∈ s.live, e.lits.length ≤ 100000000) (hn : s.rules.length ≤ 1000000000) (id : Int) (hi : I64 id) :
    Calls Tryz.prog 23 #[.pointer (some ⟨bb, 0, none⟩), .int .i64 id] X fun en w' => en = .returned (.int .i64 (Bas.deleteE s id)) ∧ Bst w bb B (Bas.deleteS s id) w' := by
  obtain ⟨M, K, h1, h2, h3, h4⟩ := h
  refine (delete9 h1 hL hlit hn id hi).mono ?_
  rintro en w' ⟨e, M', q1, q2, q3⟩
  exact ⟨e, Bst.step (B := B) h3 h4 (Below.refl _ _) q1 h2 q2 q3⟩
theorem Bst.drop {w : World} {bb B : Nat} {s : Bas.S} {X : World} (h : Bst w bb B s X) (hB : B ≤ 1000000000) (hL : s.last ≤ 100000000) (hlit : ∀ e ∈ s.live, e.lits.length ≤ 16) (hn : s.rules.length ≤ 1000000000) (id by_ : Int) (hi : I64 id) (hj : I64 by_) (hb0 : by_ ≠ 0) (h0 : Bas.dropE s id by_ = 0) :
    Calls Tryz.prog 24 #[.pointer (some ⟨bb, 0, none⟩), .int .i64 id, .int .i64 by_] X fun en w' => en = .returned (.int .i64 0) ∧ Bst w bb (B + 1) (Bas.dropS s id by_) w' := by
  obtain ⟨M, K, h1, h2, h3, h4⟩ := h
  refine (drop10_ok h1 (by unfold maxLen; omega) hL hlit hn id by_ hi hj hb0 h0).mono ?_
  rintro en w' ⟨e, M', q1, q2, q3⟩
  exact ⟨e, Bst.step (B := B) h3 h4 (Below.refl _ _) q1 (by omega) q2 q3⟩
theorem Bst.empty {w : World} {bb B : Nat} {s : Bas.S} {X : World} (h : Bst w bb B s X) (hg : Bas.Good s) (hL : s.last ≤ 1000000000) :
    Calls Tryz.prog 27 #[.pointer (some ⟨bb, 0, none⟩)] X fun en w' => en = .returned (.tuple #[.int .i64 (Bas.emptyOf s.live), .bool (Bas.emptyOf s.live != 0)]) ∧ Bst w bb B s w' := by
  have h' := h
  obtain ⟨M, K, h1, h2, h3, h4⟩ := h
  refine (empty7 h1 hg hL).mono ?_
  rintro en w' ⟨e, q1⟩
  exact ⟨e, h'.below q1⟩
theorem Bst.entries {w : World} {bb B : Nat} {s : Bas.S} {X : World} (h : Bst w bb B s X) (hg : Bas.Good s) (hL : s.last ≤ 1000000000) (hB : B ≤ 100000000) (hlen : ∀ e ∈ s.live, e.lits.length ≤ 16777216) (hn : s.live.length ≤ 5500000) :
    Calls Tryz.prog 18 #[.pointer (some ⟨bb, 0, none⟩)] X fun en w' => (∃ o c, en = .returned (.slice o s.live.length c)) ∧ Bst w bb B s w' := by
  have h' := h
  obtain ⟨M, K, h1, h2, h3, h4⟩ := h
  obtain ⟨bm, k, D, x3, hk, hown, hsz, hss⟩ := keys_perm h1 hg hL
  refine (entries14 h1 hlen x3 hown s.live.length hsz hn (s.live.map (·.id)) (by simp) (fun i hi => ?_) (keysC hown (by omega) _ hss)).mono ?_
  · obtain ⟨e, he, rfl⟩ := List.mem_map.1 hi
    have := hg.ids e he
    exact ⟨by omega, by omega⟩
  · rintro en w' ⟨o, c, e, q1⟩
    exact ⟨⟨o, c, e⟩, h'.below q1⟩
theorem Bst.steps {w : World} {bb B : Nat} {s : Bas.S} {X : World} (h : Bst w bb B s X) (hns : Bas.nsteps s ≤ 4194304) (hn : s.rules.length ≤ 1000000000) (hk : ∀ r ∈ s.rules, (r.kind = 1 ∨ r.kind = 2 ∨ r.kind = 3 ∨ r.kind = 4 ∨ r.kind = 5) ∧ r.lits.length ≤ 16777216 ∧ r.hints.length ≤ 16777216) :
    Calls Tryz.prog 38 #[.pointer (some ⟨bb, 0, none⟩)] X fun en w' => (∃ o c, en = .returned (.slice o (Bas.nsteps s) c)) ∧ Bst w bb B s w' := by
  have h' := h
  obtain ⟨M, K, h1, h2, h3, h4⟩ := h
  refine (steps16 h1 hns hn hk).mono ?_
  rintro en w' ⟨o, c, e, q1⟩
  exact ⟨⟨o, c, e⟩, h'.below q1⟩
end Go.Proofs.YthpebfojkpnojaaGreat

/-
  DERIVED: THE SHELF's CONTRACTS AT THIS DUMP, IN PLAIN WORDS (tools/lay-plain.mjs out of 'YthpebfojkpnojaaShelz.lean', which tools/lay-shelf.mjs wrote): THE SAME DECLARATIONS UNDER THE SAME NAMES: 'import', 'namespace', 'open', 'def', 'theorem' AND NOTHING ELSE: no command of the shelf's: FOR A HAND-IN. Each laying: the table of numbers ('.._ren') and one theorem, a field a fact of the dump's own or the kernel's comparison; each contract: ONE APPLICATION.
-/
namespace Go.Proofs
open Go.Shelf
def Tryz.pdqL_ren : Go.Shelf.Ren := ⟨fun | 14 => 156 | 20 => 163 | 21 => 164 | 22 => 165 | 23 => 166 | 24 => 167 | 25 => 168 | 26 => 169 | 27 => 170 | 46 => 173 | 47 => 148 | 48 => 149 | 49 => 174 | 50 => 175 | 15 => 115 | 57 => 176 | 28 => 132 | 29 => 133 | n => n, fun | 24 => 66 | 22 => 37 | 3 => 3 | 25 => 190 | 4 => 4 | 0 => 0 | 46 => 174 | 45 => 173 | 50 => 179 | 66 => 193 | 39 => 155 | 55 => 183 | 70 => 197 | 76 => 203 | 77 => 204 | 53 => 120 | 5 => 5 | 9 => 9 | n => n, fun | n => n⟩
theorem Tryz.pdqL : Go.Proofs.SlLaysF.n14 Tryz.prog Tryz.pdqL_ren := {
  mixed := by kernel_rfl
  f14 := ⟨Tryz.f156.name, by decide, Tryz.func156.trans (congrArg some (by kernel_rfl))⟩
  f15 := Tryz.func115.trans (congrArg some (by kernel_rfl))
  f20 := ⟨Tryz.f163.name, by decide, Tryz.func163.trans (congrArg some (by kernel_rfl))⟩
  f21 := ⟨Tryz.f164.name, by decide, Tryz.func164.trans (congrArg some (by kernel_rfl))⟩
  f22 := ⟨Tryz.f165.name, by decide, Tryz.func165.trans (congrArg some (by kernel_rfl))⟩
  f23 := ⟨Tryz.f166.name, by decide, Tryz.func166.trans (congrArg some (by kernel_rfl))⟩
  f24 := ⟨Tryz.f167.name, by decide, Tryz.func167.trans (congrArg some (by kernel_rfl))⟩
  f25 := ⟨Tryz.f168.name, by decide, Tryz.func168.trans (congrArg some (by kernel_rfl))⟩
  f26 := ⟨Tryz.f169.name, by decide, Tryz.func169.trans (congrArg some (by kernel_rfl))⟩
  f27 := ⟨Tryz.f170.name, by decide, Tryz.func170.trans (congrArg some (by kernel_rfl))⟩
  f28 := Tryz.func132.trans (congrArg some (by kernel_rfl))
  f29 := Tryz.func133.trans (congrArg some (by kernel_rfl))
  f46 := ⟨Tryz.f173.name, by decide, Tryz.func173.trans (congrArg some (by kernel_rfl))⟩
  f47 := Tryz.func148.trans (congrArg some (by kernel_rfl))
  f48 := Tryz.func149.trans (congrArg some (by kernel_rfl))
  f49 := ⟨Tryz.f174.name, by decide, Tryz.func174.trans (congrArg some (by kernel_rfl))⟩
  f50 := ⟨Tryz.f175.name, by decide, Tryz.func175.trans (congrArg some (by kernel_rfl))⟩
  f57 := ⟨Tryz.f176.name, by decide, Tryz.func176.trans (congrArg some (by kernel_rfl))⟩
  t0 := Tryz.underlying0
  a0 := Tryz.isAgg0
  z0 := Tryz.sizeOf0
  v0 := Tryz.zeroValue0
  t3 := Tryz.underlying3
  a3 := Tryz.isAgg3
  z3 := Tryz.sizeOf3
  v3 := Tryz.zeroValue3
  t4 := Tryz.underlying4
  a4 := Tryz.isAgg4
  z4 := Tryz.sizeOf4
  v4 := Tryz.zeroValue4
  t5 := Tryz.underlying5
  a5 := Tryz.isAgg5
  z5 := Tryz.sizeOf5
  v5 := Tryz.zeroValue5
  t9 := Tryz.underlying9
  a9 := Tryz.isAgg9
  z9 := Tryz.sizeOf9
  v9 := Tryz.zeroValue9
  t22 := Tryz.underlying37
  a22 := Tryz.isAgg37
  z22 := Tryz.sizeOf37
  v22 := Tryz.zeroValue37
  a24 := Tryz.isAgg66
  z24 := Tryz.sizeOf66
  t25 := Tryz.underlying190
  a25 := Tryz.isAgg190
  z25 := Tryz.sizeOf190
  v25 := Tryz.zeroValue190
  t39 := Tryz.underlying155
  a39 := Tryz.isAgg155
  z39 := Tryz.sizeOf155
  v39 := Tryz.zeroValue155
  t45 := Tryz.underlying173
  a45 := Tryz.isAgg173
  z45 := Tryz.sizeOf173
  v45 := Tryz.zeroValue173
  t46 := Tryz.underlying174
  a46 := Tryz.isAgg174
  z46 := Tryz.sizeOf174
  v46 := Tryz.zeroValue174
  t50 := Tryz.underlying179
  a50 := Tryz.isAgg179
  z50 := Tryz.sizeOf179
  v50 := Tryz.zeroValue179
  t53 := Tryz.underlying120
  a53 := Tryz.isAgg120
  z53 := Tryz.sizeOf120
  v53 := Tryz.zeroValue120
  t55 := Tryz.underlying183
  a55 := Tryz.isAgg183
  z55 := Tryz.sizeOf183
  v55 := Tryz.zeroValue183
  t66 := Tryz.underlying193
  a66 := Tryz.isAgg193
  z66 := Tryz.sizeOf193
  v66 := Tryz.zeroValue193
  t70 := Tryz.underlying197
  a70 := Tryz.isAgg197
  z70 := Tryz.sizeOf197
  v70 := Tryz.zeroValue197
  t76 := Tryz.underlying203
  a76 := Tryz.isAgg203
  z76 := Tryz.sizeOf203
  v76 := Tryz.zeroValue203
  t77 := Tryz.underlying204
  a77 := Tryz.isAgg204
  z77 := Tryz.sizeOf204
  v77 := Tryz.zeroValue204 }
def Tryz.compactL_ren : Go.Shelf.Ren := ⟨fun | 43 => 144 | n => n, fun | 22 => 38 | 23 => 66 | 3 => 3 | 4 => 4 | 0 => 0 | n => n, fun | n => n⟩
theorem Tryz.compactL : Go.Proofs.SlLaysE.n43 Tryz.prog Tryz.compactL_ren := {
  mixed := by kernel_rfl
  f43 := ⟨Tryz.f144.name, by decide, Tryz.func144.trans (congrArg some (by kernel_rfl))⟩
  t0 := Tryz.underlying0
  a0 := Tryz.isAgg0
  z0 := Tryz.sizeOf0
  v0 := Tryz.zeroValue0
  t3 := Tryz.underlying3
  a3 := Tryz.isAgg3
  z3 := Tryz.sizeOf3
  v3 := Tryz.zeroValue3
  t4 := Tryz.underlying4
  a4 := Tryz.isAgg4
  z4 := Tryz.sizeOf4
  v4 := Tryz.zeroValue4
  t22 := Tryz.underlying38
  a22 := Tryz.isAgg38
  z22 := Tryz.sizeOf38
  v22 := Tryz.zeroValue38
  a23 := Tryz.isAgg66
  z23 := Tryz.sizeOf66 }
def Tryz.bitsLenL_ren : Go.Shelf.Ren := ⟨fun | 125 => 115 | 128 => 132 | 129 => 133 | n => n, fun | 46 => 155 | 3 => 3 | 51 => 120 | 53 => 183 | 4 => 4 | 5 => 5 | 9 => 9 | n => n, fun | n => n⟩
theorem Tryz.bitsLenL : Go.Proofs.Lays.n125 Tryz.prog Tryz.bitsLenL_ren := {
  mixed := by kernel_rfl
  f125 := Tryz.func115.trans (congrArg some (by kernel_rfl))
  f128 := Tryz.func132.trans (congrArg some (by kernel_rfl))
  f129 := Tryz.func133.trans (congrArg some (by kernel_rfl))
  t3 := Tryz.underlying3
  a3 := Tryz.isAgg3
  z3 := Tryz.sizeOf3
  v3 := Tryz.zeroValue3
  t4 := Tryz.underlying4
  a4 := Tryz.isAgg4
  z4 := Tryz.sizeOf4
  v4 := Tryz.zeroValue4
  t5 := Tryz.underlying5
  a5 := Tryz.isAgg5
  z5 := Tryz.sizeOf5
  v5 := Tryz.zeroValue5
  t9 := Tryz.underlying9
  a9 := Tryz.isAgg9
  z9 := Tryz.sizeOf9
  v9 := Tryz.zeroValue9
  t46 := Tryz.underlying155
  a46 := Tryz.isAgg155
  z46 := Tryz.sizeOf155
  v46 := Tryz.zeroValue155
  t51 := Tryz.underlying120
  a51 := Tryz.isAgg120
  z51 := Tryz.sizeOf120
  v51 := Tryz.zeroValue120
  t53 := Tryz.underlying183
  a53 := Tryz.isAgg183
  z53 := Tryz.sizeOf183
  v53 := Tryz.zeroValue183 }
end Go.Proofs

/- Plain functions on lists of integers and of Booleans: what the document's words on literals, clauses and models say; nothing of the program. -/
namespace Cnf

def vr (l : Int) : Int := if l < 0 then -l else l
def tr (l : Int) (m : List Bool) : Bool := decide (1 ≤ vr l) && (decide (vr l ≤ m.length) && (m.getD (vr l - 1).toNat false == decide (0 < l)))
def val (c : List Int) (m : List Bool) : Bool := c.any (fun l => tr l m)

theorem vr_nonneg (l : Int) : 0 ≤ vr l := by unfold vr; split <;> omega
theorem vr_le (l : Int) (h1 : -2147483648 ≤ l) (h2 : l ≤ 2147483647) : vr l ≤ 2147483648 := by unfold vr; split <;> omega


theorem take_snoc (xs : List Int) (k : Nat) (h : k < xs.length) : xs.take (k + 1) = xs.take k ++ [xs.getD k 0] := by
  rw [List.take_succ_eq_append_getElem h]; simp [List.getD, List.getElem?_eq_getElem h]
theorem getD_mem (xs : List Int) (k : Nat) (h : k < xs.length) : xs.getD k 0 ∈ xs := by simp [List.getD, List.getElem?_eq_getElem h]
theorem val_take (xs : List Int) (m : List Bool) (k : Nat) (h : k < xs.length) : val (xs.take (k + 1)) m = (val (xs.take k) m || tr (xs.getD k 0) m) := by
  rw [take_snoc xs k h]; simp [val]
theorem val_true (xs : List Int) (m : List Bool) (k : Nat) (h : k < xs.length) (ht : tr (xs.getD k 0) m = true) : val xs m = true := by
  simp only [val, List.any_eq_true]; exact ⟨_, getD_mem xs k h, ht⟩


/-! ### The order of literals -/
def cmp3 (x y : Int) : Int := if x < y then -1 else if y < x then 1 else 0
def cmpL (a b : Int) : Int := if vr a < vr b then -1 else if vr b < vr a then 1 else cmp3 a b
def LtL (a b : Int) : Prop := vr a < vr b ∨ (vr a = vr b ∧ a < b)

theorem cmpL_neg (a b : Int) : cmpL a b < 0 ↔ LtL a b := by
  unfold cmpL cmp3 LtL
  split
  · constructor <;> intro <;> omega
  · split
    · constructor <;> intro <;> omega
    · split
      · constructor <;> intro <;> omega
      · split <;> constructor <;> intro <;> omega
theorem cmpL_zero (a b : Int) : cmpL a b = 0 ↔ a = b := by
  unfold cmpL cmp3
  constructor
  · intro h
    split at h
    · omega
    · split at h
      · omega
      · split at h
        · omega
        · split at h <;> omega
  · intro h
    subst h
    simp
theorem LtL.irrefl (a : Int) : ¬ LtL a a := by unfold LtL; omega
theorem LtL.trans {a b c : Int} (h1 : LtL a b) (h2 : LtL b c) : LtL a c := by unfold LtL at *; omega
theorem LtL.total {a b : Int} (h1 : ¬ LtL a b) (h2 : ¬ LtL b a) : a = b := by unfold LtL at *; omega

/-- The row ys is the set of xs in order, each once. -/
def Nrm (xs ys : List Int) : Prop := ys.Pairwise LtL ∧ ∀ x, x ∈ ys ↔ x ∈ xs

theorem sorted_eq : ∀ {ys zs : List Int}, ys.Pairwise LtL → zs.Pairwise LtL → (∀ x, x ∈ ys ↔ x ∈ zs) → ys = zs
  | [], [], _, _, _ => rfl
  | [], z :: zs, _, _, h => by have := (h z).2 (by simp); simp at this
  | y :: ys, [], _, _, h => by have := (h y).1 (by simp); simp at this
  | y :: ys, z :: zs, h1, h2, h => by
    have a1 := List.pairwise_cons.1 h1
    have a2 := List.pairwise_cons.1 h2
    have e : y = z := by
      have b1 := (h y).1 (by simp)
      have b2 := (h z).2 (by simp)
      simp only [List.mem_cons] at b1 b2
      rcases b1 with b1 | b1
      · exact b1
      · rcases b2 with b2 | b2
        · exact b2.symm
        · exact absurd ((a1.1 z b2).trans (a2.1 y b1)) (LtL.irrefl y)
    subst e
    have t : ys = zs := sorted_eq a1.2 a2.2 (fun x => by
      have hx := h x
      simp only [List.mem_cons] at hx
      constructor
      · intro m
        rcases hx.1 (Or.inr m) with e | e
        · subst e; exact absurd (a1.1 x m) (LtL.irrefl x)
        · exact e
      · intro m
        rcases hx.2 (Or.inr m) with e | e
        · subst e; exact absurd (a2.1 x m) (LtL.irrefl x)
        · exact e)
    rw [t]

theorem Nrm.unique {xs ys zs : List Int} (h1 : Nrm xs ys) (h2 : Nrm xs zs) : ys = zs := sorted_eq h1.1 h2.1 (fun x => (h1.2 x).trans (h2.2 x).symm)

/-! ### What a row has -/
def has (xs : List Int) (x : Int) : Bool := xs.any (fun y => x == y)
theorem has_iff (xs : List Int) (x : Int) : has xs x = true ↔ x ∈ xs := by simp [has]
theorem has_false (xs : List Int) (x : Int) : has xs x = false ↔ x ∉ xs := by rw [← has_iff]; simp
def but (xs : List Int) (l : Int) : List Int := xs.filter (fun x => x != l)
theorem mem_but (xs : List Int) (l x : Int) : x ∈ but xs l ↔ x ∈ xs ∧ x ≠ l := by simp [but]
theorem but_take (xs : List Int) (l : Int) (k : Nat) (h : k < xs.length) : but (xs.take (k + 1)) l = but (xs.take k) l ++ (if xs.getD k 0 != l then [xs.getD k 0] else []) := by
  rw [take_snoc xs k h]
  unfold but
  rw [List.filter_append]
  congr 1
  generalize xs.getD k 0 = y
  by_cases e : y = l <;> simp [e]
theorem but_len (xs : List Int) (l : Int) : (but xs l).length ≤ xs.length := List.length_filter_le _ _

def both (xs : List Int) : Bool := xs.any (fun x => decide (0 < x) && xs.contains (-x))

end Cnf

