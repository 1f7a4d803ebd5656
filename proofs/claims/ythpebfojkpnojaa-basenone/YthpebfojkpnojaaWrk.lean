/- The base at work: what is called of it, one behind the other. -/
import Derived.Test.YthpebfojkpnojaaStw
import Derived.Test.YthpebfojkpnojaaSrk
import Derived.Test.YthpebfojkpnojaaDrp
import Derived.Test.YthpebfojkpnojaaEmp
import Derived.Test.YthpebfojkpnojaaSqr
namespace Go.Proofs.Ythpebfojkpnojaa
open Go.RowKit Go.Maps
set_option linter.unusedVariables false
set_option linter.unusedSimpArgs false
set_option maxRecDepth 100000
/-- A base of blocks of its own, behind a world. -/
def Bst (w : World) (bb B : Nat) (s : Bas.S) (X : World) : Prop := ∃ M K, Bs M bb K s X ∧ K ≤ B ∧ (∀ g, M g → w.heap.size ≤ g ∧ g < X.heap.size) ∧ Below w.heap.size w X
theorem Bst.below {w : World} {bb B : Nat} {s : Bas.S} {X X' : World} (h : Bst w bb B s X) (hX : Below X.heap.size X X') : Bst w bb B s X' := by
  obtain ⟨M, K, h1, h2, h3, h4⟩ := h
  exact ⟨M, K, h1.below hX, h2, fun g hg => ⟨(h3 g hg).1, Nat.lt_of_lt_of_le (h3 g hg).2 hX.size⟩, h4.trans (hX.mono h4.size)⟩
theorem Bst.step {w : World} {bb B B' K' : Nat} {s' : Bas.S} {V X X' : World} {M M' : Nat → Prop} (hM : ∀ g, M g → w.heap.size ≤ g ∧ g < V.heap.size) (hw : Below w.heap.size w V) (hV : Below V.heap.size V X) (h : Bs M' bb K' s' X') (hK : K' ≤ B') (hF : Fm M X X') (hN : Mn X M M') : Bst w bb B' s' X' := by
  have hwX : Below w.heap.size w X := hw.trans (hV.mono hw.size)
  refine ⟨fun g => M' g ∧ g < X'.heap.size, K', h.cap, hK, fun g hg => ⟨?_, hg.2⟩, hwX.trans (hF.below hwX.size (fun g hg => (hM g hg).1))⟩
  rcases hN g hg.1 with h1 | h1
  · exact (hM g h1).1
  · exact Nat.le_trans hwX.size h1
theorem Bst.add {w : World} {bb B : Nat} {s : Bas.S} {V X : World} (h : Bst w bb B s V) (hX : Below V.heap.size V X) (hg : Bas.Good s) (hll : ∀ e ∈ s.live, e.lits.length ≤ 100000000) (hL : s.last < 100000000) (hru : s.rules.length ≤ 1000000000) (hB : B ≤ 1000000000)
    (a : Option Addr) (n c : Nat) (lits : List Int) (hn : lits.length = n) (hN : n ≤ 16777216) (hl : Lits X a lits) (hla : ∀ b off, a = some ⟨b, off, none⟩ → V.heap.size ≤ b)
    (ah : Option Addr) (nh ch : Nat) (hs : List Int) (hnh : hs.length = nh) (hNh : nh ≤ 16777216) (hh : Hnts X ah hs) (hha : ∀ b off, ah = some ⟨b, off, none⟩ → V.heap.size ≤ b) (red : Bool) :
    Calls Try.prog 5 #[.pointer (some ⟨bb, 0, none⟩), .slice a n c, .slice ah nh ch, .bool red] X fun en w' => en = .returned (.tuple #[.int .i64 (Bas.addR s lits hs), .int .i64 (Bas.addE s lits hs)]) ∧ Bst w bb (B + 1 + n) (Bas.addS s lits hs red) w' := by
  obtain ⟨M, K, h1, h2, h3, h4⟩ := h
  have h0 : 0 ≤ s.last := by have := hg.form; omega
  refine (add5 (h1.below hX) hg hll h0 hL hru a n c lits hn hN (by unfold maxLen; omega) ⟨hl, fun b off e _ hm => ?_⟩ ah nh ch hs hnh hNh ⟨hh, fun b off e _ hm => ?_⟩ red).mono ?_
  · have := hla b off e; have := (h3 b hm).2; omega
  · have := hha b off e; have := (h3 b hm).2; omega
  · rintro en w' ⟨e, M', q1, q2, q3⟩
    exact ⟨e, Bst.step (B := B) h3 h4 hX q1 (by omega) q2 q3⟩
theorem Bst.delete {w : World} {bb B : Nat} {s : Bas.S} {X : World} (h : Bst w bb B s X) (hL : s.last ≤ 100000000) (hlit : ∀ e ∈ s.live, e.lits.length ≤ 100000000) (hn : s.rules.length ≤ 1000000000) (id : Int) (hi : I64 id) :
    Calls Try.prog 9 #[.pointer (some ⟨bb, 0, none⟩), .int .i64 id] X fun en w' => en = .returned (.int .i64 (Bas.deleteE s id)) ∧ Bst w bb B (Bas.deleteS s id) w' := by
  obtain ⟨M, K, h1, h2, h3, h4⟩ := h
  refine (delete9 h1 hL hlit hn id hi).mono ?_
  rintro en w' ⟨e, M', q1, q2, q3⟩
  exact ⟨e, Bst.step (B := B) h3 h4 (Below.refl _ _) q1 h2 q2 q3⟩
theorem Bst.drop {w : World} {bb B : Nat} {s : Bas.S} {X : World} (h : Bst w bb B s X) (hB : B ≤ 1000000000) (hL : s.last ≤ 100000000) (hlit : ∀ e ∈ s.live, e.lits.length ≤ 16) (hn : s.rules.length ≤ 1000000000) (id by_ : Int) (hi : I64 id) (hj : I64 by_) (hb0 : by_ ≠ 0) (h0 : Bas.dropE s id by_ = 0) :
    Calls Try.prog 10 #[.pointer (some ⟨bb, 0, none⟩), .int .i64 id, .int .i64 by_] X fun en w' => en = .returned (.int .i64 0) ∧ Bst w bb (B + 1) (Bas.dropS s id by_) w' := by
  obtain ⟨M, K, h1, h2, h3, h4⟩ := h
  refine (drop10_ok h1 (by unfold maxLen; omega) hL hlit hn id by_ hi hj hb0 h0).mono ?_
  rintro en w' ⟨e, M', q1, q2, q3⟩
  exact ⟨e, Bst.step (B := B) h3 h4 (Below.refl _ _) q1 (by omega) q2 q3⟩
theorem Bst.empty {w : World} {bb B : Nat} {s : Bas.S} {X : World} (h : Bst w bb B s X) (hg : Bas.Good s) (hL : s.last ≤ 1000000000) :
    Calls Try.prog 7 #[.pointer (some ⟨bb, 0, none⟩)] X fun en w' => en = .returned (.tuple #[.int .i64 (Bas.emptyOf s.live), .bool (Bas.emptyOf s.live != 0)]) ∧ Bst w bb B s w' := by
  have h' := h
  obtain ⟨M, K, h1, h2, h3, h4⟩ := h
  refine (empty7 h1 hg hL).mono ?_
  rintro en w' ⟨e, q1⟩
  exact ⟨e, h'.below q1⟩
theorem Bst.entries {w : World} {bb B : Nat} {s : Bas.S} {X : World} (h : Bst w bb B s X) (hg : Bas.Good s) (hL : s.last ≤ 1000000000) (hB : B ≤ 100000000) (hlen : ∀ e ∈ s.live, e.lits.length ≤ 16777216) (hn : s.live.length ≤ 5500000) :
    Calls Try.prog 14 #[.pointer (some ⟨bb, 0, none⟩)] X fun en w' => (∃ o c, en = .returned (.slice o s.live.length c)) ∧ Bst w bb B s w' := by
  have h' := h
  obtain ⟨M, K, h1, h2, h3, h4⟩ := h
  obtain ⟨bm, k, D, x3, hk, hown, hsz, hss⟩ := keys_perm h1 hg hL
  refine (entries14 h1 hlen x3 hown s.live.length hsz hn (s.live.map (·.id)) (by simp) (fun i hi => ?_) (keysC hown (by omega) _ hss)).mono ?_
  · obtain ⟨e, he, rfl⟩ := List.mem_map.1 hi
    have := hg.ids e he
    exact ⟨by omega, by omega⟩
  · rintro en w' ⟨o, c, e, q1⟩
    exact ⟨⟨o, c, e⟩, h'.below q1⟩
theorem Bst.steps {w : World} {bb B : Nat} {s : Bas.S} {X : World} (h : Bst w bb B s X) (hns : Bas.nsteps s ≤ 4194304) (hn : s.rules.length ≤ 1000000000) (hk : ∀ r ∈ s.rules, (r.kind = 1 ∨ r.kind = 2 ∨ r.kind = 3 ∨ r.kind = 4 ∨ r.kind = 5) ∧ r.lits.length ≤ 16777216 ∧ r.hints.length ≤ 16777216) :
    Calls Try.prog 16 #[.pointer (some ⟨bb, 0, none⟩)] X fun en w' => (∃ o c, en = .returned (.slice o (Bas.nsteps s) c)) ∧ Bst w bb B s w' := by
  have h' := h
  obtain ⟨M, K, h1, h2, h3, h4⟩ := h
  refine (steps16 h1 hns hn hk).mono ?_
  rintro en w' ⟨o, c, e, q1⟩
  exact ⟨⟨o, c, e⟩, h'.below q1⟩
end Go.Proofs.Ythpebfojkpnojaa
