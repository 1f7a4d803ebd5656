/- A base behind so many calls that is sound: the calls again. -/
import Derived.Test.YthpebfojkpnojaaGreatJbe
import Derived.Test.YthpebfojkpnojaaGreatJbt
import Derived.Test.YthpebfojkpnojaaGreatJbk
/- A base behind so many calls that is sound: the calls again. -/
namespace Bas
theorem addS_vars (s : S) (c hs : List Int) (red : Bool) : (addS s c hs red).vars = s.vars := by unfold addS; split <;> rfl
theorem keepS_vars (s : S) (id : Int) : (keepS s id).vars = s.vars := by unfold keepS; split <;> rfl
theorem deleteS_vars (s : S) (id : Int) : (deleteS s id).vars = s.vars := by unfold deleteS; split <;> rfl
theorem dropS_vars (s : S) (id by_ : Int) : (dropS s id by_).vars = s.vars := by unfold dropS; split <;> rfl
end Bas
namespace Go.Proofs.YthpebfojkpnojaaGreat
open Go.RowKit Go.Maps
set_option linter.unusedVariables false
set_option linter.unusedSimpArgs false
set_option maxRecDepth 100000
/-- A sound base behind k calls. -/
def Rs (f : List (List Int)) (vr0 : Int) (w : World) (bb : Nat) (ss : List Bas.Cal) (k : Nat) (X : World) : Prop := ∃ B s, Bst w bb B s X ∧ B ≤ 20000000 + 1000 * k ∧ Bas.Ok k (Bas.nums (ss.take k)) s ∧ Bas.Snd f s.live ∧ s.vars = vr0
theorem Bst.add2 {w : World} {bb B : Nat} {s : Bas.S} {V X : World} (h : Bst w bb B s V) (hX : Below V.heap.size V X) (hg : Bas.Good s) (hll : ∀ e ∈ s.live, e.lits.length ≤ 100000000) (hL : s.last < 100000000) (hru : s.rules.length ≤ 1000000000) (hB : B ≤ 1000000000)
    (a : Option Addr) (n c : Nat) (lits : List Int) (hn : lits.length = n) (hN : n ≤ 16777216) (hl : Lits X a lits) (hla : ∀ b off, a = some ⟨b, off, none⟩ → V.heap.size ≤ b)
    (ah : Option Addr) (nh ch : Nat) (hs : List Int) (hnh : hs.length = nh) (hNh : nh ≤ 16777216) (hh : Hnts X ah hs) (hha : ∀ b off, ah = some ⟨b, off, none⟩ → V.heap.size ≤ b) (red : Bool) :
    Calls Tryz.prog 20 #[.pointer (some ⟨bb, 0, none⟩), .slice a n c, .slice ah nh ch, .bool red] X fun en w' => en = .returned (.tuple #[.int .i64 (Bas.addR s lits hs), .int .i64 (Bas.addE s lits hs)]) ∧ Bst w bb (B + 1 + n) (Bas.addS s lits hs red) w' ∧ X.heap.size ≤ w'.heap.size ∧ ∀ g, V.heap.size ≤ g → g < X.heap.size → w'.heap[g]? = X.heap[g]? := by
  obtain ⟨M, K, h1, h2, h3, h4⟩ := h
  have h0 : 0 ≤ s.last := by have := hg.form; omega
  refine (add5 (h1.below hX) hg hll h0 hL hru a n c lits hn hN (by unfold maxLen; omega) ⟨hl, fun b off e _ hm => ?_⟩ ah nh ch hs hnh hNh ⟨hh, fun b off e _ hm => ?_⟩ red).mono ?_
  · have := hla b off e; have := (h3 b hm).2; omega
  · have := hha b off e; have := (h3 b hm).2; omega
  · rintro en w' ⟨e, M', q1, q2, q3⟩
    exact ⟨e, Bst.step (B := B) h3 h4 hX q1 (by omega) q2 q3, q2.size, fun g hg hlt => q2.block g hlt (fun hm => by have := (h3 g hm).2; omega)⟩
section
variable {f : List (List Int)} {vr0 : Int} {w : World} {bb B : Nat} {ss : List Bas.Cal} {k : Nat} {s : Bas.S} {V X : World}
theorem rs_add (h : Bst w bb B s V) (hB : B ≤ 20000000 + 1000 * k) (ho : Bas.Ok k (Bas.nums (ss.take k)) s) (hsd : Bas.Snd f s.live) (hvr : s.vars = vr0) (hk : k < ss.length) (hn : ss.length ≤ 40) (hN : Bas.nums ss ≤ 600) (hX : Below V.heap.size V X)
    {base n c n2 c2 : Nat} {a a2 : Option Addr} (hbase : V.heap.size ≤ base) (h1 : X.ownsRow base 66 1 (.slice a n c) n (ss[k].lits.map (Value.int .i32))) (h2 : X.ownsRow base 2 1 (.slice a2 n2 c2) n2 (ss[k].hints.map (Value.int .i64))) (b1 : ∀ x ∈ ss[k].lits, -2147483648 ≤ x ∧ x ≤ 2147483647) (b2 : ∀ x ∈ ss[k].hints, -9223372036854775808 ≤ x ∧ x ≤ 9223372036854775807) (red : Bool) :
    Calls Tryz.prog 20 #[.pointer (some ⟨bb, 0, none⟩), .slice a n c, .slice a2 n2 c2, .bool red] X fun en w' => en = .returned (.tuple #[.int .i64 (Bas.addR s ss[k].lits ss[k].hints), .int .i64 (Bas.addE s ss[k].lits ss[k].hints)]) ∧ Rs f vr0 w bb ss (k + 1) w' ∧ X.heap.size ≤ w'.heap.size ∧ ∀ g, V.heap.size ≤ g → g < X.heap.size → w'.heap[g]? = X.heap[g]? := by
  have hl := Bas.nums_take ss k hk
  have hle := Bas.nums_le ss (k + 1)
  have e1 : ss[k].lits.length = n := by have := h1.1; simpa using this
  have e2 : ss[k].hints.length = n2 := by have := h2.1; simpa using this
  refine (h.add2 hX ho.good (fun e he => by have := ho.lits e he; omega) (by have := ho.last; omega) (by have := ho.rules; omega) (by omega) a n c ss[k].lits e1 (by omega) (own_row h1 b1) (fun b off e => ?_) a2 n2 c2 ss[k].hints e2 (by omega) (own_row h2 b2) (fun b off e => ?_) red).mono ?_
  · subst e
    have := (own_blk h1 (g := b) (by
      rcases h1.2 with ⟨q, _⟩ | ⟨g, c', cur, q, _⟩
      · cases q
      · cases q; rfl)).1
    omega
  · subst e
    have := (own_blk h2 (g := b) (by
      rcases h2.2 with ⟨q, _⟩ | ⟨g, c', cur, q, _⟩
      · cases q
      · cases q; rfl)).1
    omega
  · rintro en w' ⟨e, hb, hsz, hkp⟩
    exact ⟨e, ⟨_, _, hb, by omega, ok_next hk (m := n) (by omega) (ho.add _ _ red n (by omega)), Bas.addS_snd hsd _ _ red, by rw [Bas.addS_vars]; exact hvr⟩, hsz, hkp⟩
theorem rs_keep (h : Bst w bb B s V) (hB : B ≤ 20000000 + 1000 * k) (ho : Bas.Ok k (Bas.nums (ss.take k)) s) (hsd : Bas.Snd f s.live) (hvr : s.vars = vr0) (hk : k < ss.length) (hn : ss.length ≤ 40) (id : Int) (hi : I64 id) :
    Calls Tryz.prog 22 #[.pointer (some ⟨bb, 0, none⟩), .int .i64 id] V fun en w' => (∃ e : Int, en = .returned (.int .i64 e)) ∧ Rs f vr0 w bb ss (k + 1) w' := by
  refine (h.keepA (by omega) (by have := ho.rules; omega) id hi).mono ?_
  rintro en w' ⟨e, hb⟩
  exact ⟨⟨_, e⟩, _, _, hb, by omega, ok_next hk (m := 0) (by omega) (ho.keep id), Bas.keepS_snd hsd id, by rw [Bas.keepS_vars]; exact hvr⟩
theorem rs_delete (h : Bst w bb B s V) (hB : B ≤ 20000000 + 1000 * k) (ho : Bas.Ok k (Bas.nums (ss.take k)) s) (hsd : Bas.Snd f s.live) (hvr : s.vars = vr0) (hk : k < ss.length) (hn : ss.length ≤ 40) (hN : Bas.nums ss ≤ 600) (id : Int) (hi : I64 id) :
    Calls Tryz.prog 23 #[.pointer (some ⟨bb, 0, none⟩), .int .i64 id] V fun en w' => (∃ e : Int, en = .returned (.int .i64 e)) ∧ Rs f vr0 w bb ss (k + 1) w' := by
  have hle := Bas.nums_le ss k
  refine (h.delete (by have := ho.last; omega) (fun e he => by have := ho.lits e he; omega) (by have := ho.rules; omega) id hi).mono ?_
  rintro en w' ⟨e, hb⟩
  exact ⟨⟨_, e⟩, _, _, hb, by omega, ok_next hk (m := 0) (by omega) (ho.delete id), Bas.deleteS_snd ho.good hsd id, by rw [Bas.deleteS_vars]; exact hvr⟩
theorem rs_drop (h : Bst w bb B s V) (hB : B ≤ 20000000 + 1000 * k) (ho : Bas.Ok k (Bas.nums (ss.take k)) s) (hsd : Bas.Snd f s.live) (hvr : s.vars = vr0) (hk : k < ss.length) (hn : ss.length ≤ 40) (hN : Bas.nums ss ≤ 600) (id by_ : Int) (hi : I64 id) (hj : I64 by_) :
    Calls Tryz.prog 24 #[.pointer (some ⟨bb, 0, none⟩), .int .i64 id, .int .i64 by_] V fun en w' => (∃ e : Int, en = .returned (.int .i64 e)) ∧ Rs f vr0 w bb ss (k + 1) w' := by
  have hle := Bas.nums_le ss k
  refine (h.dropA ho.good (by omega) (by have := ho.last; omega) (fun e he => by have := ho.lits e he; omega) (by have := ho.rules; omega) id by_ hi hj).mono ?_
  rintro en w' ⟨e, hb⟩
  exact ⟨⟨_, e⟩, _, _, hb, by omega, ok_next hk (m := 0) (by omega) (ho.drop id by_), Bas.dropS_snd ho.good hsd id by_, by rw [Bas.dropS_vars]; exact hvr⟩
end
end Go.Proofs.YthpebfojkpnojaaGreat

/- works: the base of the four clauses of two variables. -/
namespace Go.Proofs.YthpebfojkpnojaaGreat
open Go.RowKit Go.Maps
set_option linter.unusedVariables false
set_option linter.unusedSimpArgs false
set_option maxRecDepth 100000
def s0 : Bas.S := ⟨2, 4, 4, [⟨1, [1, 2], false⟩, ⟨2, [-1, 2], false⟩, ⟨3, [1, -2], false⟩, ⟨4, [-1, -2], false⟩], [], []⟩
def s1 : Bas.S := ⟨2, 4, 5, s0.live ++ [⟨5, [2], true⟩], [⟨1, 5, 0, true, [2], [1, 2]⟩], []⟩
def s2 : Bas.S := ⟨2, 4, 6, s1.live ++ [⟨6, [], false⟩], s1.rules ++ [⟨1, 6, 0, false, [], [5, 3, 4]⟩], []⟩
def s3 : Bas.S := ⟨2, 4, 6, [⟨2, [-1, 2], false⟩, ⟨3, [1, -2], false⟩, ⟨4, [-1, -2], false⟩, ⟨5, [2], false⟩, ⟨6, [], false⟩], s2.rules ++ [⟨4, 1, 5, false, [], []⟩], []⟩
theorem s0_eq : Bas.new 2 sq = s0 := by kernel_rfl
theorem r0_eq : Cq.right 2 sq = 0 := by decide +kernel
theorem s1_eq : Bas.addS s0 [2] [1, 2] true = s1 := by kernel_rfl
theorem e1_eq : Bas.addE s0 [2] [1, 2] = 0 := by decide +kernel
theorem i1_eq : Bas.addR s0 [2] [1, 2] = 5 := by decide +kernel
theorem s2_eq : Bas.addS s1 [] [5, 3, 4] false = s2 := by kernel_rfl
theorem e2_eq : Bas.addE s1 [] [5, 3, 4] = 0 := by decide +kernel
theorem i2_eq : Bas.addR s1 [] [5, 3, 4] = 6 := by decide +kernel
theorem m2_eq : Bas.emptyOf s2.live = 6 := by decide +kernel
theorem d2_eq : Bas.deleteE s2 1 = 7 := by decide +kernel
theorem d2_st : Bas.deleteS s2 1 = s2 := by kernel_rfl
theorem e3_eq : Bas.dropE s2 1 5 = 0 := by decide +kernel
theorem s3_eq : Bas.dropS s2 1 5 = s3 := by kernel_rfl
theorem n3_eq : Bas.nsteps s3 = 3 := by decide +kernel
theorem good0 : Bas.Good s0 := ⟨by decide, by decide, by decide, by decide, by decide, by decide⟩
theorem good1 : Bas.Good s1 := by rw [← s1_eq]; exact good0.add _ _ _
theorem good2 : Bas.Good s2 := by rw [← s2_eq]; exact good1.add _ _ _
theorem row2 {W : World} {b : Nat} {xs : List Int} (h : W.heap[b]? = some (.cells (xs.map (Value.int .i64)).toArray 2 (0, 0))) (hx : ∀ x ∈ xs, -9223372036854775808 ≤ x ∧ x ≤ 9223372036854775807) : Hnts W (some ⟨b, 0, none⟩) xs := by
  refine ⟨hx, .inr ⟨b, 0, rfl, lt_of_blk h, fun j hj => ?_⟩⟩
  rw [Nat.zero_add, row_cell h]
  simp [List.getD_eq_getElem?_getD, List.getElem?_eq_getElem hj]
theorem row45 {W : World} {b : Nat} {xs : List Int} (h : W.heap[b]? = some (.cells (xs.map (Value.int .i32)).toArray 66 (0, 0))) (hx : ∀ x ∈ xs, -2147483648 ≤ x ∧ x ≤ 2147483647) : Lits W (some ⟨b, 0, none⟩) xs := by
  refine ⟨hx, .inr ⟨b, 0, rfl, lt_of_blk h, fun j hj => ?_⟩⟩
  rw [Nat.zero_add, row_cell h]
  simp [List.getD_eq_getElem?_getD, List.getElem?_eq_getElem hj]
theorem call1 {w W : World} {bb : Nat} (h : Bst w bb 20000000 s0 W) :
    Calls Tryz.prog 20 #[.pointer (some ⟨bb, 0, none⟩), .slice (some ⟨W.heap.size, 0, none⟩) 1 1, .slice (some ⟨W.heap.size + 1, 0, none⟩) 2 2, .bool true] ((W.alloc (.cells #[.int .i32 2] 66)).alloc (.cells #[.int .i64 1, .int .i64 2] 2)) fun en w' => en = .returned (.tuple #[.int .i64 5, .int .i64 0]) ∧ Bst w bb 20000002 s1 w' := by
  have b1 := below_box W (.cells #[.int .i32 2] 66)
  have b2 := below_box (W.alloc (.cells #[.int .i32 2] 66)) (.cells #[.int .i64 1, .int .i64 2] 2)
  have hz : (W.alloc (.cells #[.int .i32 2] 66)).heap.size = W.heap.size + 1 := alloc_size _ _
  have g1 := (b2.block W.heap.size (by omega)).trans (heap_alloc_new W (.cells #[.int .i32 2] 66))
  have g2 := heap_alloc_new (W.alloc (.cells #[.int .i32 2] 66)) (.cells #[.int .i64 1, .int .i64 2] 2)
  rw [hz] at g2
  have := h.add (b1.trans (b2.mono b1.size)) good0 (by decide) (by decide) (by decide) (by decide) (some ⟨W.heap.size, 0, none⟩) 1 1 [2] rfl (by decide) (row45 g1 (by decide)) (fun b off e => by cases e; exact Nat.le_refl _) (some ⟨W.heap.size + 1, 0, none⟩) 2 2 [1, 2] rfl (by decide) (row2 g2 (by decide)) (fun b off e => by cases e; omega) true
  rw [i1_eq, e1_eq, s1_eq] at this
  exact this
theorem call2 {w W : World} {bb : Nat} (h : Bst w bb 20000002 s1 W) :
    Calls Tryz.prog 20 #[.pointer (some ⟨bb, 0, none⟩), .slice none 0 0, .slice (some ⟨W.heap.size, 0, none⟩) 3 3, .bool false] (W.alloc (.cells #[.int .i64 5, .int .i64 3, .int .i64 4] 2)) fun en w' => en = .returned (.tuple #[.int .i64 6, .int .i64 0]) ∧ Bst w bb 20000003 s2 w' := by
  have b1 := below_box W (.cells #[.int .i64 5, .int .i64 3, .int .i64 4] 2)
  have g1 := heap_alloc_new W (.cells #[.int .i64 5, .int .i64 3, .int .i64 4] 2)
  have := h.add b1 good1 (by decide) (by decide) (by decide) (by decide) none 0 0 [] rfl (by decide) (Row.nil _ _ _ _ _) (fun b off e => by cases e) (some ⟨W.heap.size, 0, none⟩) 3 3 [5, 3, 4] rfl (by decide) (row2 g1 (by decide)) (fun b off e => by cases e; exact Nat.le_refl _) false
  rw [i2_eq, e2_eq, s2_eq] at this
  exact this
theorem call3 {w W : World} {bb : Nat} (h : Bst w bb 20000003 s2 W) : Calls Tryz.prog 27 #[.pointer (some ⟨bb, 0, none⟩)] W fun en w' => en = .returned (.tuple #[.int .i64 6, .bool true]) ∧ Bst w bb 20000003 s2 w' := by
  have := h.empty good2 (by decide)
  rw [m2_eq] at this
  exact this
theorem call4 {w W : World} {bb : Nat} (h : Bst w bb 20000003 s2 W) : Calls Tryz.prog 18 #[.pointer (some ⟨bb, 0, none⟩)] W fun en w' => (∃ o c, en = .returned (.slice o 6 c)) ∧ Bst w bb 20000003 s2 w' :=
  h.entries good2 (by decide) (by decide) (by decide) (by decide)
theorem call5 {w W : World} {bb : Nat} (h : Bst w bb 20000003 s2 W) : Calls Tryz.prog 23 #[.pointer (some ⟨bb, 0, none⟩), .int .i64 1] W fun en w' => en = .returned (.int .i64 7) ∧ Bst w bb 20000003 s2 w' := by
  have := h.delete (by decide) (by decide) (by decide) 1 (by unfold I64; decide)
  rw [d2_eq, d2_st] at this
  exact this
theorem call6 {w W : World} {bb : Nat} (h : Bst w bb 20000003 s2 W) : Calls Tryz.prog 24 #[.pointer (some ⟨bb, 0, none⟩), .int .i64 1, .int .i64 5] W fun en w' => en = .returned (.int .i64 0) ∧ Bst w bb 20000004 s3 w' := by
  have := h.drop (by decide) (by decide) (by decide) (by decide) 1 5 (by unfold I64; decide) (by unfold I64; decide) (by decide) e3_eq
  rw [s3_eq] at this
  exact this
theorem call7 {w W : World} {bb : Nat} (h : Bst w bb 20000004 s3 W) : Calls Tryz.prog 38 #[.pointer (some ⟨bb, 0, none⟩)] W fun en w' => (∃ o c, en = .returned (.slice o 3 c)) ∧ Bst w bb 20000004 s3 w' := by
  have := h.steps (by rw [n3_eq]; decide) (by decide) (by decide)
  rw [n3_eq] at this
  exact this
set_option maxHeartbeats 4000000 in
theorem works20 (w : World) : Calls Tryz.prog 10 #[] w fun e w' => e = .returned (.bool true) ∧ Below w.heap.size w w' := by
  have OUT := hid (fun bb B s X (h : Bst w bb B s X) => show Below w.heap.size w X from by obtain ⟨_, _, _, _, _, h4⟩ := h; exact h4)
  go_enter Tryz.func10, Tryz.ntmps10
  go_wp2_with (first
    | (go_at_call 30; refine (square45 w).mono ?_; rintro e w1 ⟨a, rfl, hc, hb1⟩
       have C23 := hid (new23 2 a 4 4 sq w1 rfl hc r0_eq); have HB1 := hid hb1; clear hc hb1)
    | (go_at_call 8; go_loud (refine C23.out.mono ?_; clear C23; rintro e w2 ⟨bb, M, K, rfl, hbs, hK, hM, hb2⟩; have H2 := hid (show Bst w bb 20000000 s0 w2 from ⟨fun g => M g ∧ g < w2.heap.size, K, by rw [← s0_eq]; exact hbs.cap, hK, fun g hg => ⟨Nat.le_trans HB1.out.size (hM g hg.1), hg.2⟩, HB1.out.trans (hb2.mono HB1.out.size)⟩); clear hbs hK hM hb2))
    | (go_at_call 20; refine (call1 H2.out).mono ?_; rintro e w3 ⟨rfl, h3⟩; have H3 := hid h3; clear h3 H2)
    | (go_at_call 20; refine (call2 H3.out).mono ?_; rintro e w4 ⟨rfl, h4⟩; have H4 := hid h4; clear h4 H3)
    | (go_at_call 27; refine (call3 H4.out).mono ?_; rintro e w5 ⟨rfl, h5⟩; have H5 := hid h5; clear h5 H4)
    | (go_at_call 18; refine (call4 H5.out).mono ?_; rintro e w6 ⟨⟨o6, c6, rfl⟩, h6⟩; have H6 := hid h6; clear h6 H5)
    | (go_at_call 23; refine (call5 H6.out).mono ?_; rintro e w7 ⟨rfl, h7⟩; have H7 := hid h7; clear h7 H6)
    | (go_at_call 24; refine (call6 H7.out).mono ?_; rintro e w8 ⟨rfl, h8⟩; have H8 := hid h8; clear h8 H7)
    | (go_at_call 38; refine (call7 H8.out).mono ?_; rintro e w9 ⟨⟨o9, c9, rfl⟩, h9⟩; have H9 := hid h9; clear h9 H8))
  go_ret
  exact ⟨rfl, OUT.out _ _ _ _ H9.out⟩
end Go.Proofs.YthpebfojkpnojaaGreat

