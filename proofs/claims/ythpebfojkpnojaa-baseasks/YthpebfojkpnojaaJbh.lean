/- A new base is good. -/
import Derived.Test.YthpebfojkpnojaaJab
import Derived.Test.YthpebfojkpnojaaJar
import Derived.Test.YthpebfojkpnojaaJax
/- A new base is good. -/
namespace Bas
theorem start_pw (f : List (List Int)) : ∀ i : Int, (start f i).Pairwise (fun d e => d.id < e.id) := by
  intro i
  unfold start
  rw [List.pairwise_map]
  have : ((f.zipIdx).map (·.2)).Pairwise (· < ·) := by
    rw [List.zipIdx_map_snd]
    exact List.pairwise_lt_range'
  rw [List.pairwise_map] at this
  exact this.imp (fun h => by simp only; omega)
theorem new_good {vars : Int} {cs : List (List Int)} (h : Cq.right vars cs = 0) : Good (new vars cs) := by
  obtain ⟨h1, h2, h3, h4, h5⟩ := Go.Proofs.Ythpebfojkpnojaa.right_zero h
  refine ⟨start_pw cs 1, fun e he => ?_, fun e he x hx => ?_, rfl, ⟨h1, h2⟩, ⟨by show (0 : Int) ≤ (cs.length : Int); omega, Int.le_refl _⟩⟩
  · have := start_ids cs 1 e he
    show 1 ≤ e.id ∧ e.id ≤ (cs.length : Int)
    omega
  · obtain ⟨p, hp, rfl⟩ := List.mem_map.1 he
    have hm : p.1 ∈ cs := (List.mem_zipIdx' hp).2 ▸ List.getElem_mem _
    have := h5 x (List.mem_flatten.2 ⟨p.1, hm, hx⟩)
    refine ⟨fun e0 => ?_, this.2⟩
    rw [e0] at this
    simp [vr] at this
end Bas

/- works: the base of the four clauses of two variables. -/
namespace Go.Proofs.Ythpebfojkpnojaa
open Go.RowKit Go.Maps
set_option linter.unusedVariables false
set_option linter.unusedSimpArgs false
set_option maxRecDepth 100000
def s0 : Bas.S := ⟨2, 4, 4, [⟨1, [1, 2], false⟩, ⟨2, [-1, 2], false⟩, ⟨3, [1, -2], false⟩, ⟨4, [-1, -2], false⟩], [], []⟩
def s1 : Bas.S := ⟨2, 4, 5, s0.live ++ [⟨5, [2], true⟩], [⟨1, 5, 0, true, [2], [1, 2]⟩], []⟩
def s2 : Bas.S := ⟨2, 4, 6, s1.live ++ [⟨6, [], false⟩], s1.rules ++ [⟨1, 6, 0, false, [], [5, 3, 4]⟩], []⟩
def s3 : Bas.S := ⟨2, 4, 6, [⟨2, [-1, 2], false⟩, ⟨3, [1, -2], false⟩, ⟨4, [-1, -2], false⟩, ⟨5, [2], false⟩, ⟨6, [], false⟩], s2.rules ++ [⟨4, 1, 5, false, [], []⟩], []⟩
theorem s0_eq : Bas.new 2 sq = s0 := by kernel_rfl
theorem r0_eq : Cq.right 2 sq = 0 := by decide +kernel
theorem s1_eq : Bas.addS s0 [2] [1, 2] true = s1 := by kernel_rfl
theorem e1_eq : Bas.addE s0 [2] [1, 2] = 0 := by decide +kernel
theorem i1_eq : Bas.addR s0 [2] [1, 2] = 5 := by decide +kernel
theorem s2_eq : Bas.addS s1 [] [5, 3, 4] false = s2 := by kernel_rfl
theorem e2_eq : Bas.addE s1 [] [5, 3, 4] = 0 := by decide +kernel
theorem i2_eq : Bas.addR s1 [] [5, 3, 4] = 6 := by decide +kernel
theorem m2_eq : Bas.emptyOf s2.live = 6 := by decide +kernel
theorem d2_eq : Bas.deleteE s2 1 = 7 := by decide +kernel
theorem d2_st : Bas.deleteS s2 1 = s2 := by kernel_rfl
theorem e3_eq : Bas.dropE s2 1 5 = 0 := by decide +kernel
theorem s3_eq : Bas.dropS s2 1 5 = s3 := by kernel_rfl
theorem n3_eq : Bas.nsteps s3 = 3 := by decide +kernel
theorem good0 : Bas.Good s0 := ⟨by decide, by decide, by decide, by decide, by decide, by decide⟩
theorem good1 : Bas.Good s1 := by rw [← s1_eq]; exact good0.add _ _ _
theorem good2 : Bas.Good s2 := by rw [← s2_eq]; exact good1.add _ _ _
theorem row2 {W : World} {b : Nat} {xs : List Int} (h : W.heap[b]? = some (.cells (xs.map (Value.int .i64)).toArray 2 (0, 0))) (hx : ∀ x ∈ xs, -9223372036854775808 ≤ x ∧ x ≤ 9223372036854775807) : Hnts W (some ⟨b, 0, none⟩) xs := by
  refine ⟨hx, .inr ⟨b, 0, rfl, lt_of_blk h, fun j hj => ?_⟩⟩
  rw [Nat.zero_add, row_cell h]
  simp [List.getD_eq_getElem?_getD, List.getElem?_eq_getElem hj]
theorem row45 {W : World} {b : Nat} {xs : List Int} (h : W.heap[b]? = some (.cells (xs.map (Value.int .i32)).toArray 45 (0, 0))) (hx : ∀ x ∈ xs, -2147483648 ≤ x ∧ x ≤ 2147483647) : Lits W (some ⟨b, 0, none⟩) xs := by
  refine ⟨hx, .inr ⟨b, 0, rfl, lt_of_blk h, fun j hj => ?_⟩⟩
  rw [Nat.zero_add, row_cell h]
  simp [List.getD_eq_getElem?_getD, List.getElem?_eq_getElem hj]
theorem call1 {w W : World} {bb : Nat} (h : Bst w bb 20000000 s0 W) :
    Calls Try.prog 5 #[.pointer (some ⟨bb, 0, none⟩), .slice (some ⟨W.heap.size, 0, none⟩) 1 1, .slice (some ⟨W.heap.size + 1, 0, none⟩) 2 2, .bool true] ((W.alloc (.cells #[.int .i32 2] 45)).alloc (.cells #[.int .i64 1, .int .i64 2] 2)) fun en w' => en = .returned (.tuple #[.int .i64 5, .int .i64 0]) ∧ Bst w bb 20000002 s1 w' := by
  have b1 := below_box W (.cells #[.int .i32 2] 45)
  have b2 := below_box (W.alloc (.cells #[.int .i32 2] 45)) (.cells #[.int .i64 1, .int .i64 2] 2)
  have hz : (W.alloc (.cells #[.int .i32 2] 45)).heap.size = W.heap.size + 1 := alloc_size _ _
  have g1 := (b2.block W.heap.size (by omega)).trans (heap_alloc_new W (.cells #[.int .i32 2] 45))
  have g2 := heap_alloc_new (W.alloc (.cells #[.int .i32 2] 45)) (.cells #[.int .i64 1, .int .i64 2] 2)
  rw [hz] at g2
  have := h.add (b1.trans (b2.mono b1.size)) good0 (by decide) (by decide) (by decide) (by decide) (some ⟨W.heap.size, 0, none⟩) 1 1 [2] rfl (by decide) (row45 g1 (by decide)) (fun b off e => by cases e; exact Nat.le_refl _) (some ⟨W.heap.size + 1, 0, none⟩) 2 2 [1, 2] rfl (by decide) (row2 g2 (by decide)) (fun b off e => by cases e; omega) true
  rw [i1_eq, e1_eq, s1_eq] at this
  exact this
theorem call2 {w W : World} {bb : Nat} (h : Bst w bb 20000002 s1 W) :
    Calls Try.prog 5 #[.pointer (some ⟨bb, 0, none⟩), .slice none 0 0, .slice (some ⟨W.heap.size, 0, none⟩) 3 3, .bool false] (W.alloc (.cells #[.int .i64 5, .int .i64 3, .int .i64 4] 2)) fun en w' => en = .returned (.tuple #[.int .i64 6, .int .i64 0]) ∧ Bst w bb 20000003 s2 w' := by
  have b1 := below_box W (.cells #[.int .i64 5, .int .i64 3, .int .i64 4] 2)
  have g1 := heap_alloc_new W (.cells #[.int .i64 5, .int .i64 3, .int .i64 4] 2)
  have := h.add b1 good1 (by decide) (by decide) (by decide) (by decide) none 0 0 [] rfl (by decide) (Row.nil _ _ _ _ _) (fun b off e => by cases e) (some ⟨W.heap.size, 0, none⟩) 3 3 [5, 3, 4] rfl (by decide) (row2 g1 (by decide)) (fun b off e => by cases e; exact Nat.le_refl _) false
  rw [i2_eq, e2_eq, s2_eq] at this
  exact this
theorem call3 {w W : World} {bb : Nat} (h : Bst w bb 20000003 s2 W) : Calls Try.prog 7 #[.pointer (some ⟨bb, 0, none⟩)] W fun en w' => en = .returned (.tuple #[.int .i64 6, .bool true]) ∧ Bst w bb 20000003 s2 w' := by
  have := h.empty good2 (by decide)
  rw [m2_eq] at this
  exact this
theorem call4 {w W : World} {bb : Nat} (h : Bst w bb 20000003 s2 W) : Calls Try.prog 14 #[.pointer (some ⟨bb, 0, none⟩)] W fun en w' => (∃ o c, en = .returned (.slice o 6 c)) ∧ Bst w bb 20000003 s2 w' :=
  h.entries good2 (by decide) (by decide) (by decide) (by decide)
theorem call5 {w W : World} {bb : Nat} (h : Bst w bb 20000003 s2 W) : Calls Try.prog 9 #[.pointer (some ⟨bb, 0, none⟩), .int .i64 1] W fun en w' => en = .returned (.int .i64 7) ∧ Bst w bb 20000003 s2 w' := by
  have := h.delete (by decide) (by decide) (by decide) 1 (by unfold I64; decide)
  rw [d2_eq, d2_st] at this
  exact this
theorem call6 {w W : World} {bb : Nat} (h : Bst w bb 20000003 s2 W) : Calls Try.prog 10 #[.pointer (some ⟨bb, 0, none⟩), .int .i64 1, .int .i64 5] W fun en w' => en = .returned (.int .i64 0) ∧ Bst w bb 20000004 s3 w' := by
  have := h.drop (by decide) (by decide) (by decide) (by decide) 1 5 (by unfold I64; decide) (by unfold I64; decide) (by decide) e3_eq
  rw [s3_eq] at this
  exact this
theorem call7 {w W : World} {bb : Nat} (h : Bst w bb 20000004 s3 W) : Calls Try.prog 16 #[.pointer (some ⟨bb, 0, none⟩)] W fun en w' => (∃ o c, en = .returned (.slice o 3 c)) ∧ Bst w bb 20000004 s3 w' := by
  have := h.steps (by rw [n3_eq]; decide) (by decide) (by decide)
  rw [n3_eq] at this
  exact this
set_option maxHeartbeats 4000000 in
theorem works20 (w : World) : Calls Try.prog 20 #[] w fun e w' => e = .returned (.bool true) ∧ Below w.heap.size w w' := by
  have OUT := hid (fun bb B s X (h : Bst w bb B s X) => show Below w.heap.size w X from by obtain ⟨_, _, _, _, _, h4⟩ := h; exact h4)
  go_enter Try.func20, Try.ntmps20
  go_wp2_with (first
    | (go_at_call 45; refine (square45 w).mono ?_; rintro e w1 ⟨a, rfl, hc, hb1⟩
       have C23 := hid (new23 2 a 4 4 sq w1 rfl hc r0_eq); have HB1 := hid hb1; clear hc hb1)
    | (go_at_call 23; go_loud (refine C23.out.mono ?_; clear C23; rintro e w2 ⟨bb, M, K, rfl, hbs, hK, hM, hb2⟩
                               have H2 := hid (show Bst w bb 20000000 s0 w2 from ⟨fun g => M g ∧ g < w2.heap.size, K, by rw [← s0_eq]; exact hbs.cap, hK, fun g hg => ⟨Nat.le_trans HB1.out.size (hM g hg.1), hg.2⟩, HB1.out.trans (hb2.mono HB1.out.size)⟩)
                               clear hbs hK hM hb2))
    | (go_at_call 5; refine (call1 H2.out).mono ?_; rintro e w3 ⟨rfl, h3⟩; have H3 := hid h3; clear h3 H2)
    | (go_at_call 5; refine (call2 H3.out).mono ?_; rintro e w4 ⟨rfl, h4⟩; have H4 := hid h4; clear h4 H3)
    | (go_at_call 7; refine (call3 H4.out).mono ?_; rintro e w5 ⟨rfl, h5⟩; have H5 := hid h5; clear h5 H4)
    | (go_at_call 14; refine (call4 H5.out).mono ?_; rintro e w6 ⟨⟨o6, c6, rfl⟩, h6⟩; have H6 := hid h6; clear h6 H5)
    | (go_at_call 9; refine (call5 H6.out).mono ?_; rintro e w7 ⟨rfl, h7⟩; have H7 := hid h7; clear h7 H6)
    | (go_at_call 10; refine (call6 H7.out).mono ?_; rintro e w8 ⟨rfl, h8⟩; have H8 := hid h8; clear h8 H7)
    | (go_at_call 16; refine (call7 H8.out).mono ?_; rintro e w9 ⟨⟨o9, c9, rfl⟩, h9⟩; have H9 := hid h9; clear h9 H8))
  go_ret
  exact ⟨rfl, OUT.out _ _ _ _ H9.out⟩
end Go.Proofs.Ythpebfojkpnojaa

