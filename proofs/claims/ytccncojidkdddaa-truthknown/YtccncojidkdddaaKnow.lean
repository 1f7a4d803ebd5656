/- The closed statement, as a call. -/
import Derived.Test.YtccncojidkdddaaKnow0
namespace Go.Proofs.Ytccncojidkdddaa
open Go.RowKit Go.Lib Go.Sort Go.Shelf
set_option linter.unusedVariables false
set_option linter.unusedSimpArgs false

theorem Lits.zero (w : World) (a : Option Addr) : Lits w a [] := ⟨fun x hx => (by cases hx), Or.inl rfl⟩
theorem cls_one (w : World) (g cap : Nat) (t : TypeId) (a : Option Addr) (c : List Int) (hg : w.heap.size = g) (h : Lits w a c) (hl : c.length ≤ 35184372088832) : Cls (w.alloc (.cells #[.slice a c.length cap] t)) (some ⟨g, 0, none⟩) [c] :=
  cls_new' w g t hg [(a, cap, c)] (by
    intro r hr
    simp only [List.mem_cons, List.not_mem_nil, or_false] at hr
    subst hr
    exact ⟨h, hl⟩)

theorem row9 (W : World) (s : Nat) (hs : W.heap.size = s) : ∃ B, (((((((((W.alloc (.cells #[.int .i32 0] 44)).alloc (.cells #[.int .i32 4] 44)).alloc (.cells #[.int .i32 (-4)] 44)).alloc (.cells #[.int .i32 (-1), .int .i32 3] 44)).alloc (.cells #[.int .i32 3] 44)).alloc (.cells #[.int .i32 1, .int .i32 (-1)] 44)).alloc (.cells #[.int .i32 (-2147483648)] 44)).alloc (.cells #[.int .i32 3, .int .i32 3, .int .i32 4] 44)).alloc (.cells #[.slice none 0 0, .slice (some ⟨s, 0, none⟩) 1 1, .slice (some ⟨s + 1, 0, none⟩) 1 1, .slice (some ⟨s + 1 + 1, 0, none⟩) 1 1, .slice (some ⟨s + 1 + 1 + 1, 0, none⟩) 2 2, .slice (some ⟨s + 1 + 1 + 1 + 1, 0, none⟩) 1 1, .slice (some ⟨s + 1 + 1 + 1 + 1 + 1, 0, none⟩) 2 2, .slice (some ⟨s + 1 + 1 + 1 + 1 + 1 + 1, 0, none⟩) 1 1, .slice (some ⟨s + 1 + 1 + 1 + 1 + 1 + 1 + 1, 0, none⟩) 3 3] 36)) = B ∧ Cls B (some ⟨s + 1 + 1 + 1 + 1 + 1 + 1 + 1 + 1, 0, none⟩) [[], [0], [4], [-4], [-1, 3], [3], [1, -1], [-2147483648], [3, 3, 4]] ∧ Below W.heap.size W B ∧ B.heap.size = s + 1 + 1 + 1 + 1 + 1 + 1 + 1 + 1 + 1 := by
  obtain ⟨W1, hW1⟩ : ∃ W1, W.alloc (.cells #[.int .i32 0] 44) = W1 := ⟨_, rfl⟩
  have hs1 : W1.heap.size = s + 1 := by rw [← hW1, World.size_alloc, hs]
  have l0 : Lits W1 (some ⟨s, 0, none⟩) [0] := by rw [← hW1]; exact lits_new' W [0] _ 44 hs (by decide)
  have b1 : Below W.heap.size W W1 := by rw [← hW1]; exact (Below.refl _ W).alloc (Nat.le_refl _) _
  obtain ⟨W2, hW2⟩ : ∃ W2, W1.alloc (.cells #[.int .i32 4] 44) = W2 := ⟨_, rfl⟩
  have hs2 : W2.heap.size = s + 1 + 1 := by rw [← hW2, World.size_alloc, hs1]
  have l1 : Lits W2 (some ⟨s + 1, 0, none⟩) [4] := by rw [← hW2]; exact lits_new' W1 [4] _ 44 hs1 (by decide)
  replace l0 : Lits W2 (some ⟨s, 0, none⟩) [0] := by rw [← hW2]; exact l0.alloc _
  have b2 : Below W.heap.size W W2 := by rw [← hW2]; exact b1.alloc (by omega) _
  obtain ⟨W3, hW3⟩ : ∃ W3, W2.alloc (.cells #[.int .i32 (-4)] 44) = W3 := ⟨_, rfl⟩
  have hs3 : W3.heap.size = s + 1 + 1 + 1 := by rw [← hW3, World.size_alloc, hs2]
  have l2 : Lits W3 (some ⟨s + 1 + 1, 0, none⟩) [-4] := by rw [← hW3]; exact lits_new' W2 [-4] _ 44 hs2 (by decide)
  replace l0 : Lits W3 (some ⟨s, 0, none⟩) [0] := by rw [← hW3]; exact l0.alloc _
  replace l1 : Lits W3 (some ⟨s + 1, 0, none⟩) [4] := by rw [← hW3]; exact l1.alloc _
  have b3 : Below W.heap.size W W3 := by rw [← hW3]; exact b2.alloc (by omega) _
  obtain ⟨W4, hW4⟩ : ∃ W4, W3.alloc (.cells #[.int .i32 (-1), .int .i32 3] 44) = W4 := ⟨_, rfl⟩
  have hs4 : W4.heap.size = s + 1 + 1 + 1 + 1 := by rw [← hW4, World.size_alloc, hs3]
  have l3 : Lits W4 (some ⟨s + 1 + 1 + 1, 0, none⟩) [-1, 3] := by rw [← hW4]; exact lits_new' W3 [-1, 3] _ 44 hs3 (by decide)
  replace l0 : Lits W4 (some ⟨s, 0, none⟩) [0] := by rw [← hW4]; exact l0.alloc _
  replace l1 : Lits W4 (some ⟨s + 1, 0, none⟩) [4] := by rw [← hW4]; exact l1.alloc _
  replace l2 : Lits W4 (some ⟨s + 1 + 1, 0, none⟩) [-4] := by rw [← hW4]; exact l2.alloc _
  have b4 : Below W.heap.size W W4 := by rw [← hW4]; exact b3.alloc (by omega) _
  obtain ⟨W5, hW5⟩ : ∃ W5, W4.alloc (.cells #[.int .i32 3] 44) = W5 := ⟨_, rfl⟩
  have hs5 : W5.heap.size = s + 1 + 1 + 1 + 1 + 1 := by rw [← hW5, World.size_alloc, hs4]
  have l4 : Lits W5 (some ⟨s + 1 + 1 + 1 + 1, 0, none⟩) [3] := by rw [← hW5]; exact lits_new' W4 [3] _ 44 hs4 (by decide)
  replace l0 : Lits W5 (some ⟨s, 0, none⟩) [0] := by rw [← hW5]; exact l0.alloc _
  replace l1 : Lits W5 (some ⟨s + 1, 0, none⟩) [4] := by rw [← hW5]; exact l1.alloc _
  replace l2 : Lits W5 (some ⟨s + 1 + 1, 0, none⟩) [-4] := by rw [← hW5]; exact l2.alloc _
  replace l3 : Lits W5 (some ⟨s + 1 + 1 + 1, 0, none⟩) [-1, 3] := by rw [← hW5]; exact l3.alloc _
  have b5 : Below W.heap.size W W5 := by rw [← hW5]; exact b4.alloc (by omega) _
  obtain ⟨W6, hW6⟩ : ∃ W6, W5.alloc (.cells #[.int .i32 1, .int .i32 (-1)] 44) = W6 := ⟨_, rfl⟩
  have hs6 : W6.heap.size = s + 1 + 1 + 1 + 1 + 1 + 1 := by rw [← hW6, World.size_alloc, hs5]
  have l5 : Lits W6 (some ⟨s + 1 + 1 + 1 + 1 + 1, 0, none⟩) [1, -1] := by rw [← hW6]; exact lits_new' W5 [1, -1] _ 44 hs5 (by decide)
  replace l0 : Lits W6 (some ⟨s, 0, none⟩) [0] := by rw [← hW6]; exact l0.alloc _
  replace l1 : Lits W6 (some ⟨s + 1, 0, none⟩) [4] := by rw [← hW6]; exact l1.alloc _
  replace l2 : Lits W6 (some ⟨s + 1 + 1, 0, none⟩) [-4] := by rw [← hW6]; exact l2.alloc _
  replace l3 : Lits W6 (some ⟨s + 1 + 1 + 1, 0, none⟩) [-1, 3] := by rw [← hW6]; exact l3.alloc _
  replace l4 : Lits W6 (some ⟨s + 1 + 1 + 1 + 1, 0, none⟩) [3] := by rw [← hW6]; exact l4.alloc _
  have b6 : Below W.heap.size W W6 := by rw [← hW6]; exact b5.alloc (by omega) _
  obtain ⟨W7, hW7⟩ : ∃ W7, W6.alloc (.cells #[.int .i32 (-2147483648)] 44) = W7 := ⟨_, rfl⟩
  have hs7 : W7.heap.size = s + 1 + 1 + 1 + 1 + 1 + 1 + 1 := by rw [← hW7, World.size_alloc, hs6]
  have l6 : Lits W7 (some ⟨s + 1 + 1 + 1 + 1 + 1 + 1, 0, none⟩) [-2147483648] := by rw [← hW7]; exact lits_new' W6 [-2147483648] _ 44 hs6 (by decide)
  replace l0 : Lits W7 (some ⟨s, 0, none⟩) [0] := by rw [← hW7]; exact l0.alloc _
  replace l1 : Lits W7 (some ⟨s + 1, 0, none⟩) [4] := by rw [← hW7]; exact l1.alloc _
  replace l2 : Lits W7 (some ⟨s + 1 + 1, 0, none⟩) [-4] := by rw [← hW7]; exact l2.alloc _
  replace l3 : Lits W7 (some ⟨s + 1 + 1 + 1, 0, none⟩) [-1, 3] := by rw [← hW7]; exact l3.alloc _
  replace l4 : Lits W7 (some ⟨s + 1 + 1 + 1 + 1, 0, none⟩) [3] := by rw [← hW7]; exact l4.alloc _
  replace l5 : Lits W7 (some ⟨s + 1 + 1 + 1 + 1 + 1, 0, none⟩) [1, -1] := by rw [← hW7]; exact l5.alloc _
  have b7 : Below W.heap.size W W7 := by rw [← hW7]; exact b6.alloc (by omega) _
  obtain ⟨W8, hW8⟩ : ∃ W8, W7.alloc (.cells #[.int .i32 3, .int .i32 3, .int .i32 4] 44) = W8 := ⟨_, rfl⟩
  have hs8 : W8.heap.size = s + 1 + 1 + 1 + 1 + 1 + 1 + 1 + 1 := by rw [← hW8, World.size_alloc, hs7]
  have l7 : Lits W8 (some ⟨s + 1 + 1 + 1 + 1 + 1 + 1 + 1, 0, none⟩) [3, 3, 4] := by rw [← hW8]; exact lits_new' W7 [3, 3, 4] _ 44 hs7 (by decide)
  replace l0 : Lits W8 (some ⟨s, 0, none⟩) [0] := by rw [← hW8]; exact l0.alloc _
  replace l1 : Lits W8 (some ⟨s + 1, 0, none⟩) [4] := by rw [← hW8]; exact l1.alloc _
  replace l2 : Lits W8 (some ⟨s + 1 + 1, 0, none⟩) [-4] := by rw [← hW8]; exact l2.alloc _
  replace l3 : Lits W8 (some ⟨s + 1 + 1 + 1, 0, none⟩) [-1, 3] := by rw [← hW8]; exact l3.alloc _
  replace l4 : Lits W8 (some ⟨s + 1 + 1 + 1 + 1, 0, none⟩) [3] := by rw [← hW8]; exact l4.alloc _
  replace l5 : Lits W8 (some ⟨s + 1 + 1 + 1 + 1 + 1, 0, none⟩) [1, -1] := by rw [← hW8]; exact l5.alloc _
  replace l6 : Lits W8 (some ⟨s + 1 + 1 + 1 + 1 + 1 + 1, 0, none⟩) [-2147483648] := by rw [← hW8]; exact l6.alloc _
  have b8 : Below W.heap.size W W8 := by rw [← hW8]; exact b7.alloc (by omega) _
  rw [hW1, hW2, hW3, hW4, hW5, hW6, hW7, hW8]
  refine ⟨_, rfl, cls_new' W8 _ 36 hs8 [(none, 0, []), (some ⟨s, 0, none⟩, 1, [0]), (some ⟨s + 1, 0, none⟩, 1, [4]), (some ⟨s + 1 + 1, 0, none⟩, 1, [-4]), (some ⟨s + 1 + 1 + 1, 0, none⟩, 2, [-1, 3]), (some ⟨s + 1 + 1 + 1 + 1, 0, none⟩, 1, [3]), (some ⟨s + 1 + 1 + 1 + 1 + 1, 0, none⟩, 2, [1, -1]), (some ⟨s + 1 + 1 + 1 + 1 + 1 + 1, 0, none⟩, 1, [-2147483648]), (some ⟨s + 1 + 1 + 1 + 1 + 1 + 1 + 1, 0, none⟩, 3, [3, 3, 4])] (by
    intro r hr
    simp only [List.mem_cons, List.not_mem_nil, or_false] at hr
    rcases hr with rfl | rfl | rfl | rfl | rfl | rfl | rfl | rfl | rfl
    · exact ⟨Lits.zero _ _, by simp⟩
    · exact ⟨l0, by simp⟩
    · exact ⟨l1, by simp⟩
    · exact ⟨l2, by simp⟩
    · exact ⟨l3, by simp⟩
    · exact ⟨l4, by simp⟩
    · exact ⟨l5, by simp⟩
    · exact ⟨l6, by simp⟩
    · exact ⟨l7, by simp⟩), b8.alloc (by omega) _, by rw [World.size_alloc, hs8]⟩
theorem row3 (W : World) (s : Nat) (hs : W.heap.size = s) : ∃ B, ((((W.alloc (.cells #[.int .i32 (-1), .int .i32 2] 44)).alloc (.cells #[.int .i32 (-2), .int .i32 3] 44)).alloc (.cells #[.int .i32 (-1), .int .i32 3] 44)).alloc (.cells #[.slice (some ⟨s, 0, none⟩) 2 2, .slice (some ⟨s + 1, 0, none⟩) 2 2, .slice (some ⟨s + 1 + 1, 0, none⟩) 2 2] 36)) = B ∧ Cls B (some ⟨s + 1 + 1 + 1, 0, none⟩) [[-1, 2], [-2, 3], [-1, 3]] ∧ Below W.heap.size W B := by
  obtain ⟨W1, hW1⟩ : ∃ W1, W.alloc (.cells #[.int .i32 (-1), .int .i32 2] 44) = W1 := ⟨_, rfl⟩
  have hs1 : W1.heap.size = s + 1 := by rw [← hW1, World.size_alloc, hs]
  have l0 : Lits W1 (some ⟨s, 0, none⟩) [-1, 2] := by rw [← hW1]; exact lits_new' W [-1, 2] _ 44 hs (by decide)
  have b1 : Below W.heap.size W W1 := by rw [← hW1]; exact (Below.refl _ W).alloc (Nat.le_refl _) _
  obtain ⟨W2, hW2⟩ : ∃ W2, W1.alloc (.cells #[.int .i32 (-2), .int .i32 3] 44) = W2 := ⟨_, rfl⟩
  have hs2 : W2.heap.size = s + 1 + 1 := by rw [← hW2, World.size_alloc, hs1]
  have l1 : Lits W2 (some ⟨s + 1, 0, none⟩) [-2, 3] := by rw [← hW2]; exact lits_new' W1 [-2, 3] _ 44 hs1 (by decide)
  replace l0 : Lits W2 (some ⟨s, 0, none⟩) [-1, 2] := by rw [← hW2]; exact l0.alloc _
  have b2 : Below W.heap.size W W2 := by rw [← hW2]; exact b1.alloc (by omega) _
  obtain ⟨W3, hW3⟩ : ∃ W3, W2.alloc (.cells #[.int .i32 (-1), .int .i32 3] 44) = W3 := ⟨_, rfl⟩
  have hs3 : W3.heap.size = s + 1 + 1 + 1 := by rw [← hW3, World.size_alloc, hs2]
  have l2 : Lits W3 (some ⟨s + 1 + 1, 0, none⟩) [-1, 3] := by rw [← hW3]; exact lits_new' W2 [-1, 3] _ 44 hs2 (by decide)
  replace l0 : Lits W3 (some ⟨s, 0, none⟩) [-1, 2] := by rw [← hW3]; exact l0.alloc _
  replace l1 : Lits W3 (some ⟨s + 1, 0, none⟩) [-2, 3] := by rw [← hW3]; exact l1.alloc _
  have b3 : Below W.heap.size W W3 := by rw [← hW3]; exact b2.alloc (by omega) _
  rw [hW1, hW2, hW3]
  refine ⟨_, rfl, cls_new' W3 _ 36 hs3 [(some ⟨s, 0, none⟩, 2, [-1, 2]), (some ⟨s + 1, 0, none⟩, 2, [-2, 3]), (some ⟨s + 1 + 1, 0, none⟩, 2, [-1, 3])] (by
    intro r hr
    simp only [List.mem_cons, List.not_mem_nil, or_false] at hr
    rcases hr with rfl | rfl | rfl
    · exact ⟨l0, by simp⟩
    · exact ⟨l1, by simp⟩
    · exact ⟨l2, by simp⟩), b3.alloc (by omega) _⟩

set_option maxRecDepth 100000 in
set_option maxHeartbeats 16000000 in
theorem law6 (w : World) : Calls Try.prog 6 #[] w fun e w' => e = .returned (.bool true) ∧ Below w.heap.size w w' := by
  go_enter Try.func6, Try.ntmps6
  go_wp2
  go_loopw [1] (fun i wr => ∃ k : Nat, k ≤ 13 ∧ i = .int .i64 k ∧ Hid (Below w.heap.size w wr)) (fun i _ => 13 - (intOf i).toNat)
  case atStart => exact ⟨0, by omega, rfl, hid (Below.refl _ _)⟩
  case round =>
    obtain ⟨k, hk, rfl, HB⟩ := hrel
    by_cases hlt : (k : Int) ≤ 12
    · go_wp2_with fail
      refine (law3 k none 0 0 [] wr rfl (by omega) (Cls.zero _ _)).mono ?_
      rintro e w1 ⟨rfl, hw1⟩
      have HB1 := hid (HB.out.trans (hw1.mono HB.out.size))
      clear hw1
      go_wp2_with fail
      refine (law3 k _ 1 1 [[]] _ rfl (by omega) (cls_one (w1.alloc (.cells #[] 44)) _ 0 36 (some ⟨w1.heap.size, 0, none⟩) [] (by simp) (Lits.zero _ _) (by decide))).mono ?_
      rintro e w2 ⟨rfl, hw2⟩
      have HB2 := hid (((HB1.out.alloc HB1.out.size _).alloc (by simp; have := HB1.out.size; omega) _).trans (hw2.mono (by simp; have := HB1.out.size; omega)))
      clear hw2
      go_wp2
      go_roundw
      case rel => exact ⟨k + 1, by omega, by go_num, HB2⟩
      case measure => simp [intOf]; omega
    · go_wp2
      clear hlt hk
      have hrow := World.alloc_heap_new wr (.cells #[.int .i64 (-1), .int .i64 17, .int .i64 1048576, .int .i64 1048577] 3)
      have HBa := hid (HB.out.alloc HB.out.size (.cells #[.int .i64 (-1), .int .i64 17, .int .i64 1048576, .int .i64 1048577] 3))
      obtain ⟨A, hA⟩ : ∃ A, wr.alloc (.cells #[.int .i64 (-1), .int .i64 17, .int .i64 1048576, .int .i64 1048577] 3) = A := ⟨_, rfl⟩
      obtain ⟨R, hR⟩ : ∃ R, wr.heap.size = R := ⟨_, rfl⟩
      rw [hA] at hrow HBa ⊢
      rw [hR] at hrow ⊢
      have HROW := hid hrow
      have hRA : R < A.heap.size := (Array.getElem?_eq_some_iff.1 hrow).1
      clear hA hR hrow HB
      go_loopw [30] (fun i wr => ∃ k : Nat, k ≤ 4 ∧ i = .int .i64 k ∧ Hid (Below A.heap.size A wr)) (fun i _ => 4 - (intOf i).toNat)
      case atStart => exact ⟨0, by omega, rfl, hid (Below.refl _ _)⟩
      case round =>
        obtain ⟨k, hk, rfl, HB⟩ := hrel
        by_cases hlt : k < 4
        · have hlt' : (k : Int) < 4 := by omega
          have hc := row_cell ((HB.out.block R hRA).trans HROW.out) k
          rw [Array.getElem?_eq_getElem (by simpa using hlt)] at hc
          obtain ⟨x, hx⟩ : ∃ x : Int, (#[Value.int .i64 (-1), .int .i64 17, .int .i64 1048576, .int .i64 1048577] : Array Value)[k]'(by simpa using hlt) = .int .i64 x := by
            match k, hlt with
            | 0, _ => exact ⟨_, rfl⟩
            | 1, _ => exact ⟨_, rfl⟩
            | 2, _ => exact ⟨_, rfl⟩
            | 3, _ => exact ⟨_, rfl⟩
          rw [hx] at hc
          clear hx
          go_wp2_with fail
          refine (law3 x none 0 0 [] _ rfl (by omega) (Cls.zero _ _)).mono ?_
          rintro e w1 ⟨rfl, hw1⟩
          have HB1 := hid (HB.out.trans (hw1.mono HB.out.size))
          clear hw1 hc
          go_wp2_with fail
          refine (law4 x 0 none none none 0 0 0 0 0 0 [] [] [] _ rfl (by omega) (Cls.zero _ _) rfl (by omega) (Cls.zero _ _) rfl (Lits.zero _ _)).mono ?_
          rintro e w2 ⟨rfl, hw2⟩
          have HB2 := hid (HB1.out.trans (hw2.mono HB1.out.size))
          clear hw2
          go_wp2_with fail
          refine (law4 0 x none none none 0 0 0 0 0 0 [] [] [] _ rfl (by omega) (Cls.zero _ _) rfl (by omega) (Cls.zero _ _) rfl (Lits.zero _ _)).mono ?_
          rintro e w3 ⟨rfl, hw3⟩
          have HB3 := hid (HB2.out.trans (hw3.mono HB2.out.size))
          clear hw3
          go_wp2
          go_roundw
          case rel => exact ⟨k + 1, by omega, by go_num, HB3⟩
          case measure => simp [intOf]; omega
        · have hge : ¬ (k : Int) < 4 := by omega
          clear hlt hk
          have HBw := hid (HBa.out.trans (HB.out.mono HBa.out.size))
          clear HBa HROW hRA HB
          go_wp2
          clear hge
          obtain ⟨W2, hW2⟩ : ∃ W2, ((wr.alloc (.cells #[.int .i32 (-1), .int .i32 2] 44)).alloc (.cells #[.int .i32 (-2), .int .i32 3] 44)) = W2 := ⟨_, rfl⟩
          have hs2 : W2.heap.size = wr.heap.size + 1 + 1 := by rw [← hW2]; simp
          have hb2 : Below wr.heap.size wr W2 := by rw [← hW2]; exact ((Below.refl _ wr).alloc (Nat.le_refl _) _).alloc (by simp) _
          have hl1 : Lits W2 (some ⟨wr.heap.size, 0, none⟩) [-1, 2] := by rw [← hW2]; exact (lits_new' wr [-1, 2] _ 44 rfl (by decide)).alloc _
          have hl2 : Lits W2 (some ⟨wr.heap.size + 1, 0, none⟩) [-2, 3] := by rw [← hW2]; exact lits_new' _ [-2, 3] _ 44 (by simp) (by decide)
          obtain ⟨W3, hW3⟩ : ∃ W3, W2.alloc (.cells #[.slice (some ⟨wr.heap.size, 0, none⟩) 2 2, .slice (some ⟨wr.heap.size + 1, 0, none⟩) 2 2] 36) = W3 := ⟨_, rfl⟩
          have hs3 : W3.heap.size = wr.heap.size + 1 + 1 + 1 := by rw [← hW3]; simp [hs2]
          have hc3 : Cls W3 (some ⟨wr.heap.size + 1 + 1, 0, none⟩) [[-1, 2], [-2, 3]] := by
            rw [← hW3]
            exact cls_new' W2 _ 36 hs2 [(some ⟨wr.heap.size, 0, none⟩, 2, [-1, 2]), (some ⟨wr.heap.size + 1, 0, none⟩, 2, [-2, 3])] (by
              intro r hr
              simp only [List.mem_cons, List.not_mem_nil, or_false] at hr
              rcases hr with rfl | rfl
              · exact ⟨hl1, by simp⟩
              · exact ⟨hl2, by simp⟩)
          have hb3 : Below wr.heap.size wr W3 := by rw [← hW3]; exact hb2.alloc (by omega) _
          rw [hW2, hW3]
          clear hW2 hW3 hl1 hl2 hb2 hs2
          obtain ⟨W4, hW4⟩ : ∃ W4, W3.alloc (.cells #[.int .i64 3, .slice (some ⟨wr.heap.size + 1 + 1, 0, none⟩) 2 2] 24) = W4 := ⟨_, rfl⟩
          have hs4 : W4.heap.size = wr.heap.size + 1 + 1 + 1 + 1 := by rw [← hW4]; simp [hs3]
          have hb4 : Below wr.heap.size wr W4 := by rw [← hW4]; exact hb3.alloc (by omega) _
          have hc4 : Cls W4 (some ⟨wr.heap.size + 1 + 1, 0, none⟩) [[-1, 2], [-2, 3]] := by rw [← hW4]; exact hc3.alloc _
          have hf4 : W4.heap[wr.heap.size + 1 + 1 + 1]? = some (.cells #[.int .i64 3, .slice (some ⟨wr.heap.size + 1 + 1, 0, none⟩) 2 2] 24 (0, 0)) := by rw [← hW4, ← hs3]; exact World.alloc_heap_new _ _
          rw [hW4]
          clear hW4 hc3 hb3 hs3
          obtain ⟨B, hB, hc9, hb9, hs9⟩ := row9 W4 _ hs4
          rw [hB]
          have hc9f : Cls B (some ⟨wr.heap.size + 1 + 1, 0, none⟩) [[-1, 2], [-2, 3]] := hc4.below hb9
          have hf9 := (hb9.block (wr.heap.size + 1 + 1 + 1) (by omega)).trans hf4
          have HBB := hid (show Below w.heap.size w B from HBw.out.trans ((hb4.trans (hb9.mono (by omega))).mono HBw.out.size))
          obtain ⟨s, hse⟩ : ∃ s, wr.heap.size = s := ⟨_, rfl⟩
          rw [hse] at hc9 hc9f hf9 hs9 ⊢
          have HC9 := hid hc9
          have HCF := hid hc9f
          have HF9 := hid hf9
          clear hB hc9 hc9f hf9 hb9 hf4 hc4 hb4 hs4 hse HBw
          go_loopw [67] (fun i wr => ∃ k : Nat, k ≤ 9 ∧ i = .int .i64 k ∧ Hid (Below B.heap.size B wr)) (fun i _ => 9 - (intOf i).toNat)
          case atStart => exact ⟨0, by omega, rfl, hid (Below.refl _ _)⟩
          case round =>
            obtain ⟨k, hk, rfl, HB⟩ := hrel
            by_cases hlt : k < 9
            · have hlt' : (k : Int) < 9 := by omega
              obtain ⟨b, off, a', cap', e, hbl, hcell, hlits, _⟩ := HC9.out.at (k := k) (by simpa using hlt)
              cases e
              have hcc := (HB.out.cell (p := ⟨_, 0 + k, none⟩) hbl).trans hcell
              rw [Nat.zero_add] at hcc
              have hln : (([[], [0], [4], [-4], [-1, 3], [3], [1, -1], [-2147483648], [3, 3, 4]] : List (List Int)).getD k []).length ≤ 3 := by
                match k, hlt with
                | 0, _ => decide
                | 1, _ => decide
                | 2, _ => decide
                | 3, _ => decide
                | 4, _ => decide
                | 5, _ => decide
                | 6, _ => decide
                | 7, _ => decide
                | 8, _ => decide
              generalize ([[], [0], [4], [-4], [-1, 3], [3], [1, -1], [-2147483648], [3, 3, 4]] : List (List Int)).getD k [] = c at hcc hlits hln
              obtain ⟨L, hL⟩ : ∃ L, c.length = L := ⟨_, rfl⟩
              rw [hL] at hcc hln
              have HL := hid hL
              have HLI := hid hlits
              clear hcell hlits hbl hL
              have hf := (HB.out.block (s + 1 + 1 + 1) (by omega)).trans HF9.out
              have f0 := row_cell hf 0
              have f1 := row_cell hf 1
              simp only [List.getElem?_toArray, List.getElem?_cons_zero, List.getElem?_cons_succ] at f0 f1
              clear hf
              obtain ⟨D, hD, hcD, hbD⟩ := row3 wr _ rfl
              have BD := hid (HB.out.trans (hbD.mono HB.out.size))
              have HCD := hid hcD
              have HD := hid hD
              clear hcD hbD hD
              go_wp2_with fail
              rw [HD.out]
              refine (law4 3 3 (some ⟨s + 1 + 1, 0, none⟩) _ a' 2 2 3 3 L cap' [[-1, 2], [-2, 3]] [[-1, 2], [-2, 3], [-1, 3]] c D rfl (by omega) (HCF.out.below BD.out) rfl (by omega) HCD.out HL.out (HLI.out.below BD.out)).mono ?_
              rintro e w1 ⟨rfl, hw1⟩
              have B1 := hid (BD.out.trans (hw1.mono BD.out.size))
              clear hw1 f0 f1 HD BD HCD
              have hf := (B1.out.block (s + 1 + 1 + 1) (by omega)).trans HF9.out
              have f0 := row_cell hf 0
              have f1 := row_cell hf 1
              simp only [List.getElem?_toArray, List.getElem?_cons_zero, List.getElem?_cons_succ] at f0 f1
              clear hf
              go_wp2_with fail
              refine (law4 3 2 (some ⟨s + 1 + 1, 0, none⟩) none a' 2 2 0 0 L cap' [[-1, 2], [-2, 3]] [] c w1 rfl (by omega) (HCF.out.below B1.out) rfl (by omega) (Cls.zero _ _) HL.out (HLI.out.below B1.out)).mono ?_
              rintro e w2 ⟨rfl, hw2⟩
              have B2 := hid (B1.out.trans (hw2.mono B1.out.size))
              clear hw2 f0 f1
              have hf := (B2.out.block (s + 1 + 1 + 1) (by omega)).trans HF9.out
              have f0 := row_cell hf 0
              have f1 := row_cell hf 1
              simp only [List.getElem?_toArray, List.getElem?_cons_zero, List.getElem?_cons_succ] at f0 f1
              clear hf
              go_wp2_with fail
              refine (law5 3 (some ⟨s + 1 + 1, 0, none⟩) a' 2 2 L cap' [[-1, 2], [-2, 3]] c w2 rfl (by omega) (HCF.out.below B2.out) HL.out (HLI.out.below B2.out) (fun h => by cases h)).mono ?_
              rintro e w3 ⟨rfl, hw3⟩
              have B3 := hid (B2.out.trans (hw3.mono B2.out.size))
              clear hw3 f0 f1
              go_wp2_with fail
              refine (law5 3 (some ⟨w3.heap.size, 0, none⟩) a' 1 1 L cap' [c] c _ rfl (by omega) (by have := cls_one w3 _ cap' 36 a' c rfl (HLI.out.below B3.out) (by rw [HL.out]; omega); rw [HL.out] at this; exact this) HL.out ((HLI.out.below B3.out).alloc _) (fun h => by cases h)).mono ?_
              rintro e w4 ⟨rfl, hw4⟩
              have B4 := hid ((B3.out.alloc B3.out.size _).trans (hw4.mono (by simp; have := B3.out.size; omega)))
              clear hw4
              go_wp2
              go_roundw
              case rel => exact ⟨k + 1, by omega, by go_num, B4⟩
              case measure => simp [intOf]; omega
            · have hge : ¬ (k : Int) < 9 := by omega
              clear hlt hk
              have HBw := hid (HBB.out.trans (HB.out.mono HBB.out.size))
              clear HBB HC9 HCF HF9 HB
              go_wp2_with fail
              clear hge
              refine (count10_all 16 (some ⟨wr.heap.size + 1, 0, none⟩) 1 1 [[16]] _ rfl (cls_one (wr.alloc (.cells #[.int .i32 16] 44)) _ 1 36 (some ⟨wr.heap.size, 0, none⟩) [16] (by simp) (lits_new' wr [16] _ 44 rfl (by decide)) (by decide))).mono ?_
              rintro e w1 ⟨rfl, hw1⟩
              rw [Tru.know_count, Tru.taken_k1]
              have B1 := hid (((HBw.out.alloc HBw.out.size _).alloc (by simp; have := HBw.out.size; omega) _).trans (hw1.mono (by simp; have := HBw.out.size; omega)))
              clear hw1 HBw
              go_wp2_with fail
              have hc2 : Cls (((w1.alloc (.cells #[.int .i32 16] 44)).alloc (.cells #[.int .i32 (-1), .int .i32 15] 44)).alloc (.cells #[.slice (some ⟨w1.heap.size, 0, none⟩) 1 1, .slice (some ⟨w1.heap.size + 1, 0, none⟩) 2 2] 36)) (some ⟨w1.heap.size + 1 + 1, 0, none⟩) [[16], [-1, 15]] :=
                cls_new' _ _ 36 (by simp) [(some ⟨w1.heap.size, 0, none⟩, 1, [16]), (some ⟨w1.heap.size + 1, 0, none⟩, 2, [-1, 15])] (by
                  intro r hr
                  simp only [List.mem_cons, List.not_mem_nil, or_false] at hr
                  rcases hr with rfl | rfl
                  · exact ⟨(lits_new' w1 [16] _ 44 rfl (by decide)).alloc _, (by simp)⟩
                  · exact ⟨lits_new' _ [-1, 15] _ 44 (by simp) (by decide), (by simp)⟩)
              refine (find8_all 16 (some ⟨w1.heap.size + 1 + 1, 0, none⟩) 2 2 [[16], [-1, 15]] _ rfl hc2).mono ?_
              rintro e w2 ⟨⟨a2, cap2, bs, ok, er, rfl, hb2, hf2⟩, hw2⟩
              obtain ⟨rfl, rfl, rfl⟩ := Tru.know_find hf2
              rw [Tru.model_k.1]
              have B2 := hid ((((B1.out.alloc B1.out.size _).alloc (by simp; have := B1.out.size; omega) _).alloc (by simp; have := B1.out.size; omega) _).trans (hw2.mono (by simp; have := B1.out.size; omega)))
              obtain ⟨b, off, e1, h15⟩ := hb2.at (k := 15) (by rw [Tru.model_k.1]; decide)
              obtain ⟨b', off', e2, h0⟩ := hb2.at (k := 0) (by rw [Tru.model_k.1]; decide)
              rw [e1] at e2
              cases e2
              subst e1
              rw [Tru.model_k.2.1] at h15
              rw [Tru.model_k.2.2, Nat.add_zero] at h0
              clear hw2 hf2 hb2 hc2
              go_wp2_with (go_at_call 13; refine (works13 w2).mono ?_; rintro e w3 ⟨rfl, hw3⟩; have B3 := hid (B2.out.trans (hw3.mono B2.out.size)); clear hw3)
              go_ret
              exact ⟨rfl, B3.out⟩
end Go.Proofs.Ytccncojidkdddaa
