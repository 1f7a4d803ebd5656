/- slices.Repeat, at a row of one. -/
import Derived.Test.YtjbnkkjihcoojaaBmp
import Derived.Shelf.Bits.Mul64
import Derived.Laws.CopyRow
namespace Go.Proofs.Ytjbnkkjihcoojaa
open Go.RowKit Go.Maps
set_option linter.unusedVariables false
set_option maxRecDepth 100000

set_option maxHeartbeats 1000000 in
theorem mul59 (n : Nat) (w : World) (hn : n ≤ 1048576) :
    Calls Try.prog 59 #[.int .u64 1, .int .u64 (n : Nat)] w fun e w' => e = .returned (.tuple #[.int .u64 0, .int .u64 (n : Nat)]) ∧ w' = w := by
  have m1 : bits .and .u64 1 4294967295 = 1 := by rfl
  have m0 : bits .and .u64 0 4294967295 = 0 := by rfl
  have m2 : bits .and .u64 (n : Int) 4294967295 = n := by
    have := Mul64.maskN n (by omega)
    rw [this]; omega
  have d1 : (n : Int) / 4294967296 = 0 := by omega
  have w1 : IntKind.u64.wrap (n : Int) = n := by rw [IntKind.wrap_u64]; omega
  go_enter Try.func59, Try.ntmps59
  go_wp2
  go_ret2
  exact ⟨rfl, rfl⟩
theorem mul48 (n : Nat) (w : World) (hn : n ≤ 1048576) :
    Calls Try.prog 48 #[.int .u64 1, .int .u64 (n : Nat)] w fun e w' => e = .returned (.tuple #[.int .u64 0, .int .u64 (n : Nat)]) ∧ w' = w := by
  have C := hid (mul59 n w hn)
  have w1 : IntKind.u64.wrap (n : Int) = n := by rw [IntKind.wrap_u64]; omega
  go_enter Try.func48, Try.ntmps48
  go_wp2_with (go_at_call 59; refine C.out.mono ?_; rintro e w4 ⟨rfl, hw4⟩; rw [hw4]; clear hw4)
  go_ret2
  exact ⟨rfl, rfl⟩
/-- A row of the absent. -/
def absn (n c : Nat) : List Int := List.replicate c (-1) ++ List.replicate (n - c) 0
def RepOut (W : World) (n : Nat) (e : Ending) (w' : World) : Prop := ∃ o c, e = .returned (.slice o n c) ∧ w'.ownsRow W.heap.size 3 1 (.slice o n c) n (iss (List.replicate n (-1))) ∧ Below W.heap.size W w'
theorem absn_len {n c : Nat} (h : c ≤ n) : (absn n c).length = n := by simp [absn]; omega
theorem absn_get {n c k : Nat} (h : k < c) (hc : c ≤ n) : (iss (absn n c))[k]? = some (.int .i64 (-1)) := by
  unfold iss absn
  rw [List.getElem?_map, List.getElem?_append_left (by simpa using h), List.getElem?_replicate, if_pos h]
  rfl
theorem absn_more {n c k : Nat} (h : c + k ≤ n) : (iss (absn n c)).take c ++ List.replicate k (.int .i64 (-1)) ++ (iss (absn n c)).drop (c + k) = iss (absn n (c + k)) := by
  have e : iss (absn n c) = List.replicate c (.int .i64 (-1)) ++ List.replicate (n - c) (.int .i64 0) := by simp [iss, absn]
  have e2 : iss (absn n (c + k)) = List.replicate (c + k) (.int .i64 (-1)) ++ List.replicate (n - (c + k)) (.int .i64 0) := by simp [iss, absn]
  rw [e, e2]
  have h1 : (List.replicate c (Value.int .i64 (-1)) ++ List.replicate (n - c) (Value.int .i64 0)).take c = List.replicate c (.int .i64 (-1)) := by
    rw [List.take_append_of_le_length (by simp)]; simp
  have h2 : (List.replicate c (Value.int .i64 (-1)) ++ List.replicate (n - c) (Value.int .i64 0)).drop (c + k) = List.replicate (n - (c + k)) (.int .i64 0) := by
    rw [List.drop_append, List.drop_eq_nil_of_le (by simp), List.nil_append, List.drop_replicate]
    congr 1
    simp; omega
  rw [h1, h2, List.replicate_append_replicate]
theorem size3 : (Try.prog.info? 3).map (·.size) = some 1 := by kernel_rfl
/-- A copy of the absent, behind those that are there. -/
theorem copy_absn {W w : World} {n c k : Nat} {a : Addr} {l cap dc : Nat} (hg : w.heap[W.heap.size]? = some (.cells (iss (absn n c)).toArray 3 (0, 0))) (hb : Below W.heap.size W w) (hk : k = Nat.min l (n - c)) (hc : c ≤ n) (hs : ∀ j, j < k → w.cell? (a.add j) = some (.int .i64 (-1))) :
    ∃ X, (Builtin.copy_ #[42, 42] 3 #[.slice (some ⟨W.heap.size, c, none⟩) (n - c) dc, .slice (some a) l cap]).run Try.prog w = .ok (.int .i64 (k : Nat)) X ∧ X.heap[W.heap.size]? = some (.cells (iss (absn n (c + k))).toArray 3 (0, 0)) ∧ Below W.heap.size W X := by
  have hkn : c + k ≤ n := by have h1 : Nat.min l (n - c) ≤ n - c := Nat.min_le_right l (n - c); omega
  have hr := run_copy_row Try.prog w 42 42 3 3 W.heap.size c (n - c) dc a l cap (iss (absn n c)).toArray 3 (List.replicate k (.int .i64 (-1))) Try.underlying42 size3 hg (by rw [List.length_replicate]; exact hk) (fun j v hv => by
    rw [List.getElem?_replicate] at hv
    split at hv
    · cases hv; exact hs j (by assumption)
    · cases hv) (by simp [iss, absn]; omega) (by intro v hv; rw [List.eq_of_mem_replicate hv]; rfl)
  rw [List.length_replicate] at hr
  refine ⟨_, hr, ?_, ?_⟩
  · rw [setRow_heap w W.heap.size _ _ 3 (0, 0) hg]
    congr 2
    exact congrArg List.toArray (absn_more hkn)
  · refine hb.trans ⟨rfl, rfl, rfl, by simp [World.setRow], fun g hgl => ?_⟩
    simp [World.setRow, Array.getElem?_modify]
    omega
set_option maxHeartbeats 2000000 in
theorem repeat29 (b : Nat) (n c : Nat) (W : World) (hn : n ≤ 1048576) (hb : b < W.heap.size) (h0 : W.cell? ⟨b, 0, none⟩ = some (.int .i64 (-1))) :
    Calls Try.prog 29 #[.slice (some ⟨b, 0, none⟩) 1 c, .int .i64 n] W fun e w' => RepOut W n e w' := by
  obtain ⟨i0, hi, hz⟩ := Option.map_eq_some_iff.1 info3
  simp only [Prod.mk.injEq] at hz
  have hmk := fun W => run_makeSlice (P := Try.prog) W 42 3 i0 _ Try.underlying42 hi hz.1 .i64 .i64 (n : Int) (n : Int) (by omega) (Int.le_refl _) (by rw [hz.2.1]; omega) (by rw [hz.2.2]; omega) (by omega)
  simp only [hz.2.1, Int.toNat_natCast, Nat.mul_one] at hmk
  have C := hid (mul48 n W hn)
  have h1 : ¬ (n : Int) < 0 := by omega
  have w1 : IntKind.u64.wrap (n : Int) = n := by rw [IntKind.wrap_u64]; omega
  have w2 : ¬ (9223372036854775807 : Int) < n := by omega
  have hmade : madeCells #[Value.int .i64 0] n = (iss (absn n 0)).toArray := by
    apply Array.ext_getElem?
    intro k
    rw [madeCells, Array.getElem?_map, Array.getElem?_range]
    by_cases hk : k < n
    · rw [if_pos hk]
      simp [iss, absn, hk, Nat.mod_one]
    · rw [if_neg hk]
      simp [iss, absn, hk]
  have hcl : (Value.int .i64 0).cells = #[Value.int .i64 0] := by rfl
  rw [hcl] at hmk
  rw [hmade] at hmk
  have hal := heap_alloc_new W (.cells (iss (absn n 0)).toArray 3)
  have hbl := below_box W (.cells (iss (absn n 0)).toArray 3)
  obtain ⟨k, hk⟩ : ∃ k, k = Nat.min 1 n := ⟨_, rfl⟩
  obtain ⟨X, hX, hX2, hX3⟩ := copy_absn (W := W) (w := W.alloc (.cells (iss (absn n 0)).toArray 3)) (n := n) (c := 0) (k := k) (a := ⟨b, 0, none⟩) (l := 1) (cap := c) (dc := n) hal hbl hk (Nat.zero_le _) (fun j hj => by
    obtain rfl : j = 0 := by have h1 : Nat.min 1 n ≤ 1 := Nat.min_le_left 1 n; omega
    exact (hbl.cell (p := ⟨b, 0, none⟩) hb).trans h0)
  rw [Nat.sub_zero] at hX
  rw [Nat.zero_add] at hX2
  have HX := hid (show _ ∧ _ from ⟨hX2, hX3⟩)
  have HK := hid hk
  have hk1 : k ≤ 1 ∧ k ≤ n := by rw [hk]; exact ⟨Nat.min_le_left _ _, Nat.min_le_right _ _⟩
  have hk2 : 0 < n → k = 1 := fun h => by have : Nat.min 1 n = 1 := Nat.min_eq_left h; omega
  have HK2 := hid hk2
  have hmk2 := hmk W
  obtain ⟨W1, hW1⟩ : ∃ W1, W.alloc (.cells (iss (absn n 0)).toArray 3) = W1 := ⟨_, rfl⟩
  rw [hW1] at hX hmk2
  clear hmade hal hbl hX2 hX3 hi hz hk h0 hk2 hmk hcl hW1
  obtain ⟨hk3, hk4⟩ := hk1
  go_enter Try.func29, Try.ntmps29
  go_wp2_with (go_at_call 48; refine C.out.mono ?_; rintro e w4 ⟨rfl, hw4⟩; rw [hw4]; clear hw4)
  clear hX hmk2 C
  go_loopw [8] (fun nv wr => ∃ (c : Nat), c ≤ n ∧ (0 < n → 0 < c) ∧ nv = .int .i64 (c : Nat) ∧ Hid (wr.heap[W.heap.size]? = some (.cells (iss (absn n c)).toArray 3 (0, 0)) ∧ Below W.heap.size W wr)) (fun nv _ => n - (intOf nv).toNat)
  case atStart => exact ⟨k, hk4, fun h => by rw [HK2.out h]; omega, rfl, HX⟩
  case round =>
    obtain ⟨d, hd, hd0, rfl, HR⟩ := hrel
    by_cases hlt : d < n
    · have hlt' : (d : Int) < n := by omega
      have hd1 : 0 < d := hd0 (by omega)
      obtain ⟨q, hq⟩ : ∃ q, q = Nat.min d (n - d) := ⟨_, rfl⟩
      have hq1 : q ≤ n - d := by rw [hq]; exact Nat.min_le_right _ _
      have hq2 : 0 < q := by rw [hq]; exact Nat.lt_min.2 ⟨hd1, by omega⟩
      have hq3 : q ≤ d := by rw [hq]; exact Nat.min_le_left _ _
      obtain ⟨Y, hY, hY2, hY3⟩ := copy_absn (W := W) (w := wr.drew) (n := n) (c := d) (k := q) (a := ⟨W.heap.size, 0, none⟩) (l := d) (cap := n) (dc := n - d) HR.out.1 HR.out.2.drew hq hd (fun j hj => by
        rw [show (⟨W.heap.size, 0, none⟩ : Addr).add j = ⟨W.heap.size, j, none⟩ by simp [Addr.add]; omega, row_cell (W := wr.drew) HR.out.1, List.getElem?_toArray]
        exact absn_get (by omega) hd)
      have HY := hid (show _ ∧ _ from ⟨hY2, hY3⟩)
      clear hY2 hY3 hq
      have hdn : ¬ n = d := by omega
      go_wp2
      go_region
      all_goals
        go_wp2
        exact ⟨⟨d + q, by omega, fun _ => by omega, by go_num, HY⟩, by simp only [intOf]; omega⟩
    · have hge : ¬ (d : Int) < n := by omega
      obtain rfl : d = n := by omega
      have HO := hid (show RepOut W d (.returned (.slice (some ⟨W.heap.size, 0, none⟩) d d)) wr from ⟨_, _, rfl, own_mk (Nat.le_refl _) HR.out.1 (Nat.le_refl _) (by unfold maxLen; omega) (by simp [iss, absn]) (by simp [iss, absn]), HR.out.2⟩)
      clear hlt
      go_wp2
      go_ret
      exact HO.out
end Go.Proofs.Ytjbnkkjihcoojaa
