/- New. -/
import Derived.Test.YtjnifadfcnpdoaaQuI
import Derived.Laws.EntriesVeiled
namespace Go.Proofs.Ytjnifadfcnpdoaa
open Go.RowKit Go.Maps
set_option linter.unusedVariables false
set_option maxRecDepth 100000

theorem new10_no (n : Int) (W : World) (hn : n < 0 ∨ 1048576 < n) : Calls Try.prog 10 #[.int .i64 n] W fun e w' => e = .returned (.tuple #[.pointer none, .int .i64 2]) ∧ w' = W := by
  by_cases h1 : n < 0
  · clear hn
    go_enter Try.func10, Try.ntmps10
    go_wp2
    go_ret2
    exact ⟨rfl, rfl⟩
  · have h2 : 1048576 < n := by omega
    clear hn
    go_enter Try.func10, Try.ntmps10
    go_wp2
    go_ret2
    exact ⟨rfl, rfl⟩
def zer (n : Nat) : List Int := List.replicate n 0
theorem made_zer (n : Nat) : madeCells (Value.int .i64 0).cells n = (iss (zer n)).toArray := by
  have hcl : (Value.int .i64 0).cells = #[Value.int .i64 0] := by rfl
  rw [hcl]
  apply Array.ext_getElem?
  intro k
  rw [madeCells, Array.getElem?_map, Array.getElem?_range]
  by_cases hk : k < n
  · rw [if_pos hk]
    simp [iss, zer, hk, Nat.mod_one]
  · rw [if_neg hk]
    simp [iss, zer, hk]
theorem cutW {P : Program} {K : Exit → Act → World → Prop} {e : Exit} {a : Act} {X : World} {F : World → Prop} (h : F X) (k : ∀ Y, F Y → K e a Y) : K e a X := k X h
/-- A queue of no variables yet, all of it new. -/
def NewQ (W : World) (n : Nat) (q : Nat) (Y : World) : Prop := ∃ A : Adr, A.qb = q ∧ Qx A n 0 [] (Qp.stN n 0) Y ∧ Below W.heap.size W Y ∧ ∀ g, A.own g → W.heap.size ≤ g
theorem five0 (W : World) (o1 o2 o3 o4 o5 : Obj) : (((((W.alloc o1).alloc o2).alloc o3).alloc o4).alloc o5).drew.heap[W.heap.size]? = some o1 := by
  simp only [World.drew, World.alloc, Array.size_push, Array.getElem?_push]
  rw [if_neg (by omega), if_neg (by omega), if_neg (by omega), if_neg (by omega), if_pos trivial]
theorem five1 (W : World) (o1 o2 o3 o4 o5 : Obj) : (((((W.alloc o1).alloc o2).alloc o3).alloc o4).alloc o5).drew.heap[W.heap.size + 1]? = some o2 := by
  simp only [World.drew, World.alloc, Array.size_push, Array.getElem?_push]
  rw [if_neg (by omega), if_neg (by omega), if_neg (by omega), if_pos trivial]
theorem five2 (W : World) (o1 o2 o3 o4 o5 : Obj) : (((((W.alloc o1).alloc o2).alloc o3).alloc o4).alloc o5).drew.heap[W.heap.size + 1 + 1]? = some o3 := by
  simp only [World.drew, World.alloc, Array.size_push, Array.getElem?_push]
  rw [if_neg (by omega), if_neg (by omega), if_pos trivial]
theorem five3 (W : World) (o1 o2 o3 o4 o5 : Obj) : (((((W.alloc o1).alloc o2).alloc o3).alloc o4).alloc o5).drew.heap[W.heap.size + 1 + 1 + 1]? = some o4 := by
  simp only [World.drew, World.alloc, Array.size_push, Array.getElem?_push]
  rw [if_neg (by omega), if_pos trivial]
theorem five4 (W : World) (o1 o2 o3 o4 o5 : Obj) : (((((W.alloc o1).alloc o2).alloc o3).alloc o4).alloc o5).drew.heap[W.heap.size + 1 + 1 + 1 + 1]? = some o5 := by
  simp only [World.drew, World.alloc, Array.size_push, Array.getElem?_push]
  rw [if_pos trivial]
theorem five_below (W : World) (o1 o2 o3 o4 o5 : Obj) : Below W.heap.size W (((((W.alloc o1).alloc o2).alloc o3).alloc o4).alloc o5).drew := by
  refine Below.drew ?_
  refine Below.alloc (Below.alloc (Below.alloc (Below.alloc (Below.alloc (Below.refl _ _) (Nat.le_refl _) _) ?_ _) ?_ _) ?_ _) ?_ _ <;> simp only [World.alloc, Array.size_push] <;> omega
theorem own_zer {X : World} {g m t : Nat} {xs : List Value} (h : X.heap[g]? = some (.cells xs.toArray t (0, 0))) (hl : xs.length = m) (hm : m ≤ 1048577) : X.ownsRow 0 t 1 (.slice (some ⟨g, 0, none⟩) m m) m xs :=
  own_mk (Nat.zero_le _) h (Nat.le_refl _) (by unfold maxLen; omega) (by simpa using hl) (by simp [← hl])
theorem zer_nat (m : Nat) : iss (zer m) = inn (List.replicate m 0) := by simp [iss, inn, zer]
theorem getD_rep (m x : Nat) : (List.replicate m (0 : Nat)).getD x 0 = 0 := by
  rw [List.getD_eq_getElem?_getD, List.getElem?_replicate]; split <;> rfl
theorem getD_zer (m x : Nat) : (zer m).getD x 0 = 0 := by
  rw [List.getD_eq_getElem?_getD, zer, List.getElem?_replicate]; split <;> rfl
theorem newq {W : World} {n m q : Nat} {zz : Array Value} {X : World} {pa pb pr ps : Nat} (hm : m = n + 1) (hn : n ≤ 1048576) (hz : (iss (zer m)).toArray = zz)
    (hq : X.heap[q]? = some (.cells #[.slice (some ⟨pa, 0, none⟩) m m, .slice (some ⟨pb, 0, none⟩) m m, .slice (some ⟨pr, 0, none⟩) m m, .slice (some ⟨ps, 0, none⟩) m m, .int .i64 0] 53 (0, 0)))
    (ha : X.heap[pa]? = some (.cells zz 3 (0, 0))) (hb : X.heap[pb]? = some (.cells zz 3 (0, 0))) (hr : X.heap[pr]? = some (.cells zz 2 (0, 0))) (hs : X.heap[ps]? = some (.cells zz 2 (0, 0)))
    (n1 : pa ≠ pb) (n2 : pr ≠ ps) (hB : Below W.heap.size W X) (l0 : W.heap.size ≤ q) (l1 : W.heap.size ≤ pa) (l2 : W.heap.size ≤ pb) (l3 : W.heap.size ≤ pr) (l4 : W.heap.size ≤ ps) : NewQ W n q X := by
  subst hm
  refine ⟨⟨q, pa, pb, pr, ps, n + 1, n + 1, n + 1, n + 1⟩, rfl, ⟨List.replicate (n + 1) 0, List.replicate (n + 1) 0, zer (n + 1), 0, ⟨hq, ?_, ?_, ?_, ?_, n1, n2⟩, ⟨hn, ?_, List.nodup_nil, fun v hv => by (cases hv), .nil, ?_, ?_, Nat.zero_le _, by omega⟩⟩, hB, ?_⟩
  · rw [← hz, zer_nat] at ha; exact own_zer ha (by simp [inn]) (by omega)
  · rw [← hz, zer_nat] at hb; exact own_zer hb (by simp [inn]) (by omega)
  · rw [← hz] at hr; exact own_zer hr (by simp [iss, zer]) (by omega)
  · rw [← hz] at hs
    rw [Qp.stN_zero]
    exact own_zer hs (by simp [iss]) (by omega)
  · exact ⟨getD_rep _ _, getD_rep _ _⟩
  · intro x; rw [getD_zer]; omega
  · intro x; rw [Qp.stN_zero, show List.replicate (n + 1) (0 : Int) = zer (n + 1) from rfl, getD_zer]; omega
  · rintro g (h | h | h | h | h) <;> (rw [h]; assumption)
/-- What New leaves. -/
def MadeQ (n : Nat) (W : World) (e : Ending) (w' : World) : Prop := ∃ A : Adr, e = .returned (.tuple #[.pointer (some ⟨A.qb, 0, none⟩), .int .i64 0]) ∧ Qx A n n (Qp.rowN n) (Qp.stN n n) w' ∧ Below W.heap.size W w' ∧ ∀ g, A.own g → W.heap.size ≤ g
theorem Fa.new {A : Adr} {W Y w : World} (hB : Below W.heap.size W Y) (hA : ∀ g, A.own g → W.heap.size ≤ g) (hf : Fa A Y w) : Below W.heap.size W w := by
  refine hB.trans (hf.below hB.size (fun g hg h => ?_))
  have := hA g h
  omega
theorem meas1 {k n : Nat} (h : k < n) : n + 1 - ((k : Int) + 1 + 1).toNat < n + 1 - ((k : Int) + 1).toNat := by omega
set_option maxHeartbeats 8000000 in
theorem new10 (n : Nat) (W : World) (hn : n ≤ 1048576) : Calls Try.prog 10 #[.int .i64 n] W fun e w' => MadeQ n W e w' := by
  obtain ⟨m, hm⟩ : ∃ m : Nat, (m : Int) = (n : Int) + 1 := ⟨n + 1, by omega⟩
  have hmn : m = n + 1 := by omega
  obtain ⟨i0, hi, hz⟩ := Option.map_eq_some_iff.1 info2
  simp only [Prod.mk.injEq] at hz
  have hmk := fun W => run_makeSlice (P := Try.prog) W 51 2 i0 _ Try.underlying51 hi hz.1 .i64 .i64 (m : Int) (m : Int) (by omega) (Int.le_refl _) (by rw [hz.2.1]; omega) (by rw [hz.2.2]; omega) (by omega)
  simp only [hz.2.1, Int.toNat_natCast, Nat.mul_one, made_zer] at hmk
  obtain ⟨i1, hi1, hz1⟩ := Option.map_eq_some_iff.1 info3
  simp only [Prod.mk.injEq] at hz1
  have hmj := fun W => run_makeSlice (P := Try.prog) W 32 3 i1 _ Try.underlying32 hi1 hz1.1 .i64 .i64 (m : Int) (m : Int) (by omega) (Int.le_refl _) (by rw [hz1.2.1]; omega) (by rw [hz1.2.2]; omega) (by omega)
  simp only [hz1.2.1, Int.toNat_natCast, Nat.mul_one, made_zer] at hmj
  have h1 : ¬ (n : Int) < 0 := by omega
  have h2 : ¬ 1048576 < (n : Int) := by omega
  have hw : wrap64 ((n : Int) + 1) = m := by unfold wrap64; omega
  have hw2 : IntKind.i64.wrap ((n : Int) + 1) = m := by simp [IntKind.wrap, IntKind.bits, IntKind.signed]; omega
  have HMN := hid hmn
  clear hi hi1 hz hz1 hm hmn
  obtain ⟨zz, hzz⟩ : ∃ zz, (iss (zer m)).toArray = zz := ⟨_, rfl⟩
  rw [hzz] at hmk hmj
  have HZZ := hid hzz
  have HN := hid hn
  clear hzz hn
  go_enter Try.func10, Try.ntmps10
  go_wp2_with (fail)
  go_region_law (fail)
  all_goals
    refine cutW (P := Try.prog) (K := Exit.then _ _) (F := NewQ W n (W.heap.size + 1 + 1 + 1 + 1)) ?_ ?_
    · as_aux_lemma =>
        refine newq HMN.out HN.out HZZ.out (five4 _ _ _ _ _ _) ?_ ?_ ?_ ?_ ?_ ?_ (five_below _ _ _ _ _ _) ?_ ?_ ?_ ?_ ?_
        iterate 4 (first | exact five0 _ _ _ _ _ _ | exact five1 _ _ _ _ _ _ | exact five2 _ _ _ _ _ _ | exact five3 _ _ _ _ _ _)
        all_goals omega
  clear hmk hmj hw hw2
  all_goals
    rintro Y ⟨A, hq, Q0, B0, O0⟩
    have HO := hid O0
    have HB := hid B0
    have HQ0 := hid Q0
    clear O0 B0 Q0
    rw [← hq]
    clear hq
    go_wp2_with (fail)
    go_loopw [5] (fun i wr => ∃ k : Nat, k ≤ n ∧ i = .int .i64 ((k : Int) + 1) ∧ Hid (Qx A n k (Qp.rowN k) (Qp.stN n k) wr ∧ Fa A Y wr)) (fun i _ => n + 1 - (intOf i).toNat)
    case atStart => exact ⟨0, Nat.zero_le _, rfl, hid ⟨HQ0.out, Fq.refl _ _⟩⟩
    case round =>
      obtain ⟨k, hkt, rfl, HQ⟩ := hrel
      by_cases hlt : k < n
      · have hlt' : (k : Int) + 1 ≤ n := by omega
        have hwk : wrap64 ((k : Int) + 1 + 1) = (k : Int) + 1 + 1 := by have := HN.out; unfold wrap64; omega
        have hwc : IntKind.i64.wrap ((k : Int) + 1) = (k : Int) + 1 := by have := HN.out; simp [IntKind.wrap, IntKind.bits, IntKind.signed]; omega
        have C2 := hid (HQ.out.1.put (by have := HN.out; omega) (v := k + 1) (fun h => by have := Qp.rowN_mem.1 h; omega) (by omega) (by omega))
        rw [show ((k + 1 : Nat) : Int) = (k : Int) + 1 from rfl] at C2
        go_wp2_with (fail)
        go_at_call 24
        refine C2.out.mono ?_
        rintro e w2 ⟨rfl, q2, f2⟩
        have HN2 := hid (show Qx A n (k + 1 : Nat) (Qp.rowN (k + 1)) (Qp.stN n (k + 1)) (w2.setCell ⟨A.gs, k + 1, none⟩ (.int .i64 ((k : Int) + 1))) ∧ Fa A Y (w2.setCell ⟨A.gs, k + 1, none⟩ (.int .i64 ((k : Int) + 1))) from by
          obtain ⟨r1, r2⟩ := q2.setS (v := k + 1) hlt (s := (k : Int) + 1) (by omega) (by omega)
          rw [show (k : Int) + 1 = ((k + 1 : Nat) : Int) from rfl] at r1 r2 ⊢
          rw [Qp.rowN_snoc, ← Qp.stN_set]
          exact ⟨r1, (HQ.out.2.trans f2).trans r2⟩)
        obtain ⟨d3, cx⟩ := q2.cells
        obtain ⟨x3, f3⟩ := cx (k + 1) hlt
        obtain ⟨m', hm'⟩ : ∃ m', n + 1 = m' := ⟨_, rfl⟩
        rw [hm'] at d3
        have hvm : (k : Int) + 1 < m' := by omega
        generalize (Qp.stN n k).getD (k + 1) 0 = y at x3
        clear C2 q2 f2 cx HQ
        go_wp2_with (fail)
        exact ⟨⟨k + 1, hlt, rfl, HN2⟩, by simp only [intOf]; exact meas1 hlt⟩
      · have hge : ¬ (k : Int) + 1 ≤ n := by omega
        have HO2 := hid (show Qx A n n (Qp.rowN n) (Qp.stN n n) wr ∧ Fa A Y wr from by
          have hkt2 : k = n := by omega
          have := HQ.out
          rw [hkt2] at this
          exact this)
        clear HQ
        go_wp2
        go_ret2
        exact ⟨A, rfl, HO2.out.1, Fa.new HB.out HO.out HO2.out.2, HO.out⟩
end Go.Proofs.Ytjnifadfcnpdoaa
