/- The table's masks are sorted: the same masks, in some order. -/
import Derived.Test.YthpebfojkpnojaaGreatJav
import Derived.Shelf.SlicesG.CompactI
import Derived.Test.YthpebfojkpnojaaGreatJau
/- The table's masks are sorted: the same masks, in some order. -/
namespace Go.Proofs.YthpebfojkpnojaaGreat.Tr
open Go.RowKit Go.Lib Go.Sort Go.Shelf
set_option linter.unusedVariables false

def encM (p : Nat × Nat) : List Value := [.int .u32 p.1, .int .u32 p.2]
theorem cmpM_neg (p q : Nat × Nat) : Tru.cmpM p q < 0 ↔ p.1 < q.1 ∨ (p.1 = q.1 ∧ p.2 < q.2) := by
  unfold Tru.cmpM Tru.or2 Tru.cmp1
  by_cases h1 : (p.1 : Int) < q.1
  · rw [if_pos h1, if_neg (by decide)]; omega
  · rw [if_neg h1]
    by_cases h2 : (q.1 : Int) < p.1
    · rw [if_pos h2, if_neg (by decide)]; omega
    · rw [if_neg h2, if_pos rfl]
      by_cases h3 : (p.2 : Int) < q.2
      · rw [if_pos h3]; omega
      · rw [if_neg h3]
        by_cases h4 : (q.2 : Int) < p.2
        · rw [if_pos h4]; omega
        · rw [if_neg h4]; omega
theorem swoM : SWO (ltOf Tru.cmpM) where
  irrefl x := by unfold ltOf; rw [decide_eq_false_iff_not, cmpM_neg]; omega
  trans x y z h1 h2 := by unfold ltOf at *; rw [decide_eq_true_eq, cmpM_neg] at *; omega
  ntrans x y z h1 h2 := by unfold ltOf at *; rw [decide_eq_false_iff_not, cmpM_neg] at *; omega

theorem lays38 (blk off size : Nat) (w : World) : CmpLays Tryz.prog 104 #[] encM 2 Tru.cmpM blk off size w := fun m os dk hs x y => by
  refine (less38 x y _).mono ?_
  rintro e w' ⟨he, hw⟩
  rw [alloc_eq_grow, alloc_eq_grow, alloc_eq_grow, grow_grow, grow_grow] at hw
  exact ⟨he, 1, _, hw⟩

set_option maxHeartbeats 1000000 in
theorem sort37 (blk off cap : Nat) (d : Array (Nat × Nat)) (w : World) (hH : HoldsK encM 2 w blk off d) (hblk : blk < w.heap.size) (hsz : d.size < 4611686018427387904) :
    Calls Tryz.prog 103 #[.slice (some ⟨blk, off, none⟩) d.size cap, .func (.func 104) #[] #[]] w fun e w' => e = .returned (.tuple #[]) ∧ ∃ d' n os, (d'.size = d.size ∧ ∀ p, p ∈ d' ↔ p ∈ d) ∧ w' = sortWorldK encM 2 w blk off n d' os := by
  have eg : ∀ args w, (callFunc 104 args).run Tryz.prog w = .ok (.enter 104 args) w := enters_of Tryz.func104 (by kernel_rfl) rfl
  have hcon := AnyQ.slices_SortFunc Tryz.sortL 2 (fun w => by kernel_rfl) (fun w => by kernel_rfl) encM (fun _ => rfl) (fun x v hv => by simp [encM] at hv; rcases hv with rfl | rfl <;> rfl) Tru.cmpM swoM 104 #[] blk off cap d w eg (lays38 blk off d.size w) hH hblk hsz
  refine Calls.mono hcon ?_
  rintro e w' ⟨he, d', n, os, hp, _, hw⟩
  refine ⟨he, d', n, os, ⟨hp.1, fun p => ?_⟩, hw⟩
  have h1 := hp.2.2
  have e1 : d'.extract 0 d.size = d' := by rw [← hp.1]; simp
  have e2 : d.extract 0 d.size = d := by simp
  rw [e1, e2] at h1
  rw [← Array.mem_toList_iff, ← Array.mem_toList_iff]
  exact h1.mem_iff
end Go.Proofs.YthpebfojkpnojaaGreat.Tr

/- The table's masks, each once: the library's Compact walked over a row of two cells an element. -/
namespace Go.Proofs.YthpebfojkpnojaaGreat.Tr
open Go.RowKit Go.Lib Go.Sort Go.Shelf
set_option linter.unusedVariables false

theorem mem_compactUpTo (d : Array (Nat × Nat)) : ∀ m p, p ∈ compactUpTo d m ↔ ∃ j, j < m ∧ d[j]! = p := by
  intro m
  induction m with
  | zero => intro p; simp [compactUpTo]
  | succ m ih =>
    intro p
    rw [compactUpTo_succ, List.mem_append, ih]
    by_cases hk : keeps d m = true
    · rw [if_pos hk, List.mem_singleton]
      constructor
      · rintro (⟨j, h1, h2⟩ | rfl)
        · exact ⟨j, by omega, h2⟩
        · exact ⟨m, by omega, rfl⟩
      · rintro ⟨j, h1, h2⟩
        by_cases hj : j = m
        · subst hj; exact .inr h2.symm
        · exact .inl ⟨j, by omega, h2⟩
    · rw [if_neg hk]
      have hk' : ¬ (m = 0 ∨ d[m]! ≠ d[m - 1]!) := by simpa [keeps] using hk
      constructor
      · rintro (⟨j, h1, h2⟩ | h)
        · exact ⟨j, by omega, h2⟩
        · cases h
      · rintro ⟨j, h1, h2⟩
        by_cases hj : j = m
        · subst hj
          exact .inl ⟨j - 1, by omega, by rw [← h2]; exact (Decidable.not_not.1 (fun h => hk' (.inr h))).symm⟩
        · exact .inl ⟨j, by omega, h2⟩
theorem mem_compactAll (d : Array (Nat × Nat)) (p : Nat × Nat) : p ∈ compactUpTo d d.size ↔ p ∈ d := by
  rw [mem_compactUpTo, Array.mem_iff_getElem]
  constructor
  · rintro ⟨j, h1, h2⟩; exact ⟨j, h1, by rw [← h2, getElem!_pos d j h1]⟩
  · rintro ⟨j, h1, h2⟩; exact ⟨j, h1, by rw [← h2, getElem!_pos d j h1]⟩

theorem eq56 (a b c d : Int) (w : World) : (Op.equalIn 10000 122 (.agg #[.int .u32 a, .int .u32 b]) (.agg #[.int .u32 c, .int .u32 d])).run Tryz.prog w = .ok (a == c && b == d) w := by
  have u3 := Tryz.underlying120
  have a3 := Tryz.isAgg120
  have z3 := Tryz.sizeOf120
  rw [show (10000 : Nat) = 9999 + 1 from rfl, Op.equalIn]
  simp only [Sem.run_bind, run_underlying Tryz.underlying122, Result.andThen_ok]
  simp only [Std.Legacy.Range.forIn_eq_forIn_range', Std.Legacy.Range.size, Nat.sub_zero, Nat.add_sub_cancel, Nat.div_one, List.range'_succ, List.range'_zero, List.forIn_cons, List.forIn_nil]
  go_simp
  by_cases h1 : a = c <;> by_cases h2 : b = d <;> simp [h1, h2]

theorem clear60 (w : World) (ty : TypeId) (b o n c : Nat) (hn : 0 < n) (hc : ∀ j, j < n * 2 → (w.cell? ⟨b, o + j, none⟩).isSome = true) (hf : ∀ j, j < n * 2 → w.frozen? ⟨b, o + j, none⟩ = false) :
    (Builtin.clear_ #[147] ty #[.slice (some ⟨b, o, none⟩) n c]).run Tryz.prog w = .ok (.tuple #[]) (w.setCells b o (List.replicate (n * 2) (.int .u32 0))) := by
  have hv : ∀ w, (zeroValue 122).run Tryz.prog w = .ok (.agg #[.int .u32 0, .int .u32 0]) w := fun w => by kernel_rfl
  have hzc : (Builtin.zeroCells (Value.agg #[.int .u32 0, .int .u32 0]).cells n).toList = List.replicate (n * 2) (.int .u32 0) := by
    apply List.ext_getElem
    · simp [Builtin.zeroCells, Value.cells]
    · intro i h1 h2
      have : i % 2 = 0 ∨ i % 2 = 1 := by omega
      rcases this with h | h <;> simp [Builtin.zeroCells, Value.cells, h]
  have hst := run_storeCells_cells (P := Tryz.prog) b o (List.replicate (n * 2) (.int .u32 0)) 0 w (by simpa using hc) (by simpa using hf) (by intro v hv'; rw [List.eq_of_mem_replicate hv']; rfl)
  simp only [Nat.add_zero] at hst
  obtain ⟨m, rfl⟩ : ∃ m, n = m + 1 := ⟨n - 1, by omega⟩
  simp [Builtin.clear_, run_underlying Tryz.underlying147, hv, hzc, hst]

theorem rowM {w : World} {blk off : Nat} {d : Array (Nat × Nat)} (h : HoldsK encM 2 w blk off d) (i : Nat) (hi : i < d.size) :
    w.cell? ⟨blk, off + i * 2, none⟩ = some (.int .u32 d[i]!.1) ∧ w.cell? ⟨blk, off + i * 2 + 1, none⟩ = some (.int .u32 d[i]!.2) ∧ w.frozen? ⟨blk, off + i * 2, none⟩ = false ∧ w.frozen? ⟨blk, off + i * 2 + 1, none⟩ = false :=
  ⟨(h.cell (c := 0) hi (by decide)).1, (h.cell (c := 1) hi (by decide)).1, (h.cell (c := 0) hi (by decide)).2, (h.cell (c := 1) hi (by decide)).2⟩

theorem flat_set (d : Array (Nat × Nat)) (i : Nat) (x : Nat × Nat) (hi : i < d.size) : setMany (flatK encM 2 d) (i * 2) (encM x) = flatK encM 2 (d.setIfInBounds i x) := by
  apply ext_get! (by simp)
  intro t ht
  have ht' : t < d.size * 2 := by simpa using ht
  rw [get_setMany _ _ _ t (by simpa using ht'), get_flatK _ _ _ t ht', get_flatK _ _ _ t (by simpa using ht')]
  by_cases c : t / 2 = i
  · rw [if_pos (by simp [encM]; omega), c, getElem!_set_same d i x hi]
    congr 1; omega
  · rw [if_neg (by simp [encM]; omega), getElem!_set_other d i (t / 2) x c]

/-- What Compact leaves: the same masks, at the head of the same row. -/
def CompactOut (d : Array (Nat × Nat)) (w : World) (blk off cap : Nat) (e : Ending) (w' : World) : Prop :=
  ∃ (ms : List (Nat × Nat)) (q : Nat) (F : Array Value), e = .returned (.slice (some ⟨blk, off, none⟩) ms.length cap) ∧ (∀ p, p ∈ ms ↔ p ∈ d) ∧ ms.length ≤ d.size ∧ F.size = d.size * 2 ∧ w' = putRow id (Sort.ahead w q) blk off F ∧ HoldsK encM 2 w' blk off ms.toArray
theorem CompactOut.same {d : Array (Nat × Nat)} {w : World} {blk off cap : Nat} (h : HoldsK encM 2 w blk off d) (q : Nat) : CompactOut d w blk off cap (.returned (.slice (some ⟨blk, off, none⟩) d.size cap)) (w.drewN q) :=
  ⟨d.toList, q, flatK encM 2 d, by simp, by simp, by simp, by simp, (putRowK_self encM 2 (Sort.ahead w q) blk off d (holdsK_ahead encM 2 w q blk off d h)).symm, show HoldsK encM 2 (Sort.ahead w q) blk off d.toList.toArray from by simpa using holdsK_ahead encM 2 w q blk off d h⟩

theorem CompactOut.done {d dk : Array (Nat × Nat)} {w wr : World} {blk off cap kk q2 : Nat} (h : HoldsK encM 2 w blk off d) (hI : CompInv d d.size kk dk) (hwr : wr = putRowK encM 2 (Sort.ahead w q2) blk off dk) :
    CompactOut d w blk off cap (.returned (.slice (some ⟨blk, off, none⟩) kk cap)) (wr.setCells blk (off + kk * 2) (List.replicate ((d.size - kk) * 2) (.int .u32 0))) := by
  have hlt := hI.lt
  have hs := hI.size
  have hw : wr.setCells blk (off + kk * 2) (List.replicate ((d.size - kk) * 2) (.int .u32 0)) = putRow id (Sort.ahead w q2) blk off (setMany (flatK encM 2 dk) (kk * 2) (List.replicate ((d.size - kk) * 2) (.int .u32 0))) := by
    rw [hwr, putRowK, setCells_putRow _ _ _ _ _ _ (by simp; omega)]
  refine ⟨compactUpTo d d.size, q2, _, by rw [hI.len], mem_compactAll d, by rw [hI.len]; omega, by simp [hs], hw, ?_⟩
  have hF := holds_putRow id (Sort.ahead w q2) blk off (flatK encM 2 d) (setMany (flatK encM 2 dk) (kk * 2) (List.replicate ((d.size - kk) * 2) (.int .u32 0))) (holdsK_ahead encM 2 w q2 blk off d h) (by simp [hs])
  rw [← hw] at hF
  intro t ht
  have ht' : t < kk * 2 := by simpa [hI.len] using ht
  have h1 := hF t (by simp; omega)
  rw [get_setMany _ _ _ t (by simp; omega), if_neg (by omega), get_flatK _ _ _ t (by omega)] at h1
  rw [get_flatK _ _ _ t (by simpa using ht)]
  have h2 := hI.low (t / 2) (by omega)
  have h3 : (compactUpTo d d.size).toArray[t / 2]! = dk[t / 2]! := by
    rw [Array.getElem!_eq_getD, Array.getD_eq_getD_getElem?, List.getElem?_toArray, h2]; rfl
  rw [h3]
  exact h1

theorem store_worldM {w wr : World} {n blk off : Nat} {dk : Array (Nat × Nat)} {i : Nat} (hi : i < dk.size) (hwr : wr = putRowK encM 2 (Sort.ahead w n) blk off dk) (x : Nat × Nat) :
    ((wr.drew.setCell ⟨blk, off + i * 2, none⟩ (.int .u32 x.1)).setCell ⟨blk, off + i * 2 + 1, none⟩ (.int .u32 x.2)) = putRowK encM 2 (Sort.ahead w (n + 1)) blk off (dk.setIfInBounds i x) := by
  subst hwr
  have h1 : (putRowK encM 2 (Sort.ahead w n) blk off dk).drew = putRowK encM 2 (Sort.ahead w (n + 1)) blk off dk := putRowK_drewN encM 2 w n 1 blk off dk
  rw [h1, putRowK, putRowK, ← flat_set dk i x hi, ← setCells_putRow _ _ _ _ _ _ (by simp [encM]; omega)]
  rfl

set_option maxHeartbeats 8000000 in
set_option maxRecDepth 1000000 in
theorem compact41 (blk off cap : Nat) (d : Array (Nat × Nat)) (w : World) (hH : HoldsK encM 2 w blk off d) (hsz : d.size ≤ 1048576) (hcap : d.size ≤ cap) :
    Calls Tryz.prog 107 #[.slice (some ⟨blk, off, none⟩) d.size cap] w fun e w' => CompactOut d w blk off cap e w' := by
  have mixed : Tryz.prog.follows .mixedOrders = true := by kernel_rfl
  have E56 := eq56
  have HH : Aside (HoldsK encM 2 w blk off d) := hH
  by_cases h2 : d.size < 2
  · clear hH
    go_enter Tryz.func107, Tryz.ntmps107
    go_wp2
    go_ret
    exact CompactOut.same HH.out 0
  · go_enter Tryz.func107, Tryz.ntmps107
    go_wp2
    go_loopg [3] d.size (fun g s3 wr => ∃ k q : Nat, 1 ≤ k ∧ k ≤ d.size ∧ d.size - k ≤ g ∧ s3 = .int .i64 k ∧ wr = w.drewN q ∧ ∀ j, j < k → keeps d j = true)
    case atStart => exact ⟨1, 0, Nat.le_refl _, by omega, by omega, rfl, rfl, keeps_lt_one d⟩
    case round =>
      obtain ⟨k, q, hk1, hk, hg, rfl, rfl, hall⟩ := hrel
      by_cases hlt : k < d.size
      · obtain ⟨a0, a1, _, _⟩ := rowM hH k hlt
        obtain ⟨b0, b1, _, _⟩ := rowM hH (k - 1) (by omega)
        have A : Aside (∀ j, j < k → keeps d j = true) := hall
        clear hall hH
        generalize hx : d[k]! = x at a0 a1
        generalize hy : d[k - 1]! = y at b0 b1
        have B : Aside (d[k]! = x ∧ d[k - 1]! = y) := ⟨hx, hy⟩
        clear hx hy
        obtain ⟨x0, x1⟩ := x
        obtain ⟨y0, y1⟩ := y
        simp only at a0 a1 b0 b1
        by_cases hdup : x0 = y0 ∧ x1 = y1
        · obtain ⟨rfl, rfl⟩ := hdup
          go_wp2_with fail
          go_region_o
          go_wp2
          clear a0 a1 b0 b1
          go_loopg [3, 5] d.size (fun g s3 s5 wr => ∃ (kk k2 q2 : Nat) (dk : Array (Nat × Nat)), s3 = .int .i64 kk ∧ s5 = .int .i64 k2 ∧ 1 ≤ k2 ∧ k + k2 ≤ d.size ∧ d.size - (k + k2) ≤ g ∧ wr = putRowK encM 2 (Sort.ahead w q2) blk off dk ∧ CompInv d (k + k2) kk dk)
          case atStart => exact ⟨k, 1, q + 1, d, rfl, rfl, Nat.le_refl _, by omega, by omega, (putRowK_self encM 2 (Sort.ahead w (q + 1)) blk off d (holdsK_ahead encM 2 w (q + 1) blk off d HH.out)).symm, CompInv.start A.out (keeps_neg (by omega) (by rw [B.out.1, B.out.2]))⟩
          case round =>
            obtain ⟨kk, k2, q2, dk, rfl, rfl, h1, hle, hg2, hwr, hI⟩ := hrel
            have hkk := hI.lt
            have hds := hI.size
            have hHk : HoldsK encM 2 wr blk off dk := by rw [hwr]; exact holdsK_putRowK encM 2 _ blk off d dk (holdsK_ahead encM 2 w q2 blk off d HH.out) hds
            have W2 : Aside (wr = putRowK encM 2 (Sort.ahead w q2) blk off dk) := hwr
            have I2 : Aside (CompInv d (k + k2) kk dk) := hI
            clear hwr
            by_cases hlt2 : k + k2 < d.size
            · obtain ⟨m0, m1, _, _⟩ := rowM hHk (k + k2) (by omega)
              obtain ⟨p0, p1, _, _⟩ := rowM hHk (k + k2 - 1) (by omega)
              obtain ⟨c0, c1, f0, f1⟩ := rowM hHk kk (by omega)
              rw [hI.high (k + k2) (by omega), show off + (k + k2) * 2 = off + k * 2 + k2 * 2 by omega] at m0 m1
              rw [hI.high (k + k2 - 1) (by omega), show off + (k + k2 - 1) * 2 = off + k * 2 + (k2 - 1) * 2 by omega] at p0 p1
              clear hHk hI
              generalize hu : d[k + k2]! = u at m0 m1
              generalize hv : d[k + k2 - 1]! = v at p0 p1
              generalize dk[kk]! = old at c0 c1
              have C : Aside (d[k + k2]! = u ∧ d[k + k2 - 1]! = v) := ⟨hu, hv⟩
              clear hu hv
              obtain ⟨u0, u1⟩ := u
              obtain ⟨v0, v1⟩ := v
              obtain ⟨o0, o1⟩ := old
              simp only at m0 m1 p0 p1 c0 c1
              by_cases huv : u0 = v0 ∧ u1 = v1
              · obtain ⟨rfl, rfl⟩ := huv
                go_wp2_with fail
                go_region_o
                go_wp2
                go_roundg (d.size - (k + (k2 + 1)))
                case measure => omega
                case rel => exact ⟨kk, k2 + 1, q2 + 1, dk, rfl, by go_num, by omega, by omega, Nat.le_refl _, by rw [W2.out]; exact putRowK_drewN encM 2 w q2 1 blk off dk, I2.out.skip (keeps_neg (by omega) (by rw [C.out.1, C.out.2]))⟩
              · have hb : ((u0 : Int) == v0 && (u1 : Int) == v1) = false := by
                  cases h : ((u0 : Int) == v0 && (u1 : Int) == v1)
                  · rfl
                  · simp at h; exact absurd ⟨by omega, by omega⟩ huv
                go_wp2_with fail
                go_region_o
                go_wp2
                go_roundg (d.size - (k + (k2 + 1)))
                case measure => omega
                case rel => exact ⟨kk + 1, k2 + 1, q2 + 1, dk.setIfInBounds kk (u0, u1), by go_num, by go_num, by omega, by omega, Nat.le_refl _, store_worldM (by omega) W2.out (u0, u1), by have := I2.out.keep hlt2 (keeps_pos (by rw [C.out.1, C.out.2]; intro h; exact huv (by simpa using h))); rwa [C.out.1] at this⟩
            · have hend : k + k2 = d.size := by omega
              have hcl : ∀ ty, (Builtin.clear_ #[147] ty #[.slice (some ⟨blk, off + kk * 2, none⟩) (d.size - kk) (cap - kk)]).run Tryz.prog wr = .ok (.tuple #[]) (wr.setCells blk (off + kk * 2) (List.replicate ((d.size - kk) * 2) (.int .u32 0))) := fun ty =>
                clear60 wr ty blk (off + kk * 2) _ _ (by omega) (fun j hj => by have := hHk (kk * 2 + j) (by simp; omega); rw [show off + kk * 2 + j = off + (kk * 2 + j) by omega, this.1]; rfl) (fun j hj => by have := hHk (kk * 2 + j) (by simp; omega); rw [show off + kk * 2 + j = off + (kk * 2 + j) by omega]; exact this.2)
              clear hHk hI
              go_wp2
              go_ret
              have hI := I2.out
              rw [hend] at hI
              exact CompactOut.done HH.out hI W2.out
        · have hb : ((x0 : Int) == y0 && (x1 : Int) == y1) = false := by
            cases h : ((x0 : Int) == y0 && (x1 : Int) == y1)
            · rfl
            · simp at h; exact absurd ⟨by omega, by omega⟩ hdup
          go_wp2_with fail
          go_region_o
          go_wp2
          go_roundg (d.size - (k + 1))
          case measure => omega
          case rel =>
            refine ⟨k + 1, q + 1, by omega, by omega, Nat.le_refl _, by go_num, rfl, fun j hj => ?_⟩
            by_cases e : j = k
            · subst e
              exact keeps_pos (by rw [B.out.1, B.out.2]; intro h; exact hdup (by simpa using h))
            · exact A.out j (by omega)
      · have : k = d.size := by omega
        clear hH
        go_wp2
        go_ret
        exact CompactOut.same HH.out q
end Go.Proofs.YthpebfojkpnojaaGreat.Tr

/- The masks sorted, then each once: as one row, in the words of the table. -/
namespace Go.Proofs.YthpebfojkpnojaaGreat.Tr
open Go.RowKit Go.Lib Go.Sort Go.Shelf
set_option linter.unusedVariables false

theorem below_grown {B : Nat} {w0 w : World} (h : Below B w0 w) (hB : B ≤ w.heap.size) (os : Array Obj) : Below B w0 (grow w os) :=
  h.trans ⟨rfl, rfl, rfl, by simp, fun k hk => heap_grow_old w os (by omega)⟩
theorem below_row {B : Nat} {w0 w : World} (h : Below B w0 w) {blk : Nat} (hB : B ≤ blk) (q off : Nat) (F : Array Value) : Below B w0 (putRow id (Sort.ahead w q) blk off F) :=
  h.trans ⟨rfl, rfl, rfl, by simp [putRow, mapBlock, Sort.ahead], fun k hk => by
    simp only [putRow, mapBlock, Sort.ahead, Array.getElem?_modify]
    rw [if_neg (by omega)]⟩

/-- The cells of masks, one behind the other. -/
def flatM (ms : List (Nat × Nat)) : List Value := ms.flatMap encM
theorem flatM_len (ms : List (Nat × Nat)) : (flatM ms).length = ms.length * 2 := by
  induction ms with
  | nil => rfl
  | cons p ms ih => rw [flatM, List.flatMap_cons, List.length_append, ← flatM, ih]; simp [encM]; omega
theorem flatM_at (ms : List (Nat × Nat)) : ∀ t, t < ms.length * 2 → (flatM ms)[t]? = some (encM ms.toArray[t / 2]!)[t % 2]! := by
  induction ms with
  | nil => intro t h; simp at h
  | cons p ms ih =>
    intro t h
    rw [flatM, List.flatMap_cons, ← flatM]
    by_cases h2 : t < 2
    · rw [List.getElem?_append_left (by simpa [encM] using h2)]
      have : t = 0 ∨ t = 1 := by omega
      rcases this with rfl | rfl <;> simp [encM]
    · rw [List.getElem?_append_right (by simp [encM]; omega)]
      have := ih (t - 2) (by simp at h; omega)
      have e1 : t / 2 = (t - 2) / 2 + 1 := by omega
      have e2 : t % 2 = (t - 2) % 2 := by omega
      rw [show (encM p).length = 2 from rfl, this, e1, e2]
      simp
theorem own_masks {base : Nat} {W : World} {g cap n : Nat} {ms : List (Nat × Nat)} (hn : ms.length = n) (h : W.ownsRow base 122 2 (.slice (some ⟨g, 0, none⟩) n cap) n (flatM ms)) : HoldsK encM 2 W g 0 ms.toArray ∧ g < W.heap.size ∧ base ≤ g ∧ n ≤ cap := by
  rcases h.2 with ⟨e, h0⟩ | ⟨g', cap', cur, e, h1, h2, h3, h4, h5, h6⟩
  · cases e
  · injection e with e1 e2 e3
    injection e1 with e1
    injection e1 with e1
    subst e1 e3
    refine ⟨fun t ht => ?_, (Array.getElem?_eq_some_iff.1 h2).1, h1, h3⟩
    have ht' : t < ms.length * 2 := by simpa using ht
    rw [get_flatK _ _ _ t (by simpa using ht'), Nat.zero_add]
    refine ⟨?_, row_frozen h2 t⟩
    rw [row_cell h2 t, ← Array.getElem?_toList]
    have : (List.take (n * 2) cur.toList)[t]? = (flatM ms)[t]? := by rw [h6]
    rw [List.getElem?_take_of_lt (by omega), flatM_at ms t ht'] at this
    exact this

/-- What the sort leaves. -/
def SortedM (base g : Nat) (ms : List (Nat × Nat)) (w w' : World) : Prop := ∃ d' : Array (Nat × Nat), d'.size = ms.length ∧ (∀ p, p ∈ d' ↔ p ∈ ms) ∧ HoldsK encM 2 w' g 0 d' ∧ g < w'.heap.size ∧ Below base w w'
theorem sortM (base g cap n : Nat) (ms : List (Nat × Nat)) (w : World) (hn : ms.length = n) (hN : n ≤ 1048576) (hb : base ≤ w.heap.size) (h : w.ownsRow base 122 2 (.slice (some ⟨g, 0, none⟩) n cap) n (flatM ms)) :
    Calls Tryz.prog 103 #[.slice (some ⟨g, 0, none⟩) n cap, .func (.func 104) #[] #[]] w fun e w' => e = .returned (.tuple #[]) ∧ SortedM base g ms w w' := by
  obtain ⟨hH, hlt, hbg, hcap⟩ := own_masks hn h
  have hc := sort37 g 0 cap ms.toArray w hH hlt (by simp; omega)
  rw [show ms.toArray.size = n by simpa using hn] at hc
  refine hc.mono ?_
  rintro e w' ⟨he, d', m, os, ⟨h1, h2⟩, rfl⟩
  refine ⟨he, d', by rw [h1, hn], fun p => by rw [h2]; simp, ?_, ?_, ?_⟩
  · exact holdsK_grow encM 2 _ os g 0 d' (by simpa [putRowK, putRow, mapBlock, Sort.ahead] using hlt) (holdsK_putRowK encM 2 _ g 0 ms.toArray d' (holdsK_ahead encM 2 w m g 0 _ hH) (by rw [h1]; simpa using hn.symm))
  · simp [sortWorldK, putRowK, putRow, mapBlock, Sort.ahead, grow]; omega
  · exact below_grown (below_row (Below.refl _ _) hbg m 0 _) (by simpa [putRow, mapBlock, Sort.ahead] using hb) os
/-- What is left of them, each once. -/
def OnceM (base g cap : Nat) (ms : List (Nat × Nat)) (w : World) (e : Ending) (w' : World) : Prop := ∃ ns : List (Nat × Nat), e = .returned (.slice (some ⟨g, 0, none⟩) ns.length cap) ∧ (∀ p, p ∈ ns ↔ p ∈ ms) ∧ ns.length ≤ ms.length ∧ HoldsK encM 2 w' g 0 ns.toArray ∧ g < w'.heap.size ∧ Below base w w'
theorem onceM (base g cap n : Nat) (ms : List (Nat × Nat)) (w0 w : World) (hn : ms.length = n) (hN : n ≤ 1048576) (hcap : n ≤ cap) (hbg : base ≤ g) (h : SortedM base g ms w0 w) :
    Calls Tryz.prog 107 #[.slice (some ⟨g, 0, none⟩) n cap] w fun e w' => OnceM base g cap ms w0 e w' := by
  obtain ⟨d', h1, h2, h3, h4, h5⟩ := h
  have hc := compact41 g 0 cap d' w h3 (by omega) (by omega)
  rw [h1, hn] at hc
  refine hc.mono ?_
  rintro e w' ⟨ns, q, F, he, k1, k2, k3, k4, k5⟩
  refine ⟨ns, he, fun p => by rw [k1, h2], by omega, k5, ?_, ?_⟩
  · rw [k4]; simpa [putRow, mapBlock, Sort.ahead] using h4
  · rw [k4]; exact below_row h5 hbg q 0 F
end Go.Proofs.YthpebfojkpnojaaGreat.Tr

