/- Pick, SameClause; rows that grow by a part of another. -/
import Derived.Test.YtblogmelmpkfhaaWrk
namespace Go.Proofs.Ytblogmelmpkfhaa
open Go.RowKit Go.Maps
set_option linter.unusedVariables false

/-- What Pick tells. -/
def PickOut (n : Nat) (e : Ending) : Prop := ∃ t : Nat, t < n ∧ e = .returned (.int .i64 t)
set_option maxHeartbeats 2000000 in
theorem pick27 (i : Int) (n : Nat) (w : World) (hn : 0 < n) (hn2 : n ≤ 1000) (hi : I64 i) :
    Calls Try.prog 27 #[.int .i64 i, .int .i64 n] w fun e w' => PickOut n e ∧ w' = w := by
  have h1 := hi.1
  have h2 := hi.2
  have hn0 : ¬ (n : Int) ≤ 0 := by omega
  have hnz : ((n : Int) == 0) = false := by simp; omega
  have hnz' : ¬ (n : Int) = 0 := by omega
  obtain ⟨r, hr⟩ : ∃ r, i.tmod (n : Int) = r := ⟨_, rfl⟩
  have hr1 : -(n : Int) < r := by have h := Int.natAbs_tmod i (n : Int); rw [hr] at h; have := Nat.mod_lt i.natAbs (show 0 < (n : Int).natAbs by omega); omega
  have hr2 : r < n := by rw [← hr]; exact Int.tmod_lt_of_pos i (by omega)
  obtain ⟨t, ht⟩ : ∃ t : Nat, (r + n).tmod (n : Int) = (t : Int) := ⟨((r + n).tmod (n : Int)).toNat, by have := Int.tmod_nonneg (b := (n : Int)) (show 0 ≤ r + n by omega); omega⟩
  have htn : t < n := by have := Int.tmod_lt_of_pos (r + n) (b := (n : Int)) (by omega); omega
  clear hi
  go_enter Try.func27, Try.ntmps27
  go_wp2
  go_ret
  exact ⟨⟨t, htn, rfl⟩, rfl⟩
set_option maxRecDepth 100000 in
set_option maxHeartbeats 2000000 in
theorem same28 (a b : Option Addr) (n c1 c2 : Nat) (xs : List Int) (w : World) (hn : xs.length = n) (hN : n ≤ 35184372088832) (hA : Lits w a xs) (hB : Lits w b xs) :
    Calls Try.prog 28 #[.slice a n c1, .slice b n c2] w fun e w' => e = .returned (.bool true) ∧ Below w.heap.size w w' := by
  have HA := hid hA
  have HB := hid hB
  have HN := hid hn
  have hsa : n = 0 ∨ ∃ b off, a = some ⟨b, off, none⟩ := by rw [← hn]; exact hA.shape
  have hsb : n = 0 ∨ ∃ b' off, b = some ⟨b', off, none⟩ := by rw [← hn]; exact hB.shape
  clear hA hB hn
  rcases hsa with h0 | ⟨ba, oa, rfl⟩
  · subst h0
    clear hsb
    go_enter Try.func28, Try.ntmps28
    go_wp2
    go_loopw [5] (fun i wr => i = .int .i64 0 ∧ wr = w) (fun _ _ => 0)
    case atStart => exact ⟨rfl, rfl⟩
    case round =>
      obtain ⟨rfl, hw⟩ := hrel
      rw [hw]
      clear hw
      go_wp2
      go_ret
      exact ⟨rfl, Below.refl _ _⟩
  · rcases hsb with h0 | ⟨bb, ob, rfl⟩
    · subst h0
      go_enter Try.func28, Try.ntmps28
      go_wp2
      go_loopw [5] (fun i wr => i = .int .i64 0 ∧ wr = w) (fun _ _ => 0)
      case atStart => exact ⟨rfl, rfl⟩
      case round =>
        obtain ⟨rfl, hw⟩ := hrel
        rw [hw]
        clear hw
        go_wp2
        go_ret
        exact ⟨rfl, Below.refl _ _⟩
    · go_enter Try.func28, Try.ntmps28
      go_wp2
      go_loopw [5] (fun i wr => ∃ k : Nat, k ≤ n ∧ i = .int .i64 k ∧ Hid (Below w.heap.size w wr)) (fun i _ => n - (intOf i).toNat)
      case atStart => exact ⟨0, Nat.zero_le _, rfl, hid (Below.refl _ _)⟩
      case round =>
        obtain ⟨k, hk, rfl, HW⟩ := hrel
        by_cases hlt : k < n
        · have hlt' : (k : Int) < n := by omega
          obtain ⟨b1, o1, e1, _, hc1, _⟩ := (HA.out.below HW.out).at (j := k) (by rw [HN.out]; exact hlt)
          cases e1
          obtain ⟨b2, o2, e2, _, hc2, _⟩ := (HB.out.below HW.out).at (j := k) (by rw [HN.out]; exact hlt)
          cases e2
          generalize xs.getD k 0 = xv at *
          go_wp2
          go_region
          go_wp2
          go_roundw
          case rel => exact ⟨k + 1, by omega, by go_num, hid HW.out.drew⟩
          case measure => simp [intOf]; omega
        · have hge : ¬ (k : Int) < n := by omega
          go_wp2
          go_ret
          exact ⟨rfl, HW.out⟩
/-- Memory of one type. -/
def pT (e : TypeId) : Obj → Prop
  | .cells _ t _ => t = e
  | _ => False
theorem info3 : (Try.prog.info? 3).map (fun i => (i.zero, i.size, i.bytes)) = some (some (.int .i64 0), 1, 8) := by kernel_rfl
/-- A row of numbers that grows by a part of another. -/
theorem app {e t : TypeId} (ht : Try.prog.underlying t = some (.slice e)) (hi : (Try.prog.info? e).map (fun i => (i.zero, i.size, i.bytes)) = some (some (.int .i64 0), 1, 8)) {W : World} {base : Nat} {v : Value} {k : Nat} {xs : List Int} (ho : W.ownsRow base e 1 v k (xs.map (Value.int .i64)))
    (g off m c : Nat) (ys : List Int) (hys : ys.length = m) (hc : ∀ j, j < m → W.cell? ⟨g, off + j, none⟩ = some (.int .i64 (ys.getD j 0))) (hb : base ≤ W.heap.size) (hk : k + m ≤ 1000000) :
    ∃ o' c' W', (Builtin.append_ #[t, t] t #[v, .slice (some ⟨g, off, none⟩) m c]).run Try.prog W = .ok (.slice o' (k + m) c') W' ∧ W'.ownsRow base e 1 (.slice o' (k + m) c') (k + m) ((xs ++ ys).map (Value.int .i64)) ∧ W.grownBy W' v.ownBlock ∧ Fr (pT e) base W W' := by
  obtain ⟨i0, hi0, hz⟩ := Option.map_eq_some_iff.1 hi
  simp only [Prod.mk.injEq] at hz
  obtain ⟨v', W', hr, h2, h3, _, h5⟩ := run_append_own_at (P := Try.prog) W base t t e i0 (.int .i64 0) 1 8 ht hi0 hz.1 hz.2.1 hz.2.2 rfl (by decide) v k _ ho ⟨g, off, none⟩ m c (ys.map (Value.int .i64)) (by simp [hys]) (fun j u hu => by
    have hj : j < m := by
      rcases Nat.lt_or_ge j m with h' | h'
      · exact h'
      · rw [List.getElem?_eq_none (by simp [hys]; omega)] at hu; cases hu
    rw [show (⟨g, off, none⟩ : Addr).add j = ⟨g, off + j, none⟩ from Go.WideShapes.add_plain _ _ _, hc j hj]
    rw [List.getElem?_map, List.getElem?_eq_getElem (by omega)] at hu
    rw [List.getD, List.getElem?_eq_getElem (by omega)]
    exact hu) (by intro u hu; obtain ⟨y, _, rfl⟩ := List.mem_map.1 hu; rfl) (by unfold maxLen; omega) (by omega) hb
  obtain ⟨o', c', rfl⟩ := own_slc h2
  refine ⟨o', c', W', hr, by rw [List.map_append]; exact h2, h3, Fr.grown h3 (fun q hq => ?_)⟩
  obtain ⟨hq1, cur, hq2⟩ := own_blk ho hq
  exact ⟨hq1, fun o ho => by rw [hq2] at ho; cases ho; rfl⟩
theorem pT_pA {e : TypeId} (h1 : e ≠ 69) (h2 : e ≠ 84) : ∀ o, pT e o → ¬ pA o := by
  intro o h
  cases o <;> simp_all [pT, pA]
theorem pA_not {e : TypeId} (h1 : e ≠ 69) (h2 : e ≠ 84) : ∀ cs fr, ¬ pA (.cells cs e fr) := by
  intro cs fr h
  rcases h with h | h
  · exact h1 h
  · exact h2 h
theorem pT_not {e t : TypeId} (h : t ≠ e) : ∀ cs fr, ¬ pT e (.cells cs t fr) := fun cs fr k => h k
end Go.Proofs.Ytblogmelmpkfhaa
