/- Where the clauses begin that live. -/
import Derived.Test.YtblogmelmpkfhaaTrn
import Derived.Test.YtblogmelmpkfhaaShelf
import Derived.Maps.RangeWalk
import Derived.Deep.AppendLies
import Derived.Lib.SlKeysI
import Derived.OwnWalk
namespace Arn
theorem at_cons (y : It) (M : List It) (r : Int) : at? (y :: M) r = if r = 0 then some y else at? M (r - y.room) := rfl
theorem refs_cons (y : It) (M : List It) (o : Int) : refs (y :: M) o = if y.dead then refs M (o + y.room) else o :: refs M (o + y.room) := rfl
theorem refs_ge {M : List It} {o x : Int} (h : x ∈ refs M o) : o ≤ x := by
  induction M generalizing o with
  | nil => cases h
  | cons y M ih =>
    unfold refs at h
    split at h
    · have := ih h; omega
    · rcases List.mem_cons.1 h with h | h
      · omega
      · have := ih h; omega
theorem refs_mem {M : List It} (hM : Oks M) (o x : Int) : x ∈ refs M o ↔ (find M (x - o)).isSome = true := by
  induction M generalizing o with
  | nil => simp [refs, find, at?]
  | cons y M ih =>
    have hy := hM.cons.1.fits
    have ih' := ih hM.cons.2 (o + y.room)
    rw [show x - (o + y.room) = x - o - y.room by omega] at ih'
    by_cases e : x - o = 0
    · have hn : x ∉ refs M (o + y.room) := fun h => by have := refs_ge h; omega
      unfold refs
      cases hd : y.dead
      · simp [find, at?, e, hd]; exact .inl (by omega)
      · simp [find, at?, e, hd]; exact hn
    · have hf : find (y :: M) (x - o) = find M (x - o - y.room) := by unfold find; rw [at_cons, if_neg e]
      rw [hf, ← ih', refs_cons]
      split
      · exact Iff.rfl
      · rw [List.mem_cons]
        exact ⟨fun h => h.resolve_left (by omega), .inr⟩
theorem refs_sorted {M : List It} (hM : Oks M) (o : Int) : (refs M o).Pairwise (· < ·) := by
  induction M generalizing o with
  | nil => exact List.Pairwise.nil
  | cons y M ih =>
    have hy := hM.cons.1.fits
    unfold refs
    split
    · exact ih hM.cons.2 _
    · exact List.pairwise_cons.2 ⟨fun x hx => by have := refs_ge hx; omega, ih hM.cons.2 _⟩
theorem refs_len (M : List It) (o : Int) : (refs M o).length ≤ M.length := by
  induction M generalizing o with
  | nil => exact Nat.le_refl _
  | cons y M ih => unfold refs; split <;> simp only [List.length_cons] <;> have := ih (o + y.room) <;> omega
theorem len_size {M : List It} (hM : Oks M) : 4 * M.length ≤ size M := by
  induction M with
  | nil => exact Nat.le_refl _
  | cons y M ih => have := ih hM.cons.2; have := hM.cons.1.fits; simp only [List.length_cons, size]; omega
theorem sort_eq {ss L : List Int} (hn : ss.Nodup) (hm : ∀ x, x ∈ ss ↔ x ∈ L) (hL : L.Pairwise (· < ·)) : ss.mergeSort (fun x y => decide (x ≤ y)) = L := by
  have tr : ∀ a b c : Int, decide (a ≤ b) = true → decide (b ≤ c) = true → decide (a ≤ c) = true := fun a b c h1 h2 => by simp only [decide_eq_true_eq] at *; omega
  have to : ∀ a b : Int, (decide (a ≤ b) || decide (b ≤ a)) = true := fun a b => by simp only [Bool.or_eq_true, decide_eq_true_eq]; omega
  have hLn : L.Nodup := hL.imp (fun h => by omega)
  have hp : ss.Perm L := (List.perm_ext_iff_of_nodup hn hLn).2 hm
  refine List.Perm.eq_of_pairwise (le := fun a b => decide (a ≤ b) = true) (fun a b _ _ h1 h2 => ?_) (List.pairwise_mergeSort tr to ss) (hL.imp (fun h => by simp only [decide_eq_true_eq]; omega)) ((List.mergeSort_perm ss _).trans hp)
  simp only [decide_eq_true_eq] at h1 h2
  omega
/-- Those met so far. -/
structure Got (M : List It) (lf : Int → Bool) (ss : List Int) : Prop where
  nodup : ss.Nodup
  mem : ∀ x, x ∈ ss ↔ lf x = false ∧ (find M x).isSome = true
end Arn
namespace Go.Proofs.Ytblogmelmpkfhaa
open Go.RowKit Go.Maps Go.Sort Go.Shelf
set_option linter.unusedVariables false

theorem info36 : (Try.prog.info? 36).map (fun i => (i.zero, i.size, i.bytes)) = some (some (.int .i64 0), 1, 8) := by kernel_rfl
theorem below_grown {w w' : World} (h : Below w.heap.size w w') : w.grownBy w' none := ⟨h.os, h.tape, h.output, h.size, fun k hk _ => h.block k hk⟩
theorem news36 {X : World} {u : Value} : ∀ j v, [u][j]? = some v → (X.alloc (.cells #[u] 36)).cell? ((⟨X.heap.size, 0, none⟩ : Addr).add j) = some v :=
  World.news_of_block (heap_alloc_new X (.cells #[u] 36))
/-- A row of places, new. -/
def RefsOut (n : Nat) (xs : List Int) (e : Ending) (w' : World) : Prop := ∃ v, e = .returned v ∧ w'.ownsRow n 36 1 v xs.length (xs.map (Value.int .i64))
theorem invK36 (key : Value) (kl : Lit) (h : keyOf Try.prog 36 key = some kl) : ∃ x : Int, key = .int .i64 x := by
  obtain ⟨x, hx, _⟩ := Maps.keyOf_int_inv Try.underlying36 h
  exact ⟨x, hx⟩
theorem key36 {x : Int} {kl : Lit} (h : keyOf Try.prog 36 (.int .i64 x) = some kl) : kl = .int .i64 x ∧ I64 x := by
  obtain ⟨y, e, hk, hw⟩ := Maps.keyOf_int_inv Try.underlying36 h
  cases e
  refine ⟨hk, ?_⟩
  simp [Lit.wf, IntKind.min, IntKind.max, IntKind.bits, IntKind.signed] at hw
  exact hw
theorem got_start {M : List Arn.It} (hM : Arn.Oks M) {D : DataW Value} (hD : ∀ id, I64 id → Maps.has D (.int .i64 id) = (Arn.at? M id).isSome) (hs : Arn.size M ≤ 268435456) : Arn.Got M (fun x => Maps.has D (.int .i64 x)) [] := by
  refine ⟨List.nodup_nil, fun x => ⟨(fun h => by cases h), fun ⟨h1, h2⟩ => ?_⟩⟩
  obtain ⟨y, hy⟩ := Option.isSome_iff_exists.1 h2
  obtain ⟨ha, _⟩ := Arn.find_some.1 hy
  have := Arn.at_lt hM ha
  rw [hD x ⟨by omega, by omega⟩, ha] at h1
  cases h1
theorem sameKey_int (a b : Int) : (Lit.int .i64 a).sameKey (.int .i64 b) = decide (a = b) := by
  by_cases h : a = b
  · subst h; simp [Lit.sameKey]
  · simp [Lit.sameKey, h]
theorem got_step {M : List Arn.It} {left : Lit → Bool} {ss : List Int} {x : Int} (h : Arn.Got M (fun x => left (.int .i64 x)) ss) (hl : left (.int .i64 x) = true) :
    ((Arn.find M x).isSome = true → Arn.Got M (fun z => left (.int .i64 z) && !(Lit.int .i64 z).sameKey (.int .i64 x)) (ss ++ [x])) ∧
    ((Arn.find M x).isSome = false → Arn.Got M (fun z => left (.int .i64 z) && !(Lit.int .i64 z).sameKey (.int .i64 x)) ss) := by
  have hnew : x ∉ ss := fun hx => by have := ((h.mem x).1 hx).1; rw [hl] at this; cases this
  constructor
  · intro hf
    refine ⟨List.nodup_append.2 ⟨h.nodup, by simp, fun a ha b hb => by simp at hb; subst hb; exact fun e => hnew (e ▸ ha)⟩, fun y => ?_⟩
    rw [List.mem_append, List.mem_singleton, h.mem, sameKey_int]
    by_cases e : y = x
    · subst e; simp [hf]
    · simp [e]
  · intro hf
    refine ⟨h.nodup, fun y => ?_⟩
    rw [h.mem, sameKey_int]
    by_cases e : y = x
    · subst e; simp [hf]
    · simp [e]
theorem got_end {M : List Arn.It} (hM : Arn.Oks M) {left : Lit → Bool} {ss : List Int} (h : Arn.Got M (fun x => left (.int .i64 x)) ss) (hl : ∀ kl, left kl = false) : ss.mergeSort (fun x y => decide (x ≤ y)) = Arn.refs M 0 :=
  Arn.sort_eq h.nodup (fun x => by rw [h.mem, Arn.refs_mem hM, Int.sub_zero]; simp [hl]) (Arn.refs_sorted hM 0)

set_option maxRecDepth 100000 in
set_option maxHeartbeats 4000000 in
theorem refs25 {n ab lim bm : Nat} {v : Value} {M : List Arn.It} {W : World} (h : Ar n ab lim v bm M W) :
    Calls Try.prog 25 #[.pointer (some ⟨ab, 0, none⟩)] W fun e w' => RefsOut W.heap.size (Arn.refs M 0) e w' ∧ Below W.heap.size W w' := by
  have HA := hid h
  have c2 := row_cell h.blk 2
  obtain ⟨D, hown, hD⟩ := h.map
  have HM := hid h.ok
  have hN : Arn.size M ≤ 268435456 := Nat.le_trans h.fit h.lim
  have hG0 := hid (got_start h.ok (fun id hi => by have := (hD id hi).1; simpa using this) hN)
  have hML : M.length ≤ 67108864 := by have := Arn.len_size h.ok; omega
  have hsz : Maps.size D ≤ M.length := by
    obtain ⟨es, clock, _, F, hs, rfl⟩ := hown
    simpa [Maps.size, length_sorted] using hs
  have HSZ := hid hsz
  obtain ⟨i0, hi, hz⟩ := Option.map_eq_some_iff.1 info36
  simp only [Prod.mk.injEq] at hz
  obtain ⟨hz0, hz1, hz2⟩ := hz
  have hWm : bm < W.heap.size := hown.lt
  have HWm := hid hWm
  clear hD h hsz hWm
  go_enter Try.func25, Try.ntmps25
  go_wp2_with (first
    | (at_range; refine wpList_range_own _ rfl _ 66 rfl 36 87 klaw Try.underlying66 raw bm M.length D rfl hown ?_; intro w0 hrg0 hg0 hs0)
    | go_in)
  go_frame
  have hB0 := hid ((Below.refl W.heap.size W).grown hg0 (Nat.le_refl _) (fun q hq => by cases hq))
  go_loopw [3] (fun rv wr => ∃ (left : Lit → Bool) (cnt : Nat) (ss : List Int) (k : Nat) (o : Option Addr) (c : Nat), rv = .slice o k c ∧ Hid (ss.length = k) ∧ k + cnt ≤ M.length ∧ Hid (wr.ownsRow W.heap.size 36 1 (.slice o k c) k (ss.map (Value.int .i64))) ∧ Hid (wr.ranges Try.prog 36 raw bm W.heap.size M.length D left cnt) ∧ Hid (Arn.Got M (fun x => left (.int .i64 x)) ss) ∧ Hid (Below W.heap.size W wr)) (fun _ wr => wr.rangeLeft bm W.heap.size)
  case atStart => exact ⟨_, _, [], 0, none, 0, rfl, rfl, by have := HSZ.out; omega, hid (World.ownsRow_nil _ _ _ _), hid hrg0, hG0, hB0⟩
  case round =>
    obtain ⟨left, cnt, ss, k, o, c, rfl, HK, hkc, HO, HRG, HG, HB⟩ := hrel
    have hrg := HRG.out
    clear hown hrg0 hg0 hs0 hB0 hG0 c2
    go_wp2_with (first
      | (at_next; refine wpList_next_ranges _ rfl _ rfl 36 klaw raw (Value.int .i64) (fun v : Value => v) invK36 (fun v y _ => ⟨v, rfl⟩) bm W.heap.size M.length D left cnt rfl hrg ?_ ?_)
      | go_in)
    · intro _ hl0
      have HE := hid (got_end HM.out HG.out hl0)
      have hkm : k ≤ 67108864 := by omega
      rcases HO.out.2 with ⟨e1, h0⟩ | ⟨g, c', cur, e1, h1, h2, h3, h4, h5, h6⟩
      · cases e1
        have hss : ss = [] := List.eq_nil_of_length_eq_zero (by have := HK.out; omega)
        have C47 := hid (fun W2 => show Calls Try.prog 47 #[.slice none 0 0] W2 fun e w' => e = .returned (.tuple #[]) ∧ w' = W2 from AnyM.slices_Sort_int_none Try.sortA none 0 W2)
        have HF : Hid (RefsOut W.heap.size (Arn.refs M 0) (.returned (.slice none 0 0)) wr) := ⟨_, rfl, by rw [← HE.out, hss]; simpa using World.ownsRow_nil wr W.heap.size 36 1⟩
        clear h0 HO HK hss hrg
        go_wp2_with (go_at_call 47; refine (C47.out _).mono ?_; clear C47; rintro e w2 ⟨rfl, hw2⟩; rw [hw2]; clear hw2)
        go_ret
        exact ⟨HF.out, HB.out⟩
      · cases e1
        rw [Nat.mul_one] at h6
        have hk := HK.out
        subst hk
        have hsl : (Arn.refs M 0).length = ss.length := by rw [← HE.out]; exact List.length_mergeSort _
        have C47 := hid (show Calls Try.prog 47 #[.slice (some ⟨g, 0, none⟩) ss.length c] wr fun e w' => e = .returned (.tuple #[]) ∧ ∃ q os, w' = grow (putRow (Value.int .i64) (Sort.ahead wr q) g 0 (Arn.refs M 0).toArray) os by
          rw [← HE.out]
          exact AnyM.slices_Sort_int Try.sortA g 0 c ss wr (holds_of_block_i h2 h6) (Array.getElem?_eq_some_iff.1 h2).1 (by omega))
        have HF := hid (fun q os => show RefsOut W.heap.size (Arn.refs M 0) (.returned (.slice (some ⟨g, 0, none⟩) ss.length c)) (grow (putRow (Value.int .i64) (Sort.ahead wr q) g 0 (Arn.refs M 0).toArray) os) ∧ Below W.heap.size W (grow (putRow (Value.int .i64) (Sort.ahead wr q) g 0 (Arn.refs M 0).toArray) os) from
          ⟨⟨_, rfl, by rw [hsl]; exact ownsRow_sorted_i hsl h1 h2 h3 h4 h5⟩, HB.out.grown (grownBy_sorted_i _) HB.out.size (fun j hj => by cases hj; exact h1)⟩)
        generalize ss.length = n at *
        clear HO HB h2 h3 h4 h5 h6 hrg HK
        go_wp2_with (go_at_call 47; refine C47.out.mono ?_; clear C47; rintro e w2 ⟨rfl, q, os, hw⟩; have HW := hid (HF.out q os); rw [← hw] at HW; clear HF hw)
        go_ret
        exact HW.out
    · intro x cv kl y1 y2 w1 cnt1 hkey hlk hR hat hrg1 hlt hg1 hs1 hen
      obtain ⟨rfl, hi64⟩ := key36 hkey
      have hwB : Below W.heap.size W w1 := HB.out.grown hg1 HB.out.size (fun q hq => by cases hq; exact Nat.le_refl _)
      have HC := hid (live42 (HA.out.below hwB) x hi64)
      have HO1 := hid (HO.out.kept hg1 (by
        refine .inr (fun e => ?_)
        obtain ⟨_, cur, hq⟩ := own_blk HO.out e
        obtain ⟨es, clock, since, seen, c0, _, _, _, _, hr, _⟩ := hrg
        rw [hr] at hq
        cases hq))
      obtain ⟨hs1', hs2'⟩ := got_step HG.out hlk
      have HS1 := hid hs1'
      have HS2 := hid hs2'
      have HRG1 := hid hrg1
      have HL := hid (show w1.rangeLeft bm W.heap.size < wr.rangeLeft bm W.heap.size by rw [hrg1.left_eq, hrg.left_eq]; exact hlt)
      have HWB := hid hwB
      clear hs1' hs2' hrg1 hrg HG HO HRG HB hg1 hat hR hkey hwB hlk
      go_wp2_with (fail)
      go_at_call 42
      refine HC.out.mono ?_
      rintro e w2 ⟨rfl, hw2⟩
      have hB2 := HWB.out.trans (hw2.mono HWB.out.size)
      have HB2 := hid hB2
      have HO2 := hid (own_below HO1.out hw2)
      have HR2 := hid (HRG1.out.kept (below_grown hw2) (by simp) (by simp))
      have hs2 := hB2.size
      have HM2 := hid (show w2.rangeLeft bm W.heap.size < wr.rangeLeft bm W.heap.size by rw [HR2.out.left_eq, ← HRG1.out.left_eq]; exact HL.out)
      clear hw2 hB2 HC HO1 HRG1 HWB HL
      cases hb : (Arn.find M x).isSome
      · have HS := hid (HS2.out hb)
        go_wp2
        go_roundw
        case rel => exact ⟨_, cnt1, ss, k, o, c, rfl, HK, by omega, HO2, HR2, HS, HB2⟩
        case measure => exact HM2.out
      · have HS := hid (HS1.out hb)
        go_wp2_with (at_builtin; refine wpList_append_lies _ rfl _ _ 52 rfl W.heap.size 36 i0 (.int .i64 0) 1 8 Try.underlying52 hi hz0 hz1 hz2 rfl (by decide) (.slice o k c) k _ rfl (HO2.out.alloc _) ⟨w2.heap.size, 0, none⟩ 1 1 [.int .i64 x] rfl rfl news36 (by intro u hu; simp at hu; subst hu; rfl) (by decide) (by simp [maxLen]; omega) (by omega) (by simp; omega) (w2.heap.size + 1) (by simp) ?_)
        intro g8 cap8 w8 hown8 hgrow8 hat8 hlt8
        have hob := fun q hq => (HO2.out.lt q hq).1
        have B8 : Below W.heap.size w2 w8 := ((Below.refl _ w2).alloc hs2 _).grown hgrow8 (by simp; omega) (fun q hq => hob q hq)
        have HB8 := hid (HB2.out.trans B8)
        have HO8 := hid (show w8.ownsRow W.heap.size 36 1 (.slice (some ⟨g8, 0, none⟩) (k + 1) cap8) (k + 1) ((ss ++ [x]).map (Value.int .i64)) by rw [List.map_append]; exact hown8)
        have HR8 := hid ((HR2.out.alloc (.cells #[.int .i64 x] 36)).kept hgrow8 (by
            intro e
            have := hob _ e.symm
            have := HWm.out
            omega) (by
            intro e
            obtain ⟨_, cur, hq⟩ := own_blk HO2.out e.symm
            obtain ⟨es, clock, since, seen, c0, _, _, _, _, hr, _⟩ := HR2.out
            rw [hr] at hq
            cases hq))
        have HM8 := hid (show w8.rangeLeft bm W.heap.size < wr.rangeLeft bm W.heap.size by rw [HR8.out.left_eq, ← HR2.out.left_eq]; exact HM2.out)
        have HK8 := hid (show (ss ++ [x]).length = k + 1 by simp [HK.out])
        clear B8 hown8 hgrow8 hat8 hlt8 hob HO2 HR2 HB2
        go_wp2
        go_roundw
        case rel => exact ⟨_, cnt1, ss ++ [x], k + 1, _, _, rfl, HK8, by omega, HO8, HR8, HS, HB8⟩
        case measure => exact HM8.out
end Go.Proofs.Ytblogmelmpkfhaa
