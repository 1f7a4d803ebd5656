/- Var, in the words of the order of literals. -/
import Derived.Test.YthpebfojkpnojaaGreatJbk
import Derived.Test.YthpebfojkpnojaaGreatJbj
import Derived.WalkKit
import Derived.Deep.QuietTactic
import Derived.BigQuiet
import Derived.Lib.SlicesCompact
import Derived.Sort.Statements
import Derived.Shelf.SlSortCmp.Insertion
import Derived.Lib.OwnBridge
import Derived.Lib.SortBridge
/- Var, in the words of the order of literals. -/
namespace Go.Proofs.YthpebfojkpnojaaGreat.Cf
open Go.RowKit
set_option linter.unusedVariables false
theorem ret_bool {a b : Bool} (h : a = b) : Ending.returned (.bool a) = .returned (.bool b) := by rw [h]
theorem litAt {w : World} {a : Option Addr} {xs : List Int} (h : Lits w a xs) {k : Nat} (hk : k < xs.length) :
    ∃ b off, a = some ⟨b, off, none⟩ ∧ w.cell? ⟨b, off + k, none⟩ = some (.int .i32 (xs.getD k 0)) ∧ -2147483648 ≤ xs.getD k 0 ∧ xs.getD k 0 ≤ 2147483647 := by
  obtain ⟨b, off, e, _, hc, h1, h2⟩ := Row.at h hk
  exact ⟨b, off, e, hc, h1, h2⟩
theorem var49 (l : Int) (w : World) (h1 : -2147483648 ≤ l) (h2 : l ≤ 2147483647) :
    Calls Tryz.prog 71 #[.int .i32 l] w fun e w' => e = .returned (.int .i64 (Cnf.vr l)) ∧ w' = w := YthpebfojkpnojaaGreat.var49 l w ⟨h1, h2⟩
end Go.Proofs.YthpebfojkpnojaaGreat.Cf

/- Plain: a sorted row, its runs of equals made one, is the set in order; and what its neighbours tell. -/
namespace Cnf
open Go Go.Sort Go.Lib Go.Proofs Go.Shelf

def cf32 (x y : Int32) : Int := cmpL x.toInt y.toInt
def enc32 (x : Int32) : Value := .int .i32 x.toInt
def to32 (xs : List Int) : List Int32 := xs.map Int32.ofInt

theorem lt32 (x y : Int32) : ltOf cf32 x y = true ↔ LtL x.toInt y.toInt := by
  unfold ltOf cf32; rw [decide_eq_true_iff]; exact cmpL_neg _ _
theorem lt32f (x y : Int32) : ltOf cf32 x y = false ↔ ¬ LtL x.toInt y.toInt := by
  rw [← lt32]; simp
theorem swo32 : SWO (ltOf cf32) where
  irrefl x := by rw [lt32f]; exact LtL.irrefl _
  trans x y z h1 h2 := by rw [lt32] at *; exact h1.trans h2
  ntrans x y z h1 h2 := by rw [lt32f] at *; unfold LtL at *; omega
theorem toInt_to32 (x : Int) (h1 : -2147483648 ≤ x) (h2 : x ≤ 2147483647) : (Int32.ofInt x).toInt = x :=
  Int32.toInt_ofInt_of_le (by simpa using h1) (by simp; omega)
theorem bounds32 (x : Int32) : -2147483648 ≤ x.toInt ∧ x.toInt ≤ 2147483647 := by
  have h1 := x.le_toInt
  have h2 := x.toInt_lt
  constructor <;> omega
theorem enc_to32 (xs : List Int) (h : ∀ x ∈ xs, -2147483648 ≤ x ∧ x ≤ 2147483647) : (to32 xs).map enc32 = xs.map (Value.int .i32) := by
  unfold to32
  rw [List.map_map]
  apply List.map_congr_left
  intro x hx
  simp [enc32, toInt_to32 x (h x hx).1 (h x hx).2]
theorem back_to32 (xs : List Int) (h : ∀ x ∈ xs, -2147483648 ≤ x ∧ x ≤ 2147483647) : (to32 xs).map Int32.toInt = xs := by
  unfold to32
  rw [List.map_map]
  conv => rhs; rw [← List.map_id xs]
  apply List.map_congr_left
  intro x hx
  simp [toInt_to32 x (h x hx).1 (h x hx).2]

theorem mem_compact (d : Array Int32) : ∀ (m : Nat), m ≤ d.size → ∀ x, x ∈ compactUpTo d m ↔ ∃ i, i < m ∧ d[i]! = x
  | 0, _, x => by simp [compactUpTo]
  | m + 1, hm, x => by
    rw [compactUpTo_succ, List.mem_append, mem_compact d m (by omega) x]
    constructor
    · rintro (⟨i, hi, e⟩ | h)
      · exact ⟨i, by omega, e⟩
      · split at h
        · simp at h; exact ⟨m, by omega, h.symm⟩
        · simp at h
    · rintro ⟨i, hi, e⟩
      by_cases h : i < m
      · exact Or.inl ⟨i, h, e⟩
      · have : i = m := by omega
        subst this
        by_cases hk : keeps d i = true
        · right; simp [hk, e]
        · left
          have hk' : ¬ (i = 0 ∨ d[i]! ≠ d[i - 1]!) := by simpa [keeps] using hk
          have h0 : i ≠ 0 := fun e => hk' (Or.inl e)
          have h1 : d[i]! = d[i - 1]! := Classical.byContradiction fun e => hk' (Or.inr e)
          exact ⟨i - 1, by omega, by rw [← h1]; exact e⟩

theorem pairwise_compact (d : Array Int32) (hs : SortedIn (ltOf cf32) 0 d.size d) : ∀ (m : Nat), m ≤ d.size → (compactUpTo d m).Pairwise (fun x y => LtL x.toInt y.toInt)
  | 0, _ => by simp [compactUpTo]
  | m + 1, hm => by
    rw [compactUpTo_succ, List.pairwise_append]
    refine ⟨pairwise_compact d hs m (by omega), by split <;> simp, ?_⟩
    intro a ha b hb
    split at hb
    · rename_i hk
      simp at hb
      subst hb
      obtain ⟨i, hi, rfl⟩ := (mem_compact d m (by omega) a).1 ha
      have hk' : m = 0 ∨ d[m]! ≠ d[m - 1]! := by simpa [keeps] using hk
      have hne : d[m]! ≠ d[m - 1]! := by
        rcases hk' with h | h
        · omega
        · exact h
      have h1 : ¬ LtL d[m]!.toInt d[m - 1]!.toInt := (lt32f _ _).1 (hs (m - 1) m (by omega) (by omega) (by omega))
      have h2 : LtL d[m - 1]!.toInt d[m]!.toInt := Classical.byContradiction fun h => hne (Int32.toInt_inj.1 (LtL.total h1 h))
      by_cases hi' : i = m - 1
      · rw [hi']; exact h2
      · have h3 : ¬ LtL d[m - 1]!.toInt d[i]!.toInt := (lt32f _ _).1 (hs i (m - 1) (by omega) (by omega) (by omega))
        unfold LtL at *; omega
    · simp at hb

theorem nrm_compact (xs : List Int) (hb : ∀ x ∈ xs, -2147483648 ≤ x ∧ x ≤ 2147483647) (d : Array Int32) (hp : PermIn 0 (to32 xs).toArray.size (to32 xs).toArray d) (hs : SortedIn (ltOf cf32) 0 (to32 xs).toArray.size d) :
    Nrm xs ((compactUpTo d d.size).map Int32.toInt) ∧ d.size = xs.length := by
  obtain ⟨hz, _, hperm⟩ := hp
  have hz' : d.size = xs.length := by rw [hz]; simp [to32]
  rw [← hz] at hs hperm
  refine ⟨⟨?_, ?_⟩, hz'⟩
  · rw [List.pairwise_map]
    exact pairwise_compact d hs d.size (Nat.le_refl _)
  · intro x
    have e1 : (d.extract 0 d.size).toList = d.toList := by simp
    have e2 : ((to32 xs).toArray.extract 0 d.size).toList = to32 xs := by
      simp [hz', to32]
      exact List.take_of_length_le (by simp)
    rw [e1, e2] at hperm
    have hm : ∀ y, y ∈ compactUpTo d d.size ↔ y ∈ to32 xs := by
      intro y
      rw [← hperm.mem_iff, mem_compact d d.size (Nat.le_refl _) y]
      constructor
      · rintro ⟨i, hi, rfl⟩
        simp [getElem!_pos, hi]
      · intro h
        obtain ⟨i, hi, e⟩ := List.getElem_of_mem h
        have hi' : i < d.size := by simpa using hi
        exact ⟨i, hi', by rw [getElem!_pos d i hi', ← e]; simp⟩
    constructor
    · intro h
      obtain ⟨y, hy, rfl⟩ := List.mem_map.1 h
      have := (hm y).1 hy
      have h2 : y.toInt ∈ (to32 xs).map Int32.toInt := List.mem_map.2 ⟨y, this, rfl⟩
      rw [back_to32 xs hb] at h2
      exact h2
    · intro h
      have h2 : x ∈ (to32 xs).map Int32.toInt := by rw [back_to32 xs hb]; exact h
      obtain ⟨y, hy, rfl⟩ := List.mem_map.1 h2
      exact List.mem_map.2 ⟨y, (hm y).2 hy, rfl⟩

/-- Two neighbours of one variable: a literal and its negation. -/
theorem both_of_near {xs ys : List Int} (h : Nrm xs ys) (k : Nat) (h1 : 1 ≤ k) (h2 : k < ys.length) (e : vr (ys.getD (k - 1) 0) = vr (ys.getD k 0)) : both xs = true := by
  have m1 := getD_mem ys (k - 1) (by omega)
  have m2 := getD_mem ys k h2
  have hl : LtL (ys.getD (k - 1) 0) (ys.getD k 0) := by
    have := List.pairwise_iff_getElem.1 h.1 (k - 1) k (by omega) h2 (by omega)
    simpa [List.getD, List.getElem?_eq_getElem h2, List.getElem?_eq_getElem (show k - 1 < ys.length by omega)] using this
  generalize ys.getD (k - 1) 0 = a at *
  generalize ys.getD k 0 = b at *
  have hab : a = -b ∧ 0 < b := by unfold LtL at hl; unfold vr at *; split at e <;> split at e <;> omega
  unfold both
  rw [List.any_eq_true]
  refine ⟨b, (h.2 b).1 m2, ?_⟩
  have : -b ∈ xs := by rw [← hab.1]; exact (h.2 a).1 m1
  simp [hab.2, this]

theorem near_of_both {xs ys : List Int} (h : Nrm xs ys) (hb : both xs = true) : ∃ k, 1 ≤ k ∧ k < ys.length ∧ vr (ys.getD (k - 1) 0) = vr (ys.getD k 0) := by
  unfold both at hb
  rw [List.any_eq_true] at hb
  obtain ⟨b, hb1, hb2⟩ := hb
  simp at hb2
  obtain ⟨hpos, hneg⟩ := hb2
  have m1 := (h.2 b).2 hb1
  have m2 := (h.2 (-b)).2 hneg
  obtain ⟨j, hj, ej⟩ := List.getElem_of_mem m1
  obtain ⟨i, hi, ei⟩ := List.getElem_of_mem m2
  have P := List.pairwise_iff_getElem.1 h.1
  have hij : i < j := by
    rcases Nat.lt_trichotomy i j with h | h | h
    · exact h
    · subst h; rw [ej] at ei; omega
    · have := P j i hj hi h; rw [ej, ei] at this; unfold LtL vr at this; split at this <;> split at this <;> omega
  have hk : j = i + 1 := by
    rcases Nat.lt_or_ge (i + 1) j with h' | h'
    · have a1 := P i (i + 1) hi (by omega) (by omega)
      have a2 := P (i + 1) j (by omega) hj h'
      rw [ei] at a1; rw [ej] at a2
      generalize ys[i + 1] = c at *
      unfold LtL vr at *
      split at a1 <;> split at a1 <;> split at a2 <;> omega
    · omega
  subst hk
  refine ⟨i + 1, by omega, hj, ?_⟩
  simp only [List.getD, Nat.add_sub_cancel, List.getElem?_eq_getElem hj, List.getElem?_eq_getElem hi, Option.getD_some, ei, ej]
  unfold vr; split <;> split <;> omega

theorem both_false {xs ys : List Int} (h : Nrm xs ys) (hn : ∀ k, 1 ≤ k → k < ys.length → vr (ys.getD (k - 1) 0) ≠ vr (ys.getD k 0)) : both xs = false := by
  cases hb : both xs
  · rfl
  · obtain ⟨k, h1, h2, e⟩ := near_of_both h hb
    exact absurd e (hn k h1 h2)

end Cnf

/- The order of literals as the program's closure tells it, and the library's sort under it. -/
namespace Go.Proofs.YthpebfojkpnojaaGreat.Cf
open Go.RowKit Go.Lib Go.Sort Go.Shelf
set_option linter.unusedVariables false

set_option maxHeartbeats 1000000 in
theorem cmp84 (x y : Int) (w : World) :
    Calls Tryz.prog 158 #[.int .i64 x, .int .i64 y] w fun e w' => e = .returned (.int .i64 (Cnf.cmp3 x y)) ∧ w' = w := by
  by_cases h1 : x < y
  · rw [show Cnf.cmp3 x y = -1 by simp [Cnf.cmp3, h1]]
    go_enter Tryz.func158, Tryz.ntmps158
    go_wp2
    go_ret
    exact ⟨rfl, rfl⟩
  · by_cases h2 : y < x
    · rw [show Cnf.cmp3 x y = 1 by simp [Cnf.cmp3, h1, h2]]
      go_enter Tryz.func158, Tryz.ntmps158
      go_wp2
      go_ret
      exact ⟨rfl, rfl⟩
    · rw [show Cnf.cmp3 x y = 0 by simp [Cnf.cmp3, h1, h2]]
      go_enter Tryz.func158, Tryz.ntmps158
      go_wp2
      go_ret
      exact ⟨rfl, rfl⟩

set_option maxHeartbeats 1000000 in
theorem cmp85 (x y : Int) (w : World) :
    Calls Tryz.prog 159 #[.int .i32 x, .int .i32 y] w fun e w' => e = .returned (.int .i64 (Cnf.cmp3 x y)) ∧ w' = w := by
  by_cases h1 : x < y
  · rw [show Cnf.cmp3 x y = -1 by simp [Cnf.cmp3, h1]]
    go_enter Tryz.func159, Tryz.ntmps159
    go_wp2
    go_ret
    exact ⟨rfl, rfl⟩
  · by_cases h2 : y < x
    · rw [show Cnf.cmp3 x y = 1 by simp [Cnf.cmp3, h1, h2]]
      go_enter Tryz.func159, Tryz.ntmps159
      go_wp2
      go_ret
      exact ⟨rfl, rfl⟩
    · rw [show Cnf.cmp3 x y = 0 by simp [Cnf.cmp3, h1, h2]]
      go_enter Tryz.func159, Tryz.ntmps159
      go_wp2
      go_ret
      exact ⟨rfl, rfl⟩

set_option maxHeartbeats 1000000 in
/-- The closure. -/
theorem cmp83 (x y : Int) (w : World) (hx1 : -2147483648 ≤ x) (hx2 : x ≤ 2147483647) (hy1 : -2147483648 ≤ y) (hy2 : y ≤ 2147483647) :
    Calls Tryz.prog 157 #[.int .i32 x, .int .i32 y] w fun e w' => e = .returned (.int .i64 (Cnf.cmpL x y)) ∧ w' = w := by
  have A : Hid (∀ w, Calls Tryz.prog 71 #[.int .i32 x] w fun e w' => e = .returned (.int .i64 (Cnf.vr x)) ∧ w' = w) := fun w => var49 x w hx1 hx2
  have B : Hid (∀ w, Calls Tryz.prog 71 #[.int .i32 y] w fun e w' => e = .returned (.int .i64 (Cnf.vr y)) ∧ w' = w) := fun w => var49 y w hy1 hy2
  have C : Hid (∀ w, Calls Tryz.prog 158 #[.int .i64 (Cnf.vr x), .int .i64 (Cnf.vr y)] w fun e w' => e = .returned (.int .i64 (Cnf.cmp3 (Cnf.vr x) (Cnf.vr y))) ∧ w' = w) := fun w => cmp84 _ _ w
  have D : Hid (∀ w, Calls Tryz.prog 159 #[.int .i32 x, .int .i32 y] w fun e w' => e = .returned (.int .i64 (Cnf.cmp3 x y)) ∧ w' = w) := fun w => cmp85 _ _ w
  have E : Hid (Cnf.cmpL x y = if Cnf.cmp3 (Cnf.vr x) (Cnf.vr y) = 0 then Cnf.cmp3 x y else Cnf.cmp3 (Cnf.vr x) (Cnf.vr y)) := by
    show Cnf.cmpL x y = _
    unfold Cnf.cmpL
    by_cases h1 : Cnf.vr x < Cnf.vr y
    · simp [h1, Cnf.cmp3]
    · by_cases h2 : Cnf.vr y < Cnf.vr x
      · simp [h1, h2, Cnf.cmp3]
      · simp [h1, h2, show Cnf.cmp3 (Cnf.vr x) (Cnf.vr y) = 0 by simp [h1, h2, Cnf.cmp3]]
  generalize Cnf.vr x = a at *
  generalize Cnf.vr y = b at *
  generalize Cnf.cmp3 a b = c at *
  generalize Cnf.cmp3 x y = d at *
  by_cases h : c = 0
  · have hh : (c != 0) = false := by simp [h]
    have E' : Hid (Cnf.cmpL x y = d) := by have := E.out; rw [if_pos h] at this; exact this
    clear h E
    go_enter Tryz.func157, Tryz.ntmps157
    go_wp2_with fail
    refine (A.out _).mono ?_
    rintro e w' ⟨rfl, rfl⟩
    go_wp2_with fail
    refine (B.out _).mono ?_
    rintro e w' ⟨rfl, rfl⟩
    go_wp2_with fail
    refine (C.out _).mono ?_
    rintro e w' ⟨rfl, rfl⟩
    go_wp2_with fail
    refine (D.out _).mono ?_
    rintro e w' ⟨rfl, rfl⟩
    go_wp2_with fail
    go_ret
    rw [E'.out]
    exact ⟨rfl, rfl⟩
  · have hh : (c != 0) = true := by simp [h]
    have E' : Hid (Cnf.cmpL x y = c) := by have := E.out; rw [if_neg h] at this; exact this
    clear h E
    go_enter Tryz.func157, Tryz.ntmps157
    go_wp2_with fail
    refine (A.out _).mono ?_
    rintro e w' ⟨rfl, rfl⟩
    go_wp2_with fail
    refine (B.out _).mono ?_
    rintro e w' ⟨rfl, rfl⟩
    go_wp2_with fail
    refine (C.out _).mono ?_
    rintro e w' ⟨rfl, rfl⟩
    go_wp2_with fail
    go_ret
    rw [E'.out]
    exact ⟨rfl, rfl⟩


theorem cmpReads (blk off size : Nat) (w : World) : CmpReads Tryz.prog 157 #[] Cnf.enc32 Cnf.cf32 blk off size w :=
  fun _ _ _ _ x y => (cmp83 x.toInt y.toInt _ (Cnf.bounds32 x).1 (Cnf.bounds32 x).2 (Cnf.bounds32 y).1 (Cnf.bounds32 y).2).mono fun _ _ ⟨he, hw⟩ => ⟨he, 0, hw⟩

set_option maxHeartbeats 1000000 in
set_option maxRecDepth 100000 in
/-- The library's sort at a row of literals. -/
theorem sort69 (blk off cap : Nat) (d : Array Int32) (w : World) (hH : Holds Cnf.enc32 w blk off d) (hblk : blk < w.heap.size) (hsz : d.size < 4611686018427387904) :
    Calls Tryz.prog 142 #[.slice (some ⟨blk, off, none⟩) d.size cap, .func (.func 157) #[] #[]] w fun e w' =>
      e = .returned (.tuple #[]) ∧ ∃ n os d', PermIn 0 d.size d d' ∧ SortedIn (ltOf Cnf.cf32) 0 d.size d' ∧ w' = sortWorld Cnf.enc32 w blk off n d' os := by
  have eg : ∀ args w, (callFunc 157 args).run Tryz.prog w = .ok (.enter 157 args) w := enters_of Tryz.func157 (by kernel_rfl) rfl
  have hlim : Lib.bitLen d.size < 4611686018427387904 := Nat.lt_of_le_of_lt (Lib.bitLen_le d.size 62 (by omega) (by omega)) (by omega)
  have hp := Any.pdqsortCmpFunc_all Tryz.pdqL Cnf.enc32 Cnf.cf32 157 #[] Cnf.swo32 blk off cap d w eg (cmpReads blk off d.size w).lays ⟨fun _ => rfl, hH, hblk⟩ (d.size + 1) 0 d.size (Lib.bitLen d.size) d w (by omega) rfl (SW.start hH) (Nat.zero_le _) (Nat.le_refl _) hsz hlim (Or.inl rfl)
  change Calls Tryz.prog 156 _ _ _ at hp
  have hl : Calls Tryz.prog 115 #[.int .u64 (d.size : Int)] w fun e w' => e = .returned (.int .i64 (Lib.bitLen d.size : Nat)) ∧ w' = w := by
    have h := Any.bits_Len Tryz.bitsLenL (d.size : Int) w (by omega) (by omega)
    rwa [Int.toNat_natCast] at h
  have hfin := pdq_sorts (ltOf Cnf.cf32) Cnf.swo32 d 0 d.size (Lib.bitLen d.size) true true (Nat.zero_le _) (Nat.le_refl _) (Or.inl rfl)
  have wr : IntKind.u64.wrap (d.size : Int) = d.size := by simp [IntKind.wrap, IntKind.bits, IntKind.signed]; omega
  have HF := hid hfin
  have HP := hid hp
  have HL := hid hl
  clear hH hfin hp hl
  go_enter Tryz.func142, Tryz.ntmps142
  go_wp2_with fail
  refine HL.out.mono ?_
  rintro e w' ⟨rfl, rfl⟩
  go_wp2_with fail
  refine HP.out.mono ?_
  rintro e w' ⟨rfl, n, os, rfl⟩
  go_wp2_with fail
  go_end0
  exact ⟨rfl, n, os, _, HF.out.1, HF.out.2, rfl⟩

set_option maxHeartbeats 1000000 in
/-- .. at none. -/
theorem sort69_none (p : Option Addr) (cap : Nat) (w : World) :
    Calls Tryz.prog 142 #[.slice p 0 cap, .func (.func 157) #[] #[]] w fun e w' => e = .returned (.tuple #[]) ∧ w' = w := by
  have hp := fun lim W => AnyF.pdqsortCmpFunc_none (P := Tryz.prog) (ρ := Tryz.pdqL_ren) { Tryz.pdqL with } p cap lim (.func (.func 157) #[] #[]) W
  change ∀ lim W, Calls Tryz.prog 156 _ _ _ at hp
  have hl : ∀ W, Calls Tryz.prog 115 #[.int .u64 0] W fun e w' => e = .returned (.int .i64 (Lib.bitLen 0 : Nat)) ∧ w' = W := fun W => by
    have h := Any.bits_Len Tryz.bitsLenL 0 W (by omega) (by omega)
    exact h
  have HP := hid hp
  have HL := hid hl
  clear hp hl
  go_enter Tryz.func142, Tryz.ntmps142
  go_wp2_with (first | (go_at_call 115; refine (HL.out _).mono ?_; rintro e w' ⟨rfl, rfl⟩) | (go_at_call 156; refine (HP.out _ _).mono ?_; rintro e w' ⟨rfl, rfl⟩))
  go_end0
  exact ⟨rfl, rfl⟩

end Go.Proofs.YthpebfojkpnojaaGreat.Cf

