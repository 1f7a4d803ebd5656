/- The order of literals as the program's closure tells it, and the library's sort under it. -/
import Derived.Test.YtccbcijkahnkkaaShelf
import Derived.Test.YtccbcijkahnkkaaLeaf
import Derived.Test.YtccbcijkahnkkaaComp
import Derived.Lib.OwnBridge
import Derived.Lib.SortBridge
namespace Go.Proofs.Ytccbcijkahnkkaa
open Go.RowKit Go.Lib Go.Sort Go.Shelf
set_option linter.unusedVariables false

set_option maxHeartbeats 1000000 in
theorem cmp44 (x y : Int) (w : World) :
    Calls Try.prog 44 #[.int .i64 x, .int .i64 y] w fun e w' => e = .returned (.int .i64 (Cnf.cmp3 x y)) ∧ w' = w := by
  by_cases h1 : x < y
  · rw [show Cnf.cmp3 x y = -1 by simp [Cnf.cmp3, h1]]
    go_enter Try.func44, Try.ntmps44
    go_wp2
    go_ret
    exact ⟨rfl, rfl⟩
  · by_cases h2 : y < x
    · rw [show Cnf.cmp3 x y = 1 by simp [Cnf.cmp3, h1, h2]]
      go_enter Try.func44, Try.ntmps44
      go_wp2
      go_ret
      exact ⟨rfl, rfl⟩
    · rw [show Cnf.cmp3 x y = 0 by simp [Cnf.cmp3, h1, h2]]
      go_enter Try.func44, Try.ntmps44
      go_wp2
      go_ret
      exact ⟨rfl, rfl⟩

set_option maxHeartbeats 1000000 in
theorem cmp45 (x y : Int) (w : World) :
    Calls Try.prog 45 #[.int .i32 x, .int .i32 y] w fun e w' => e = .returned (.int .i64 (Cnf.cmp3 x y)) ∧ w' = w := by
  by_cases h1 : x < y
  · rw [show Cnf.cmp3 x y = -1 by simp [Cnf.cmp3, h1]]
    go_enter Try.func45, Try.ntmps45
    go_wp2
    go_ret
    exact ⟨rfl, rfl⟩
  · by_cases h2 : y < x
    · rw [show Cnf.cmp3 x y = 1 by simp [Cnf.cmp3, h1, h2]]
      go_enter Try.func45, Try.ntmps45
      go_wp2
      go_ret
      exact ⟨rfl, rfl⟩
    · rw [show Cnf.cmp3 x y = 0 by simp [Cnf.cmp3, h1, h2]]
      go_enter Try.func45, Try.ntmps45
      go_wp2
      go_ret
      exact ⟨rfl, rfl⟩

set_option maxHeartbeats 1000000 in
/-- The closure. -/
theorem cmp43 (x y : Int) (w : World) (hx1 : -2147483648 ≤ x) (hx2 : x ≤ 2147483647) (hy1 : -2147483648 ≤ y) (hy2 : y ≤ 2147483647) :
    Calls Try.prog 43 #[.int .i32 x, .int .i32 y] w fun e w' => e = .returned (.int .i64 (Cnf.cmpL x y)) ∧ w' = w := by
  have A : Hid (∀ w, Calls Try.prog 25 #[.int .i32 x] w fun e w' => e = .returned (.int .i64 (Cnf.vr x)) ∧ w' = w) := fun w => var25 x w hx1 hx2
  have B : Hid (∀ w, Calls Try.prog 25 #[.int .i32 y] w fun e w' => e = .returned (.int .i64 (Cnf.vr y)) ∧ w' = w) := fun w => var25 y w hy1 hy2
  have C : Hid (∀ w, Calls Try.prog 44 #[.int .i64 (Cnf.vr x), .int .i64 (Cnf.vr y)] w fun e w' => e = .returned (.int .i64 (Cnf.cmp3 (Cnf.vr x) (Cnf.vr y))) ∧ w' = w) := fun w => cmp44 _ _ w
  have D : Hid (∀ w, Calls Try.prog 45 #[.int .i32 x, .int .i32 y] w fun e w' => e = .returned (.int .i64 (Cnf.cmp3 x y)) ∧ w' = w) := fun w => cmp45 _ _ w
  have E : Hid (Cnf.cmpL x y = if Cnf.cmp3 (Cnf.vr x) (Cnf.vr y) = 0 then Cnf.cmp3 x y else Cnf.cmp3 (Cnf.vr x) (Cnf.vr y)) := by
    show Cnf.cmpL x y = _
    unfold Cnf.cmpL
    by_cases h1 : Cnf.vr x < Cnf.vr y
    · simp [h1, Cnf.cmp3]
    · by_cases h2 : Cnf.vr y < Cnf.vr x
      · simp [h1, h2, Cnf.cmp3]
      · simp [h1, h2, show Cnf.cmp3 (Cnf.vr x) (Cnf.vr y) = 0 by simp [h1, h2, Cnf.cmp3]]
  generalize Cnf.vr x = a at *
  generalize Cnf.vr y = b at *
  generalize Cnf.cmp3 a b = c at *
  generalize Cnf.cmp3 x y = d at *
  by_cases h : c = 0
  · have hh : (c != 0) = false := by simp [h]
    have E' : Hid (Cnf.cmpL x y = d) := by have := E.out; rw [if_pos h] at this; exact this
    clear h E
    go_enter Try.func43, Try.ntmps43
    go_wp2_with fail
    refine (A.out _).mono ?_
    rintro e w' ⟨rfl, rfl⟩
    go_wp2_with fail
    refine (B.out _).mono ?_
    rintro e w' ⟨rfl, rfl⟩
    go_wp2_with fail
    refine (C.out _).mono ?_
    rintro e w' ⟨rfl, rfl⟩
    go_wp2_with fail
    refine (D.out _).mono ?_
    rintro e w' ⟨rfl, rfl⟩
    go_wp2_with fail
    go_ret
    rw [E'.out]
    exact ⟨rfl, rfl⟩
  · have hh : (c != 0) = true := by simp [h]
    have E' : Hid (Cnf.cmpL x y = c) := by have := E.out; rw [if_neg h] at this; exact this
    clear h E
    go_enter Try.func43, Try.ntmps43
    go_wp2_with fail
    refine (A.out _).mono ?_
    rintro e w' ⟨rfl, rfl⟩
    go_wp2_with fail
    refine (B.out _).mono ?_
    rintro e w' ⟨rfl, rfl⟩
    go_wp2_with fail
    refine (C.out _).mono ?_
    rintro e w' ⟨rfl, rfl⟩
    go_wp2_with fail
    go_ret
    rw [E'.out]
    exact ⟨rfl, rfl⟩


theorem cmpReads (blk off size : Nat) (w : World) : CmpReads Try.prog 43 #[] Cnf.enc32 Cnf.cf32 blk off size w :=
  fun _ _ _ _ x y => (cmp43 x.toInt y.toInt _ (Cnf.bounds32 x).1 (Cnf.bounds32 x).2 (Cnf.bounds32 y).1 (Cnf.bounds32 y).2).mono fun _ _ ⟨he, hw⟩ => ⟨he, 0, hw⟩

set_option maxHeartbeats 1000000 in
set_option maxRecDepth 100000 in
/-- The library's sort at a row of literals. -/
theorem sort36 (blk off cap : Nat) (d : Array Int32) (w : World) (hH : Holds Cnf.enc32 w blk off d) (hblk : blk < w.heap.size) (hsz : d.size < 4611686018427387904) :
    Calls Try.prog 36 #[.slice (some ⟨blk, off, none⟩) d.size cap, .func (.func 43) #[] #[]] w fun e w' =>
      e = .returned (.tuple #[]) ∧ ∃ n os d', PermIn 0 d.size d d' ∧ SortedIn (ltOf Cnf.cf32) 0 d.size d' ∧ w' = sortWorld Cnf.enc32 w blk off n d' os := by
  have eg : ∀ args w, (callFunc 43 args).run Try.prog w = .ok (.enter 43 args) w := enters_of Try.func43 (by kernel_rfl) rfl
  have hlim : Lib.bitLen d.size < 4611686018427387904 := Nat.lt_of_le_of_lt (Lib.bitLen_le d.size 62 (by omega) (by omega)) (by omega)
  have hp := Any.pdqsortCmpFunc_all Try.pdqL Cnf.enc32 Cnf.cf32 43 #[] Cnf.swo32 blk off cap d w eg (cmpReads blk off d.size w).lays ⟨fun _ => rfl, hH, hblk⟩ (d.size + 1) 0 d.size (Lib.bitLen d.size) d w (by omega) rfl (SW.start hH) (Nat.zero_le _) (Nat.le_refl _) hsz hlim (Or.inl rfl)
  change Calls Try.prog 41 _ _ _ at hp
  have hl : Calls Try.prog 42 #[.int .u64 (d.size : Int)] w fun e w' => e = .returned (.int .i64 (Lib.bitLen d.size : Nat)) ∧ w' = w := by
    have h := Any.bits_Len Try.bitsLenL (d.size : Int) w (by omega) (by omega)
    rwa [Int.toNat_natCast] at h
  have hfin := pdq_sorts (ltOf Cnf.cf32) Cnf.swo32 d 0 d.size (Lib.bitLen d.size) true true (Nat.zero_le _) (Nat.le_refl _) (Or.inl rfl)
  have wr : IntKind.u64.wrap (d.size : Int) = d.size := by simp [IntKind.wrap, IntKind.bits, IntKind.signed]; omega
  have HF := hid hfin
  have HP := hid hp
  have HL := hid hl
  clear hH hfin hp hl
  go_enter Try.func36, Try.ntmps36
  go_wp2_with fail
  refine HL.out.mono ?_
  rintro e w' ⟨rfl, rfl⟩
  go_wp2_with fail
  refine HP.out.mono ?_
  rintro e w' ⟨rfl, n, os, rfl⟩
  go_wp2_with fail
  go_end0
  exact ⟨rfl, n, os, _, HF.out.1, HF.out.2, rfl⟩

set_option maxHeartbeats 1000000 in
/-- .. at none. -/
theorem sort36_none (p : Option Addr) (cap : Nat) (w : World) :
    Calls Try.prog 36 #[.slice p 0 cap, .func (.func 43) #[] #[]] w fun e w' => e = .returned (.tuple #[]) ∧ w' = w := by
  have hp := fun lim W => AnyF.pdqsortCmpFunc_none (P := Try.prog) (ρ := Try.pdqL_ren) { Try.pdqL with } p cap lim (.func (.func 43) #[] #[]) W
  change ∀ lim W, Calls Try.prog 41 _ _ _ at hp
  have hl : ∀ W, Calls Try.prog 42 #[.int .u64 0] W fun e w' => e = .returned (.int .i64 (Lib.bitLen 0 : Nat)) ∧ w' = W := fun W => by
    have h := Any.bits_Len Try.bitsLenL 0 W (by omega) (by omega)
    exact h
  have HP := hid hp
  have HL := hid hl
  clear hp hl
  go_enter Try.func36, Try.ntmps36
  go_wp2_with (first | (go_at_call 42; refine (HL.out _).mono ?_; rintro e w' ⟨rfl, rfl⟩) | (go_at_call 41; refine (HP.out _ _).mono ?_; rintro e w' ⟨rfl, rfl⟩))
  go_end0
  exact ⟨rfl, rfl⟩

end Go.Proofs.Ytccbcijkahnkkaa
