/- The calls of Var and of the models' values. -/
import Derived.Test.YtjakfgpgcnbclaaProg
import Derived.Test.YtjakfgpgcnbclaaPlain
import Derived.WalkKit
import Derived.Deep.QuietTactic
import Derived.BigQuiet
namespace Go.Proofs.Ytjakfgpgcnbclaa
open Go.RowKit
set_option linter.unusedVariables false

theorem hid {p : Prop} (h : p) : Hid p := h
theorem ret_bool {a b : Bool} (h : a = b) : Ending.returned (.bool a) = .returned (.bool b) := by rw [h]

/-- A row of literals: what a slice of them holds. -/
def Lits (w : World) (a : Option Addr) (xs : List Int) : Prop :=
  (∀ x ∈ xs, -2147483648 ≤ x ∧ x ≤ 2147483647) ∧ (xs = [] ∨ ∃ b off, a = some ⟨b, off, none⟩ ∧ b < w.heap.size ∧ ∀ j, j < xs.length → w.cell? ⟨b, off + j, none⟩ = some (.int .i32 (xs.getD j 0)))

/-- A row of Booleans. -/
def Bools (w : World) (a : Option Addr) (xs : List Bool) : Prop :=
  xs = [] ∨ ∃ b off, a = some ⟨b, off, none⟩ ∧ b < w.heap.size ∧ ∀ j, j < xs.length → w.cell? ⟨b, off + j, none⟩ = some (.bool (xs.getD j false))

theorem Lits.below {w w' : World} {a : Option Addr} {xs : List Int} (h : Lits w a xs) (hb : Below w.heap.size w w') : Lits w' a xs := by
  refine ⟨h.1, ?_⟩
  rcases h.2 with h | ⟨b, off, e, hl, hc⟩
  · exact .inl h
  · exact .inr ⟨b, off, e, Nat.lt_of_lt_of_le hl hb.size, fun j hj => (hb.cell (p := ⟨b, off + j, none⟩) hl).trans (hc j hj)⟩

theorem Bools.below {w w' : World} {a : Option Addr} {xs : List Bool} (h : Bools w a xs) (hb : Below w.heap.size w w') : Bools w' a xs := by
  rcases h with h | ⟨b, off, e, hl, hc⟩
  · exact .inl h
  · exact .inr ⟨b, off, e, Nat.lt_of_lt_of_le hl hb.size, fun j hj => (hb.cell (p := ⟨b, off + j, none⟩) hl).trans (hc j hj)⟩

theorem Lits.at {w : World} {a : Option Addr} {xs : List Int} (h : Lits w a xs) {k : Nat} (hk : k < xs.length) :
    ∃ b off, a = some ⟨b, off, none⟩ ∧ w.cell? ⟨b, off + k, none⟩ = some (.int .i32 (xs.getD k 0)) ∧ -2147483648 ≤ xs.getD k 0 ∧ xs.getD k 0 ≤ 2147483647 := by
  have hm : xs.getD k 0 ∈ xs := by simp [List.getD, List.getElem?_eq_getElem hk]
  rcases h.2 with rfl | ⟨b, off, e, hl, hc⟩
  · simp at hk
  · exact ⟨b, off, e, hc k hk, (h.1 _ hm).1, (h.1 _ hm).2⟩

theorem Bools.at {w : World} {a : Option Addr} {xs : List Bool} (h : Bools w a xs) {k : Nat} (hk : k < xs.length) :
    ∃ b off, a = some ⟨b, off, none⟩ ∧ w.cell? ⟨b, off + k, none⟩ = some (.bool (xs.getD k false)) := by
  rcases h with rfl | ⟨b, off, e, hl, hc⟩
  · simp at hk
  · exact ⟨b, off, e, hc k hk⟩

set_option maxHeartbeats 400000 in
theorem var25 (l : Int) (w : World) (h1 : -2147483648 ≤ l) (h2 : l ≤ 2147483647) :
    Calls Try.prog 25 #[.int .i32 l] w fun e w' => e = .returned (.int .i64 (Cnf.vr l)) ∧ w' = w := by
  by_cases h : l < 0
  · have e : Cnf.vr l = -l := by simp [Cnf.vr, h]
    rw [e]
    go_enter Try.func25, Try.ntmps25
    go_wp2
    go_ret
    exact ⟨rfl, rfl⟩
  · have e : Cnf.vr l = l := by simp [Cnf.vr, h]
    rw [e]
    go_enter Try.func25, Try.ntmps25
    go_wp2
    go_ret
    exact ⟨rfl, rfl⟩

set_option maxHeartbeats 400000 in
theorem var23 (l : Int) (w : World) (h1 : -2147483648 ≤ l) (h2 : l ≤ 2147483647) :
    Calls Try.prog 23 #[.int .i32 l] w fun e w' => e = .returned (.int .i64 (Cnf.vr l)) ∧ w' = w := by
  by_cases h : l < 0
  · have e : Cnf.vr l = -l := by simp [Cnf.vr, h]
    rw [e]
    go_enter Try.func23, Try.ntmps23
    go_wp2
    go_ret
    exact ⟨rfl, rfl⟩
  · have e : Cnf.vr l = l := by simp [Cnf.vr, h]
    rw [e]
    go_enter Try.func23, Try.ntmps23
    go_wp2
    go_ret
    exact ⟨rfl, rfl⟩

set_option maxHeartbeats 1000000 in
/-- A literal's truth, by the document's own function. -/
theorem true28 (l : Int) (a : Option Addr) (n cap : Nat) (m : List Bool) (w : World) (h1 : -2147483648 ≤ l) (h2 : l ≤ 2147483647) (hn : m.length = n) (hb : n ≤ 35184372088832) (hm : Bools w a m) :
    Calls Try.prog 28 #[.int .i32 l, .slice a n cap] w fun e w' => e = .returned (.bool (Cnf.tr l m)) ∧ w' = w := by
  have hv0 := Cnf.vr_nonneg l
  have hv1 := Cnf.vr_le l h1 h2
  have hN : Hid (m.length = n) := hn
  by_cases hlo : 1 ≤ Cnf.vr l
  · by_cases hhi : Cnf.vr l ≤ n
    · obtain ⟨b, off, rfl, hc⟩ := hm.at (k := (Cnf.vr l - 1).toNat) (by omega)
      have hfin : Cnf.tr l m = (m.getD (Cnf.vr l - 1).toNat false == decide (0 < l)) := by simp [Cnf.tr, hlo, hn, hhi]
      have HF := hid hfin
      clear hfin hn
      have hcall := fun w => var23 l w h1 h2
      have HC := hid hcall
      clear hcall hm
      obtain ⟨k, hk⟩ : ∃ k : Nat, Cnf.vr l = (k : Int) + 1 := ⟨(Cnf.vr l - 1).toNat, by omega⟩
      have hk' : (Cnf.vr l - 1).toNat = k := by omega
      rw [hk'] at HF hc
      generalize m.getD k false = r at HF hc
      have HK := hid hk
      clear hk'
      rw [hk] at hlo hhi hv0 hv1
      clear hk
      by_cases hl : 0 < l
      all_goals
        go_enter Try.func28, Try.ntmps28
        go_wp2_with (go_at_call 23; refine (HC.out _).mono ?_; rintro e w' ⟨rfl, rfl⟩; rw [HK.out])
        go_ret
        exact ⟨ret_bool (by rw [HF.out]; try simp [hl]), rfl⟩
    · have hfin : Cnf.tr l m = false := by simp [Cnf.tr, hn, hhi]
      rw [hfin]
      clear hfin hn hm
      have hcall := fun w => var23 l w h1 h2
      generalize Cnf.vr l = v at *
      have HC := hid hcall
      clear hcall
      go_enter Try.func28, Try.ntmps28
      go_wp2_with (go_at_call 23; refine (HC.out _).mono ?_; rintro e w' ⟨rfl, rfl⟩)
      go_ret
      exact ⟨rfl, rfl⟩
  · have hfin : Cnf.tr l m = false := by simp [Cnf.tr, hlo]
    rw [hfin]
    clear hfin hn hm
    have hcall := fun w => var23 l w h1 h2
    generalize Cnf.vr l = v at *
    have HC := hid hcall
    clear hcall
    go_enter Try.func28, Try.ntmps28
    go_wp2_with (go_at_call 23; refine (HC.out _).mono ?_; rintro e w' ⟨rfl, rfl⟩)
    go_ret
    exact ⟨rfl, rfl⟩


set_option maxHeartbeats 1000000 in
/-- A clause's truth, by the document's own function. -/
theorem value22 (a am : Option Addr) (n cap nm capm : Nat) (xs : List Int) (m : List Bool) (w : World) (hn : xs.length = n) (hb : n ≤ 35184372088832) (hnm : m.length = nm) (hbm : nm ≤ 35184372088832) (hx : Lits w a xs) (hm : Bools w am m) :
    Calls Try.prog 22 #[.slice a n cap, .slice am nm capm] w fun e w' => e = .returned (.bool (Cnf.val xs m)) ∧ w' = w := by
  have HX : Hid (Lits w a xs) := hx
  have HM : Hid (Bools w am m) := hm
  have HN : Hid (xs.length = n) := hn
  have HNM : Hid (m.length = nm) := hnm
  clear hx hm hn hnm
  go_enter Try.func22, Try.ntmps22
  go_wp2
  go_loop [5] (fun i => ∃ k : Nat, k ≤ n ∧ i = .int .i64 k ∧ Cnf.val (xs.take k) m = false) (fun i => n - (intOf i).toNat)
  case atStart => exact ⟨0, Nat.zero_le _, rfl, rfl⟩
  case round =>
    obtain ⟨k, hk, rfl, hv⟩ := hrel
    have HV : Hid (Cnf.val (xs.take k) m = false) := hv
    clear hv
    by_cases hlt : k < n
    · obtain ⟨b, off, rfl, hc, hx1, hx2⟩ := HX.out.at (k := k) (by rw [HN.out]; exact hlt)
      have HS : Hid (Cnf.val (xs.take (k + 1)) m = (Cnf.val (xs.take k) m || Cnf.tr (xs.getD k 0) m)) := Cnf.val_take xs m k (by rw [HN.out]; exact hlt)
      have HT : Hid (Cnf.tr (xs.getD k 0) m = true → Cnf.val xs m = true) := Cnf.val_true xs m k (by rw [HN.out]; exact hlt)
      generalize xs.getD k 0 = x at hc hx1 hx2 HS HT
      have HC : Hid (Calls Try.prog 28 #[.int .i32 x, .slice am nm capm] w fun e w' => e = .returned (.bool (Cnf.tr x m)) ∧ w' = w) := true28 x am nm capm m w hx1 hx2 HNM.out hbm HM.out
      generalize hr : Cnf.tr x m = r at HC HS HT
      clear hr
      cases r
      · go_wp2_with (go_at_call 28; refine HC.out.mono ?_; rintro e w' ⟨rfl, rfl⟩)
        go_round
        case rel => exact ⟨k + 1, by omega, by go_num, by rw [HS.out, HV.out]; rfl⟩
        case measure => simp [intOf]; omega
      · go_wp2_with (go_at_call 28; refine HC.out.mono ?_; rintro e w' ⟨rfl, rfl⟩)
        go_ret
        exact ⟨ret_bool (HT.out (by simp)).symm, rfl⟩
    · go_wp2
      go_ret
      exact ⟨ret_bool (by have h := HV.out; rw [List.take_of_length_le (by rw [HN.out]; omega)] at h; exact h.symm), rfl⟩

set_option maxHeartbeats 2000000 in
/-- A clause's truth, by the program's function. -/
theorem value19 (a am : Option Addr) (n cap nm capm : Nat) (xs : List Int) (m : List Bool) (w : World) (hn : xs.length = n) (hb : n ≤ 35184372088832) (hnm : m.length = nm) (hbm : nm ≤ 35184372088832) (hx : Lits w a xs) (hm : Bools w am m) :
    Calls Try.prog 19 #[.slice a n cap, .slice am nm capm] w fun e w' => e = .returned (.bool (Cnf.val xs m)) ∧ w' = w := by
  have HX : Hid (Lits w a xs) := hx
  have HM : Hid (Bools w am m) := hm
  have HN : Hid (xs.length = n) := hn
  have HNM : Hid (m.length = nm) := hnm
  clear hx hm hn hnm
  go_enter Try.func19, Try.ntmps19
  go_wp2
  go_loop [10] (fun i => ∃ k : Nat, k ≤ n ∧ i = .int .i64 k ∧ Cnf.val (xs.take k) m = false) (fun i => n - (intOf i).toNat)
  case atStart => exact ⟨0, Nat.zero_le _, rfl, rfl⟩
  case round =>
    obtain ⟨k, hk, rfl, hv⟩ := hrel
    have HV : Hid (Cnf.val (xs.take k) m = false) := hv
    clear hv
    by_cases hlt : k < n
    · obtain ⟨b, off, rfl, hc, hx1, hx2⟩ := HX.out.at (k := k) (by rw [HN.out]; exact hlt)
      have HS : Hid (Cnf.val (xs.take (k + 1)) m = (Cnf.val (xs.take k) m || Cnf.tr (xs.getD k 0) m)) := Cnf.val_take xs m k (by rw [HN.out]; exact hlt)
      have HT : Hid (Cnf.tr (xs.getD k 0) m = true → Cnf.val xs m = true) := Cnf.val_true xs m k (by rw [HN.out]; exact hlt)
      generalize xs.getD k 0 = x at hc hx1 hx2 HS HT
      have hv0 := Cnf.vr_nonneg x
      have hv1 := Cnf.vr_le x hx1 hx2
      have HC : Hid (Calls Try.prog 25 #[.int .i32 x] w fun e w' => e = .returned (.int .i64 (Cnf.vr x)) ∧ w' = w) := var25 x w hx1 hx2
      by_cases hlo : 1 ≤ Cnf.vr x
      · by_cases hhi : Cnf.vr x ≤ nm
        · obtain ⟨bm, om, rfl, hcm⟩ := HM.out.at (k := (Cnf.vr x - 1).toNat) (by rw [HNM.out]; omega)
          have hfin : Cnf.tr x m = (m.getD (Cnf.vr x - 1).toNat false == decide (0 < x)) := by simp [Cnf.tr, hlo, HNM.out, hhi]
          have HF := hid hfin
          clear hfin
          obtain ⟨j, hj⟩ : ∃ j : Nat, Cnf.vr x = (j : Int) + 1 := ⟨(Cnf.vr x - 1).toNat, by omega⟩
          have hj' : (Cnf.vr x - 1).toNat = j := by omega
          rw [hj'] at HF hcm
          generalize m.getD j false = r at HF hcm
          clear hj'
          rw [hj] at hlo hhi hv0 hv1 HC
          clear hj
          by_cases hl : 0 < x
          · have hd : decide (0 < x) = true := by simpa using hl
            cases r
            · have HR : Hid (Cnf.tr x m = false) := by have h := HF.out; rw [hd] at h; show Cnf.tr x m = _; simpa using h
              clear hd
              go_wp2_with (go_at_call 25; refine HC.out.mono ?_; rintro e w' ⟨rfl, rfl⟩)
              go_round
              case rel => exact ⟨k + 1, by omega, by go_num, by rw [HS.out, HV.out, HR.out]; rfl⟩
              case measure => simp [intOf]; omega
            · have HR : Hid (Cnf.tr x m = true) := by have h := HF.out; rw [hd] at h; show Cnf.tr x m = _; simpa using h
              clear hd
              go_wp2_with (go_at_call 25; refine HC.out.mono ?_; rintro e w' ⟨rfl, rfl⟩)
              go_ret
              exact ⟨ret_bool (HT.out HR.out).symm, rfl⟩
          · have hd : decide (0 < x) = false := by simpa using hl
            cases r
            · have HR : Hid (Cnf.tr x m = true) := by have h := HF.out; rw [hd] at h; show Cnf.tr x m = _; simpa using h
              go_wp2_with (go_at_call 25; refine HC.out.mono ?_; rintro e w' ⟨rfl, rfl⟩)
              go_ret
              exact ⟨ret_bool (HT.out HR.out).symm, rfl⟩
            · have HR : Hid (Cnf.tr x m = false) := by have h := HF.out; rw [hd] at h; show Cnf.tr x m = _; simpa using h
              go_wp2_with (go_at_call 25; refine HC.out.mono ?_; rintro e w' ⟨rfl, rfl⟩)
              go_round
              case rel => exact ⟨k + 1, by omega, by go_num, by rw [HS.out, HV.out, HR.out]; rfl⟩
              case measure => simp [intOf]; omega
        · have HR : Hid (Cnf.tr x m = false) := by simp [Hid, Cnf.tr, HNM.out, hhi]
          generalize Cnf.vr x = v at *
          go_wp2_with (go_at_call 25; refine HC.out.mono ?_; rintro e w' ⟨rfl, rfl⟩)
          go_round
          case rel => exact ⟨k + 1, by omega, by go_num, by rw [HS.out, HV.out, HR.out]; rfl⟩
          case measure => simp [intOf]; omega
      · have HR : Hid (Cnf.tr x m = false) := by simp [Hid, Cnf.tr, hlo]
        generalize Cnf.vr x = v at *
        go_wp2_with (go_at_call 25; refine HC.out.mono ?_; rintro e w' ⟨rfl, rfl⟩)
        go_round
        case rel => exact ⟨k + 1, by omega, by go_num, by rw [HS.out, HV.out, HR.out]; rfl⟩
        case measure => simp [intOf]; omega
    · go_wp2
      go_ret
      exact ⟨ret_bool (by have h := HV.out; rw [List.take_of_length_le (by rw [HN.out]; omega)] at h; exact h.symm), rfl⟩

end Go.Proofs.Ytjakfgpgcnbclaa
