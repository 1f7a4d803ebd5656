/- A number's text, by the document's own function. -/
import Derived.Test.YtdodfmgbjfhnpaaDoorNumb
import Derived.Lib.SlBytesConst
import Derived.Lib.ConvBytes
import Derived.Lib.OwnBridge
import Derived.Shelf.Bytes.SlEqualAll
import Derived.Deep.RegionLaw
namespace Go.Proofs.YtdodfmgbjfhnpaaDoor
open Go.RowKit
set_option linter.unusedVariables false
set_option linter.unusedSimpArgs false

def bstr (l : List UInt8) : ByteArray := ⟨l.toArray⟩
theorem bstr_app (x y : List UInt8) : bstr x ++ bstr y = bstr (x ++ y) := by
  apply ByteArray.ext
  rw [ByteArray.data_append]
  simp [bstr]
theorem bstr_size (x : List UInt8) : (bstr x).size = x.length := by
  show x.toArray.size = _
  simp
theorem one_string (w : World) (x : Nat) (hx : x < 256) : (convert 48 9 (.slice (some ⟨w.heap.size, 0, none⟩) 1 1)).run Tryd.prog (w.alloc (.cells #[.int .u8 x] 5)) = .ok (.string ⟨#[UInt8.ofNat x]⟩) (w.alloc (.cells #[.int .u8 x] 5)) := by
  have hk := heap_alloc_new w (.cells #[.int .u8 x] 5)
  have hb : Lib.BytesIn (w.alloc (.cells #[.int .u8 x] 5)) (some ⟨w.heap.size, 0, none⟩) 1 [(x : Int)] := fun _ => ⟨w.heap.size, 0, rfl, fun i hi => by
    obtain rfl : i = 0 := by omega
    rw [Nat.zero_add, row_cell hk 0]
    rfl⟩
  rw [hb.convert rfl 1 48 5 9 Tryd.underlying48 Tryd.underlying5 Tryd.underlying9]
  have : strOfNums [(x : Int)] = ⟨#[UInt8.ofNat x]⟩ := by
    simp [strOfNums]
  rw [this]

theorem cell_string (W : World) (nb x : Nat) (hx : x < 256) (hc : W.cell? ⟨nb, 0, none⟩ = some (.int .u8 (x : Int))) (D : ByteArray) (hD : ⟨#[UInt8.ofNat x]⟩ = D) : (convert 48 9 (.slice (some ⟨nb, 0, none⟩) 1 1)).run Tryd.prog W = .ok (.string D) W := by
  have hb : Lib.BytesIn W (some ⟨nb, 0, none⟩) 1 [(x : Int)] := fun _ => ⟨nb, 0, rfl, fun i hi => by
    obtain rfl : i = 0 := by omega
    simpa using hc⟩
  rw [hb.convert rfl 1 48 5 9 Tryd.underlying48 Tryd.underlying5 Tryd.underlying9]
  have : strOfNums [(x : Int)] = ⟨#[UInt8.ofNat x]⟩ := by
    simp [strOfNums]
  rw [this, hD]

set_option maxRecDepth 100000 in
set_option maxHeartbeats 2000000 in
theorem digits59 (u : Nat) : ∀ w : World, u < 9223372036854775809 → Calls Tryd.prog 59 #[.int .u64 u] w fun e w' => e = .returned (.string (bstr (Lib.decDigits u))) ∧ Below w.heap.size w w' := by
  induction u using Nat.strongRecOn with
  | ind u ih =>
    intro w hu
    by_cases h : u < 10
    · have h1 : (u : Int) < 10 := by omega
      have cv := one_string w (48 + u) (by omega)
      rw [show ((48 + u : Nat) : Int) = 48 + (u : Int) by omega] at cv
      have HE := hid (show bstr (Lib.decDigits u) = ⟨#[UInt8.ofNat (48 + u)]⟩ by rw [Lib.decDigits_one h]; rfl)
      generalize (⟨#[UInt8.ofNat (48 + u)]⟩ : ByteArray) = D at cv HE
      clear hu ih
      go_enter Tryd.func59, Tryd.ntmps59
      go_wp2
      go_ret
      exact ⟨by rw [HE.out]; rfl, below_box _ _⟩
    · have h1 : ¬ (u : Int) < 10 := by omega
      have C := fun W => hid (ih (u / 10) (by omega) W (by omega))
      have hE : bstr (Lib.decDigits u) = bstr (Lib.decDigits (u / 10)) ++ ⟨#[UInt8.ofNat (48 + u % 10)]⟩ := by
        conv => lhs; rw [Lib.decDigits, dif_neg h]
        rw [← bstr_app]
        rfl
      have hXs : (bstr (Lib.decDigits (u / 10))).size ≤ 20 := by
        rw [bstr_size, Lib.decDigits_length]
        have := nDig_le 18 (u / 10) (by omega)
        omega
      generalize bstr (Lib.decDigits (u / 10)) = X at C hE hXs
      obtain ⟨D, hD⟩ : ∃ D : ByteArray, ⟨#[UInt8.ofNat (48 + u % 10)]⟩ = D := ⟨_, rfl⟩
      have hDs : D.size = 1 := by rw [← hD]; rfl
      have CV := hid (fun W => one_string W (48 + u % 10) (by omega))
      have hDD := hid hD
      rw [hD] at hE CV
      have HE := hid hE
      have hdv : ((u / 10 : Nat) : Int) = IntKind.u64.wrap ((u : Int) / 10) := by rw [IntKind.wrap_u64]; omega
      have hbv : ((48 + u % 10 : Nat) : Int) = IntKind.u8.wrap (48 + IntKind.u8.wrap ((u : Int).tmod 10)) := by
        rw [Int.tmod_eq_emod_of_nonneg (by omega)]
        simp only [IntKind.wrap, IntKind.bits, IntKind.signed]
        simp
        omega
      clear hu ih hD hE
      go_enter Tryd.func59, Tryd.ntmps59
      simp only [hdv] at C
      have CVG := hid (fun (W : World) (nb : Nat) (hc : W.cell? ⟨nb, 0, none⟩ = some (.int .u8 ((48 + u % 10 : Nat) : Int))) => (show (convert 48 9 (.slice (some ⟨nb, 0, none⟩) 1 1)).run Tryd.prog W = .ok (.string D) W from cell_string W nb (48 + u % 10) (by omega) hc D hDD.out))
      simp only [hbv] at CVG CV
      clear hbv hdv
      have g1 : ¬ 9223372036854775807 < X.size + 1 := by omega
      generalize hq : IntKind.u8.wrap (48 + IntKind.u8.wrap ((u : Int).tmod 10)) = bv at CVG CV
      have cv1 := CVG.out (w.alloc (.cells #[.int .u8 bv] 5)).drew w.heap.size (row_cell (heap_alloc_new w (.cells #[.int .u8 bv] 5)) 0)
      go_wp2
      go_region_law (first
        | (go_simp; go_at_call 59; refine (C _).out.mono ?_; clear C; rintro e W2 ⟨rfl, hb2⟩
           have cv3 := CV.out W2
           first
           | (have hcc := (Below.cell (p := ⟨w.heap.size, 0, none⟩) hb2 (by simp)).trans (row_cell (heap_alloc_new w (.cells #[.int .u8 bv] 5)) 0)
              have cv2 := CVG.out W2 w.heap.size (by simpa using hcc)
              have HB := hid (show Below w.heap.size w W2 from (((Below.refl _ w).alloc (Nat.le_refl _) _).drew).trans (hb2.mono (by simp)))
              clear hcc hb2)
           | (have HB := hid (show Below w.heap.size w W2 from ((Below.refl _ w).drew).trans hb2)
              clear hb2)))
      all_goals
        go_wp2
        go_ret
        exact ⟨by rw [HE.out]; rfl, (by first | exact HB.out | exact HB.out.trans ((below_box _ _).mono HB.out.size))⟩

set_option maxRecDepth 100000 in
set_option maxHeartbeats 2000000 in
/-- A number's text, by the document's own function. -/
theorem number40 (n : Int) (h0 : -9223372036854775808 ≤ n) (h1 : n ≤ 9223372036854775807) (w : World) : Calls Tryd.prog 40 #[.int .i64 n] w fun e w' => e = .returned (.string (bstr (Lib.itoa n))) ∧ Below w.heap.size w w' := by
  by_cases hn : n < 0
  · obtain ⟨u, rfl⟩ : ∃ u : Nat, n = -(u : Int) := ⟨n.natAbs, by omega⟩
    have C := hid (fun W => digits59 u W (by omega))
    rw [Lib.itoa_neg u (by omega)]
    have HE := hid (show bstr (45 :: Lib.decDigits u) = ⟨#[45]⟩ ++ bstr (Lib.decDigits u) by rw [show (⟨#[45]⟩ : ByteArray) = bstr [45] from rfl, bstr_app]; rfl)
    have hXs : (bstr (Lib.decDigits u)).size ≤ 20 := by
      rw [bstr_size, Lib.decDigits_length]
      have := nDig_le 18 u (by omega)
      omega
    generalize bstr (Lib.decDigits u) = X at C HE hXs
    have hwr : IntKind.u64.wrap (wrap64 (u : Int)) = (u : Int) := by rw [IntKind.wrap_u64]; unfold wrap64; omega
    have g1 : ¬ 9223372036854775807 < 1 + X.size := by omega
    have hu : (u : Int) ≤ 9223372036854775808 := by omega
    clear h0 h1
    go_enter Tryd.func40, Tryd.ntmps40
    go_wp2_with (first | (go_at_call 59; refine (C.out _).mono ?_; rintro e W2 ⟨rfl, hb⟩; replace hb := hid hb))
    go_ret
    exact ⟨by rw [HE.out]; rfl, hb.out⟩
  · obtain ⟨u, rfl⟩ : ∃ u : Nat, n = (u : Int) := ⟨n.toNat, by omega⟩
    have C := hid (fun W => digits59 u W (by omega))
    rw [Lib.itoa_nonneg]
    have hwr : IntKind.u64.wrap (u : Int) = (u : Int) := by rw [IntKind.wrap_u64]; omega
    generalize bstr (Lib.decDigits u) = X at C ⊢
    go_enter Tryd.func40, Tryd.ntmps40
    go_wp2_with (first | (go_at_call 59; refine (C.out _).mono ?_; rintro e W2 ⟨rfl, hb⟩; replace hb := hid hb))
    go_ret
    exact ⟨rfl, hb.out⟩
end Go.Proofs.YtdodfmgbjfhnpaaDoor
