/- Sorting in place: a range turned about. -/
import Derived.Test.YtjbnkkjihcoojaaSo
namespace Go.Proofs.Ytjbnkkjihcoojaa
open Go.RowKit Go.Maps
set_option linter.unusedVariables false
set_option maxRecDepth 100000

def PermOut (B : World) (blk cap : Nat) (sv : Value) (n : Nat) (sc : List Int) (ds : List Nat) (a b : Nat) (w' : World) : Prop := ∃ ds', So B blk cap sv n sc ds' w' ∧ Hpp.PI a b ds' ds
set_option maxHeartbeats 2000000 in
theorem rev65 {B : World} {blk cap : Nat} {sv : Value} {n : Nat} {sc : List Int} {ds : List Nat} {W : World} (h : So B blk cap sv n sc ds W) (hn : n ≤ 1048576) {a b m : Nat} (hm : ds.length = m) (hml : m ≤ 1048576) (ha : a < b) (hb : b ≤ m) :
    Calls Try.prog 65 #[.slice (some ⟨blk, 0, none⟩) m cap, .int .i64 a, .int .i64 b, cmpv sv] W fun e w' => e = .returned (.tuple #[]) ∧ PermOut B blk cap sv n sc ds a b w' := by
  have HH := hid h
  have HM := hid hm
  clear h hm
  obtain ⟨b1, hb1⟩ : ∃ b1 : Nat, (b : Int) - 1 = (b1 : Int) := ⟨b - 1, by omega⟩
  go_enter Try.func65, Try.ntmps65
  go_wp2
  go_loopw [8, 9] (fun iv jv wr => ∃ (i j : Nat) (d1 : List Nat), a ≤ i ∧ j < b ∧ i ≤ j + 1 ∧ i ≤ b ∧ iv = .int .i64 (i : Nat) ∧ jv = .int .i64 (j : Nat) ∧ Hid (d1.length = m ∧ So B blk cap sv n sc d1 wr ∧ Hpp.PI a b d1 ds)) (fun iv jv _ => b - (intOf iv).toNat)
  case atStart => exact ⟨a, b1, ds, Nat.le_refl _, by omega, by omega, by omega, rfl, rfl, hid ⟨HM.out, HH.out, Hpp.PI.refl _ _ _⟩⟩
  case round =>
    obtain ⟨i, j, d1, hi1, hj1, hij, hib, rfl, rfl, HR⟩ := hrel
    by_cases hlt : i < j
    · have hlt' : (i : Int) < j := by omega
      obtain ⟨c1, f1, l1⟩ := HR.out.2.1.cells (k := i) (by rw [HR.out.1]; omega)
      obtain ⟨c2, f2, l2⟩ := HR.out.2.1.cells (k := j) (by rw [HR.out.1]; omega)
      have HS := hid (fun q => (HR.out.2.1.below (Drawn.below ⟨q, rfl⟩)).swap (W := wr.drewN q) (i := i) (j := j) (by rw [HR.out.1]; omega) (by rw [HR.out.1]; omega))
      have HP := hid (show Hpp.PI a b (Hpp.swp d1 i j) ds from (Hpp.PI.swp (by omega) (by omega) (by rw [HR.out.1]; exact hb)).trans HR.out.2.2)
      have him : (i : Int) < m := by omega
      have hjm : (j : Int) < m := by omega
      have hne1 : ¬ i = j := by omega
      have hne2 : ¬ j = i := by omega
      obtain ⟨j', hj'⟩ : ∃ j' : Nat, (j : Int) - 1 = (j' : Int) := ⟨j - 1, by omega⟩
      generalize d1.getD i 0 = x at *
      generalize d1.getD j 0 = y at *
      go_wp2_with (fail)
      go_region
      all_goals
        have HS2 := hid (HS.out 1)
        go_wp2
        go_roundw
        case rel => exact ⟨i + 1, j', _, by omega, by omega, by omega, by omega, by go_num, rfl, hid ⟨by rw [Hpp.swp_len]; exact HR.out.1, HS2.out, HP.out⟩⟩
        case measure => simp only [intOf]; omega
    · have hge : ¬ (i : Int) < j := by omega
      have HO := hid (show PermOut B blk cap sv n sc ds a b wr from ⟨d1, HR.out.2.1, HR.out.2.2⟩)
      go_wp2
      go_end0
      exact ⟨rfl, HO.out⟩
end Go.Proofs.Ytjbnkkjihcoojaa
