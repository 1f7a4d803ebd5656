/- The document's small calls: of, is, may. -/
import Derived.Test.YtkodfojccodoaaaLps
namespace Go.Proofs.Ytkodfojccodoaaa.Ph
theorem lastV_skip (v : Int) (L : List Int) (k : Nat) : ∀ d, k + d ≤ L.length → (∀ j, k ≤ j → j < k + d → ¬ (L.getD j 0 = v ∨ L.getD j 0 = -v)) → lastV v (L.take (k + d)) = lastV v (L.take k) := by
  intro d
  induction d with
  | zero => intro _ _; rfl
  | succ d ih =>
    intro h1 h2
    rw [show k + (d + 1) = k + d + 1 by omega, lastV_take v (by omega), if_neg (h2 (k + d) (by omega) (by omega))]
    exact ih (by omega) (fun j a b => h2 j a (by omega))
theorem lastV_rest {v : Int} {L : List Int} {k : Nat} (hk : k ≤ L.length) (h : ∀ j, k ≤ j → j < L.length → ¬ (L.getD j 0 = v ∨ L.getD j 0 = -v)) : lastV v L = lastV v (L.take k) := by
  have := lastV_skip v L k (L.length - k) (by omega) (fun j a b => h j a (by omega))
  rwa [show k + (L.length - k) = L.length by omega, List.take_length] at this
end Go.Proofs.Ytkodfojccodoaaa.Ph
namespace Go.Proofs.Ytkodfojccodoaaa
open Go.RowKit Go.Maps
set_option linter.unusedVariables false
set_option linter.unusedSimpArgs false
set_option maxRecDepth 100000
theorem i32w {x : Int} (h1 : -2147483648 ≤ x) (h2 : x ≤ 2147483647) : IntKind.i32.wrap x = x := by rw [IntKind.wrap_i32]; omega
def OfO (v : Int) (L : List Int) (W : World) (e : Ending) (w' : World) : Prop :=
  e = .returned (.tuple #[.bool ((Ph.lastV v L).getD false), .bool (Ph.lastV v L).isSome]) ∧ Below W.heap.size W w'
set_option maxHeartbeats 4000000 in
theorem of42 {W : World} {a : Option Addr} {c : Nat} {L : List Int} (h : Lw W a L) (hl : L.length ≤ maxLen) (ln : Int) {v : Int} (h1 : 1 ≤ v) (h2 : v ≤ 1048576) :
    Calls Try.prog 42 #[.agg #[.int .i64 ln, .slice a L.length c], .int .i64 v] W fun e w' => OfO v L W e w' := by
  have hbx := below_box W (.cells #[.int .i64 ln, .slice a L.length c] 66)
  have hsh : Hid (L.length = 0) ∨ ∃ b off, a = some ⟨b, off, none⟩ := h.shape
  have HL := hid (fun (b off : Nat) (e : a = some ⟨b, off, none⟩) (j : Nat) (hj : j < L.length) => (e ▸ h.all hbx : Lw (W.alloc (.cells #[.int .i64 ln, .slice a L.length c] 66)) (some ⟨b, off, none⟩) L).at hj)
  have HR := hid (fun (k : Nat) (hk : k ≤ L.length) hh => Ph.lastV_rest (v := v) (L := L) hk hh)
  have HT := hid (fun (k : Nat) (hk : k < L.length) => Ph.lastV_take v hk)
  have c1 : (W.alloc (.cells #[.int .i64 ln, .slice a L.length c] 66)).cell? ⟨W.heap.size, 1, none⟩ = some (.slice a L.length c) := row_cell (heap_alloc_new W _) 1
  obtain ⟨t, ht⟩ : ∃ t, L.length = t := ⟨_, rfl⟩
  have HTL := hid ht
  have HTB := hid (show (t : Int) ≤ 9223372036854775807 by rw [ht] at hl; unfold maxLen at hl; omega)
  have hv32 : IntKind.i32.wrap v = v := i32w (by omega) (by omega)
  have hv32n : IntKind.i32.wrap (-v) = -v := i32w (by omega) (by omega)
  rw [ht] at hbx hsh HL HR HT c1 ⊢
  have HBX := hid hbx
  obtain ⟨W1, hW1⟩ : ∃ W1, W.alloc (.cells #[.int .i64 ln, .slice a t c] 66) = W1 := ⟨_, rfl⟩
  rw [hW1] at HBX HL c1
  have H1 := hid h1
  have hwt : wrap64 ((t : Int) - 1) = (t : Int) - 1 := by have := HTB.out; unfold wrap64; omega
  have HWT := hid hwt
  clear h hl ht hbx h1 h2
  go_enter Try.func42, Try.ntmps42
  go_wp2_with (fail)
  rcases hsh with Z | ⟨b, off, hab⟩
  case' inr => subst hab
  all_goals
    go_loopw [6] (fun i wr => ∃ k : Nat, k ≤ t ∧ i = .int .i64 ((k : Int) - 1) ∧ Hid (∀ j, k ≤ j → j < t → ¬ (L.getD j 0 = v ∨ L.getD j 0 = -v)) ∧ Hid (wr = W1)) (fun i _ => (intOf i + 1).toNat)
    case atStart => exact ⟨t, Nat.le_refl _, by first | rfl | (rw [HWT.out]), hid (fun j a b => by omega), hid (by first | rfl | exact hW1 | exact hW1.symm)⟩
    case round =>
      obtain ⟨k, hk, rfl, HI, HW⟩ := hrel
      rw [HW.out]
      clear HW
      by_cases hlt : 0 < k
      · first
          | (exfalso; have := Z.out; omega)
          | (have hge : (0 : Int) ≤ (k : Int) - 1 := by omega
             have hlt2 : (k : Int) - 1 < t := by omega
             have htn : ((k : Int) - 1).toNat = k - 1 := by omega
             have hwk : wrap64 ((k : Int) - 1 - 1) = ((k - 1 : Nat) : Int) - 1 := by have := HTB.out; unfold wrap64; omega
             obtain ⟨x0, x1, x2⟩ := HL.out b off rfl (k - 1) (by omega)
             have HTk := hid (HT.out (k - 1) (by omega))
             have HRk := hid (HR.out k hk HI.out)
             rw [show k - 1 + 1 = k by omega] at HTk
             have HJ := hid (fun (hn : ¬ (L.getD (k - 1) 0 = v ∨ L.getD (k - 1) 0 = -v)) => show ∀ j, k - 1 ≤ j → j < t → ¬ (L.getD j 0 = v ∨ L.getD j 0 = -v) from fun j h1 h2 => by
               by_cases e : j = k - 1
               · rw [e]; exact hn
               · exact HI.out j (by omega) h2)
             generalize L.getD (k - 1) 0 = x at *
             clear HI
             by_cases e1 : x = v
             · have f1 : (x == v) = true := by simp [e1]
               have HO := hid (show Ph.lastV v L = some true from by rw [HRk.out, HTk.out, if_pos (.inl e1)]; congr 1; exact decide_eq_true (by have := H1.out; omega))
               clear e1 HTk HRk HJ
               go_wp2_with (fail)
               go_ret2
               exact ⟨by rw [HO.out]; rfl, HBX.out⟩
             · have f1 : (x == v) = false := by simp [e1]
               by_cases e2 : x = -v
               · have f2 : (x == -v) = true := by simp [e2]
                 have HO := hid (show Ph.lastV v L = some false from by rw [HRk.out, HTk.out, if_pos (.inr e2)]; congr 1; exact decide_eq_false (by have := H1.out; omega))
                 clear e1 e2 HTk HRk HJ
                 go_wp2_with (fail)
                 go_ret2
                 exact ⟨by rw [HO.out]; rfl, HBX.out⟩
               · have f2 : (x == -v) = false := by simp [e2]
                 have HJ2 := hid (HJ.out (fun h => by rcases h with h | h; exact e1 h; exact e2 h))
                 have HWK := hid hwk
                 clear e1 e2 HTk HRk HJ hwk
                 go_wp2_with (fail)
                 exact ⟨⟨k - 1, by omega, by first | (rw [HWK.out]) | (congr 1; omega), HJ2, by first | exact hid rfl | exact hid trivial⟩, by simp only [intOf]; first | omega | (rw [HWK.out]; omega)⟩)
      · have hge : ¬ (0 : Int) ≤ (k : Int) - 1 := by omega
        have HO := hid (show Ph.lastV v L = none from by
          have := HR.out k hk HI.out
          rw [this, show k = 0 by omega]; rfl)
        clear HI
        go_wp2_with (fail)
        go_ret2
        exact ⟨by rw [HO.out]; rfl, HBX.out⟩
end Go.Proofs.Ytkodfojccodoaaa
