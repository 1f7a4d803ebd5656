/- The statement's own function CnfNormal answers true: the walk. -/
import Derived.Test.YtccbcijkahnkkaaResl
import Derived.Test.YtccbcijkahnkkaaWorks
import Derived.Deep.DeepCutAuto
namespace Cnf

theorem val_nrm {xs ys : List Int} (m : List Bool) (h : Nrm xs ys) : val ys m = val xs m := by
  rw [Bool.eq_iff_iff, val_iff, val_iff]
  exact ⟨fun ⟨l, hl, t⟩ => ⟨l, (h.2 l).1 hl, t⟩, fun ⟨l, hl, t⟩ => ⟨l, (h.2 l).2 hl, t⟩⟩
theorem both_iff (xs : List Int) : both xs = true ↔ ∃ x ∈ xs, 0 < x ∧ -x ∈ xs := by simp [both]
theorem both_nrm {xs ys : List Int} (h : Nrm xs ys) : both ys = both xs := by
  rw [Bool.eq_iff_iff, both_iff, both_iff]
  exact ⟨fun ⟨x, h1, h2, h3⟩ => ⟨x, (h.2 x).1 h1, h2, (h.2 _).1 h3⟩, fun ⟨x, h1, h2, h3⟩ => ⟨x, (h.2 x).2 h1, h2, (h.2 _).2 h3⟩⟩
theorem sub_nrm {xs ys : List Int} (h : Nrm xs ys) : (sub xs ys && sub ys xs) = true := by
  rw [Bool.and_eq_true, sub_iff, sub_iff]
  exact ⟨fun x hx => (h.2 x).2 hx, fun x hx => (h.2 x).1 hx⟩
theorem nrm_self {xs ys : List Int} (h : Nrm xs ys) : Nrm ys ys := ⟨h.1, fun _ => Iff.rfl⟩

/-- Has each literal's variable a value in a model of so many? -/
def full (xs : List Int) (n : Nat) : Bool := xs.all (fun x => decide (1 ≤ vr x) && decide (vr x ≤ n))
theorem full_take (xs : List Int) (n k : Nat) (h : k < xs.length) : full (xs.take (k + 1)) n = (full (xs.take k) n && (decide (1 ≤ vr (xs.getD k 0)) && decide (vr (xs.getD k 0) ≤ n))) := by
  rw [take_snoc xs k h]; simp [full]
theorem full_iff (xs : List Int) (n : Nat) : full xs n = true ↔ ∀ x ∈ xs, 1 ≤ vr x ∧ vr x ≤ n := by simp [full]

theorem tr_or (x : Int) (m : List Bool) (h0 : 0 < x) (h : vr x ≤ m.length) : tr x m = true ∨ tr (-x) m = true := by
  unfold tr vr at *
  have e1 : ¬ x < 0 := by omega
  have e2 : 1 ≤ x := by omega
  simp [e1, e2, h0] at h ⊢
  cases m[(x - 1).toNat]?.getD false <;> simp [h]

theorem val_both {xs : List Int} {m : List Bool} (hb : both xs = true) (hf : full xs m.length = true) : val xs m = true := by
  obtain ⟨x, h1, h2, h3⟩ := (both_iff xs).1 hb
  have := (full_iff _ _).1 hf x h1
  rcases tr_or x m h2 this.2 with h | h
  · exact (val_iff _ _).2 ⟨x, h1, h⟩
  · exact (val_iff _ _).2 ⟨-x, h3, h⟩

theorem lt_near {ys : List Int} (h : ys.Pairwise LtL) (k : Nat) (hk : k + 1 < ys.length) : LtL (ys.getD k 0) (ys.getD (k + 1) 0) := by
  have := List.pairwise_iff_getElem.1 h k (k + 1) (by omega) hk (by omega)
  simpa [List.getD, List.getElem?_eq_getElem hk, List.getElem?_eq_getElem (show k < ys.length by omega)] using this

end Cnf
namespace Go.Proofs.Ytccbcijkahnkkaa
open Go.RowKit
set_option linter.unusedVariables false

set_option maxHeartbeats 4000000 in
set_option maxRecDepth 100000 in
theorem normal6_small (a am : Option Addr) (n cap nm capm : Nat) (xs : List Int) (m : List Bool) (w : World) (hn : xs.length = n) (hnm : m.length = nm) (hx : Lits w a xs) (hm : Bools w am m)
    (h1 : ¬ (300 : Int) < (n : Int)) (h2 : ¬ (3000 : Int) < (nm : Int)) :
    Calls Try.prog 6 #[.slice a n cap, .slice am nm capm] w fun e w' => e = .returned (.bool true) ∧ Below w.heap.size w w' := by
  have R := hid (normal16 a n cap xs w hn (by omega) hx)
  have HX := hid hx
  have HM := hid hm
  have HN := hid hn
  have HNM := hid hnm
  have HBD := hid hx.1
  clear hx hm hn hnm
  go_enter Try.func6, Try.ntmps6
  go_wp2_with fail
  refine R.out.mono ?_
  rintro e w1 ⟨v1, ys, rfl, hN1, hO1, hB1, hl1⟩
  obtain ⟨a1, cap1, rfl, hL1⟩ := own_at (fun x hx => HBD.out x ((hN1.2 x).1 hx)) hO1
  have R2 := hid (normal16 a1 ys.length cap1 ys w1 rfl (by omega) hL1)
  have HB1 := hid hB1
  have HN1 := hid hN1
  have HL1 := hid hL1
  clear R hN1 hO1 hB1 hL1
  go_wp2_with fail
  refine R2.out.mono ?_
  rintro e w2 ⟨v2, zs, rfl, hN2, hO2, hB2, hl2⟩
  obtain rfl : zs = ys := hN2.unique (Cnf.nrm_self HN1.out)
  obtain ⟨a2, cap2, rfl, hL2⟩ := own_at (fun x hx => HBD.out x ((HN1.out.2 x).1 hx)) hO2
  rw [Cnf.both_nrm HN1.out]
  have HB2 := hid (HB1.out.trans (hB2.mono HB1.out.size))
  have HL1' := hid (HL1.out.below hB2)
  have HL2 := hid hL2
  clear R2 hN2 hO2 hB2 hL2 HL1 hl2
  have FX : Hid (∀ W, Below w2.heap.size w2 W → Lits W a xs) := fun W hW => (HX.out.below HB2.out).below hW
  have FM : Hid (∀ W, Below w2.heap.size w2 W → Bools W am m) := fun W hW => (HM.out.below HB2.out).below hW
  generalize hny : zs.length = ny at *
  have HNY := hid hny
  clear hny HX HM HB1
  go_wp2
  go_loopw [9, 10, 11] (fun i _ _ wr => ∃ k : Nat, 1 ≤ k ∧ (k ≤ ny ∨ k = 1) ∧ i = .int .i64 k ∧ Drawn w2 wr) (fun i _ _ _ => ny + 1 - (intOf i).toNat)
  case atStart => exact ⟨1, Nat.le_refl _, .inr rfl, rfl, Drawn.refl _⟩
  case round =>
    obtain ⟨k, hk1, hk2, rfl, HD⟩ := hrel
    by_cases hlt : k < ny
    · obtain ⟨j, rfl⟩ : ∃ j, k = j + 1 := ⟨k - 1, by omega⟩
      obtain ⟨b1, o1, rfl, hc1, hx1, hx2⟩ := HL1'.out.at (k := j) (by rw [HNY.out]; omega)
      obtain ⟨b2, o2, e2, hc2, hy1, hy2⟩ := HL1'.out.at (k := j + 1) (by rw [HNY.out]; exact hlt)
      simp only [Option.some.injEq, Addr.mk.injEq] at e2
      obtain ⟨rfl, rfl, _⟩ := e2
      have hL := Cnf.lt_near HN1.out.1 j (by rw [HNY.out]; exact hlt)
      rw [← HD.cell] at hc1 hc2
      generalize zs.getD j 0 = x at hc1 hx1 hx2 hL
      generalize zs.getD (j + 1) 0 = y at hc2 hy1 hy2 hL
      have hwj : IntKind.i64.wrap (j : Int) = j := by simp [IntKind.wrap, IntKind.bits, IntKind.signed]; omega
      have hi1 : (j : Int) < (ny : Int) := by omega
      have hi2 : (j : Int) + 1 < (ny : Int) := by omega
      have CX : Hid (∀ W, Calls Try.prog 25 #[.int .i32 x] W fun e w' => e = .returned (.int .i64 (Cnf.vr x)) ∧ w' = W) := fun W => var25 x W hx1 hx2
      have CY : Hid (∀ W, Calls Try.prog 25 #[.int .i32 y] W fun e w' => e = .returned (.int .i64 (Cnf.vr y)) ∧ w' = W) := fun W => var25 y W hy1 hy2
      have hL' : Cnf.vr x < Cnf.vr y ∨ (Cnf.vr x = Cnf.vr y ∧ x < y) := hL
      clear hL
      generalize Cnf.vr x = p at *
      generalize Cnf.vr y = q at *
      rcases hL' with h | ⟨h, h'⟩
      · have hd1 : decide (q < p) = false := by simp; omega
        have hd2 : (p == q) = false := by simp; omega
        clear h
        go_wp2
        go_quiet (first | (go_at_call_of 25 (Value.int .i32 x); exact Calls.quiet_of_same (CX.out _)) | (go_at_call_of 25 (Value.int .i32 y); exact Calls.quiet_of_same (CY.out _)))
        go_wp2_with fail
        go_quiet (fail)
        go_wp2
        go_roundw
        case rel => exact ⟨j + 1 + 1, by omega, by omega, by go_num, HD.drewN _⟩
        case measure => simp [intOf]; omega
      · subst h
        have hd1 : decide (p < p) = false := by simp
        have hd2 : (p == p) = true := by simp
        have hd3 : decide (y ≤ x) = false := by simp; omega
        clear h'
        go_wp2
        go_quiet (first | (go_at_call_of 25 (Value.int .i32 x); exact Calls.quiet_of_same (CX.out _)) | (go_at_call_of 25 (Value.int .i32 y); exact Calls.quiet_of_same (CY.out _)))
        go_wp2_with fail
        go_quiet (fail)
        go_wp2
        go_roundw
        case rel => exact ⟨j + 1 + 1, by omega, by omega, by go_num, HD.drewN _⟩
        case measure => simp [intOf]; omega
    · go_wp2
      have VX := hid (FX.out wr HD.below')
      have VM := hid (FM.out wr HD.below')
      have SL1 := hid (HD.lits HL1'.out)
      have SL2 := hid (HD.lits HL2.out)
      have SB := hid (HD.below HB2.out)
      clear hlt hk1 hk2 HD FX FM HL1' HL2 HB2
      go_loop [12, 13, 14] (fun f i _ => ∃ k : Nat, k ≤ n ∧ i = .int .i64 k ∧ f = .bool (Cnf.full (xs.take k) nm)) (fun _ i _ => n - (intOf i).toNat)
      case atStart => exact ⟨0, Nat.zero_le _, rfl, rfl⟩
      case round =>
        obtain ⟨k, hk, rfl, rfl⟩ := hrel
        by_cases hlt : k < n
        · obtain ⟨b1, o1, rfl, hc1, hx1, hx2⟩ := VX.out.at (k := k) (by rw [HN.out]; exact hlt)
          have HS := hid (Cnf.full_take xs nm k (by rw [HN.out]; exact hlt))
          generalize xs.getD k 0 = x at hc1 hx1 hx2 HS
          have CX := hid (var25 x wr hx1 hx2)
          have hv0 := Cnf.vr_nonneg x
          have hv1 := Cnf.vr_le x hx1 hx2
          generalize Cnf.vr x = p at CX HS hv0 hv1
          generalize Cnf.full (xs.take k) nm = f at HS
          cases f
          · have HT : Hid (Cnf.full (xs.take (k + 1)) nm = false) := by
              have h := HS.out
              show _ = _
              rw [h]; rfl
            clear HS
            go_wp2_with (go_at_call 25; refine CX.out.mono ?_; rintro e w' ⟨rfl, rfl⟩)
            go_round
            case rel => exact ⟨k + 1, by omega, by go_num, by rw [HT.out]⟩
            case measure => simp [intOf]; omega
          · by_cases hp1 : 1 ≤ p
            · by_cases hp2 : p ≤ nm
              · have HT : Hid (Cnf.full (xs.take (k + 1)) nm = true) := by
                  have h := HS.out
                  show _ = _
                  rw [h]; simp [hp1, hp2]
                clear HS
                go_wp2_with (go_at_call 25; refine CX.out.mono ?_; rintro e w' ⟨rfl, rfl⟩)
                go_round
                case rel => exact ⟨k + 1, by omega, by go_num, by rw [HT.out]⟩
                case measure => simp [intOf]; omega
              · have HT : Hid (Cnf.full (xs.take (k + 1)) nm = false) := by
                  have h := HS.out
                  show _ = _
                  rw [h]; simp [hp2]
                clear HS
                go_wp2_with (go_at_call 25; refine CX.out.mono ?_; rintro e w' ⟨rfl, rfl⟩)
                go_round
                case rel => exact ⟨k + 1, by omega, by go_num, by rw [HT.out, show decide (p ≤ (nm : Int)) = false from by simp; omega]⟩
                case measure => simp [intOf]; omega
            · have HT : Hid (Cnf.full (xs.take (k + 1)) nm = false) := by
                have h := HS.out
                show _ = _
                rw [h]; simp [hp1]
              clear HS
              go_wp2_with (go_at_call 25; refine CX.out.mono ?_; rintro e w' ⟨rfl, rfl⟩)
              go_round
              case rel => exact ⟨k + 1, by omega, by go_num, by rw [HT.out]⟩
              case measure => simp [intOf]; omega
        · rw [List.take_of_length_le (by rw [HN.out]; omega)]
          have E1 : Hid (Calls Try.prog 20 #[.slice a1 ny cap1, .slice a2 ny cap2] wr fun e w' => e = .returned (.bool true) ∧ Drawn wr w') :=
            (same20 a1 a2 ny cap1 ny cap2 zs zs wr HNY.out HNY.out (by omega) (by omega) SL1.out SL2.out).mono fun _ _ ⟨he, hd⟩ => ⟨by rw [he]; simp, hd⟩
          have E2 : Hid (∀ W, Below wr.heap.size wr W → Calls Try.prog 21 #[.slice a n cap, .slice a1 ny cap1] W fun e w' => e = .returned (.bool true) ∧ Below wr.heap.size wr w') := fun W hW =>
            (same21 a a1 n cap ny cap1 xs zs W HN.out HNY.out (by omega) (by omega) (VX.out.below hW) (SL1.out.below hW)).mono fun _ _ ⟨he, hb⟩ => ⟨by rw [he, Cnf.sub_nrm HN1.out], hW.trans (hb.mono hW.size)⟩
          have E3 : Hid (∀ W, Below wr.heap.size wr W → Calls Try.prog 27 #[.slice a n cap, .slice am nm capm] W fun e w' => e = .returned (.bool (Cnf.val xs m)) ∧ w' = W) := fun W hW =>
            value27 a am n cap nm capm xs m W HN.out (by omega) HNM.out (by omega) (VX.out.below hW) (VM.out.below hW)
          have E4 : Hid (∀ W, Below wr.heap.size wr W → Calls Try.prog 27 #[.slice a1 ny cap1, .slice am nm capm] W fun e w' => e = .returned (.bool (Cnf.val xs m)) ∧ w' = W) := fun W hW =>
            (value27 a1 am ny cap1 nm capm zs m W HNY.out (by omega) HNM.out (by omega) (SL1.out.below hW) (VM.out.below hW)).mono fun _ _ ⟨he, hb⟩ => ⟨by rw [he, Cnf.val_nrm m HN1.out], hb⟩
          have HV : Hid (Cnf.both xs = true → Cnf.full xs nm = true → Cnf.val xs m = true) := fun p q => Cnf.val_both p (by rw [HNM.out]; exact q)
          clear HN1 VX VM SL1 SL2 HBD
          generalize Cnf.both xs = bo at *
          generalize Cnf.full xs nm = fu at *
          generalize Cnf.val xs m = va at *
          cases bo
          · go_wp2_with fail
            refine E1.out.mono ?_
            rintro e w3 ⟨rfl, D3⟩
            have G3 := hid D3.below'
            clear D3
            have hbb : (false == false) = true := rfl
            go_wp2_with fail
            refine (E2.out _ G3.out).mono ?_
            rintro e w4 ⟨rfl, h4⟩
            have G4 := hid h4
            clear h4
            go_wp2_with fail
            refine (E3.out _ G4.out).mono ?_
            rintro e w' ⟨rfl, rfl⟩
            go_wp2_with fail
            refine (E4.out _ G4.out).mono ?_
            rintro e w' ⟨rfl, rfl⟩
            have hvv : (va == va) = true := by cases va <;> rfl
            go_wp2_with fail
            refine (works14 _).mono ?_
            rintro e w9 ⟨rfl, hb9⟩
            have HB9 := hid ((SB.out.trans (G4.out.mono SB.out.size)).trans (hb9.mono (Nat.le_trans SB.out.size G4.out.size)))
            clear hb9
            go_wp2
            go_ret
            exact ⟨rfl, HB9.out⟩
          · cases fu
            · go_wp2_with fail
              refine E1.out.mono ?_
              rintro e w3 ⟨rfl, D3⟩
              have G3 := hid D3.below'
              clear D3
              have hbb : (true == true) = true := rfl
              go_wp2_with fail
              refine (E2.out _ G3.out).mono ?_
              rintro e w4 ⟨rfl, h4⟩
              have G4 := hid h4
              clear h4
              go_wp2_with fail
              refine (E3.out _ G4.out).mono ?_
              rintro e w' ⟨rfl, rfl⟩
              go_wp2_with fail
              refine (E4.out _ G4.out).mono ?_
              rintro e w' ⟨rfl, rfl⟩
              have hvv : (va == va) = true := by cases va <;> rfl
              go_wp2_with fail
              refine (works14 _).mono ?_
              rintro e w9 ⟨rfl, hb9⟩
              have HB9 := hid ((SB.out.trans (G4.out.mono SB.out.size)).trans (hb9.mono (Nat.le_trans SB.out.size G4.out.size)))
              clear hb9
              go_wp2
              go_ret
              exact ⟨rfl, HB9.out⟩
            · obtain rfl : va = true := HV.out rfl rfl
              go_wp2_with fail
              refine E1.out.mono ?_
              rintro e w3 ⟨rfl, D3⟩
              have G3 := hid D3.below'
              clear D3
              have hbb : (true == true) = true := rfl
              go_wp2_with fail
              refine (E2.out _ G3.out).mono ?_
              rintro e w4 ⟨rfl, h4⟩
              have G4 := hid h4
              clear h4
              go_wp2_with fail
              refine (E3.out _ G4.out).mono ?_
              rintro e w' ⟨rfl, rfl⟩
              go_wp2_with fail
              refine (E4.out _ G4.out).mono ?_
              rintro e w' ⟨rfl, rfl⟩
              go_wp2_with fail
              refine (E3.out _ G4.out).mono ?_
              rintro e w' ⟨rfl, rfl⟩
              go_wp2_with fail
              refine (works14 _).mono ?_
              rintro e w9 ⟨rfl, hb9⟩
              have HB9 := hid ((SB.out.trans (G4.out.mono SB.out.size)).trans (hb9.mono (Nat.le_trans SB.out.size G4.out.size)))
              clear hb9
              go_wp2
              go_ret
              exact ⟨rfl, HB9.out⟩

set_option maxHeartbeats 1000000 in
theorem normal6_great (a am : Option Addr) (n cap nm capm : Nat) (w : World) (h : (300 : Int) < (n : Int) ∨ (3000 : Int) < (nm : Int)) :
    Calls Try.prog 6 #[.slice a n cap, .slice am nm capm] w fun e w' => e = .returned (.bool true) ∧ Below w.heap.size w w' := by
  by_cases h1 : (300 : Int) < (n : Int)
  · clear h
    go_enter Try.func6, Try.ntmps6
    go_wp2
    go_ret
    exact ⟨rfl, Below.refl _ _⟩
  have h3 : (3000 : Int) < (nm : Int) := by omega
  clear h
  go_enter Try.func6, Try.ntmps6
  go_wp2
  go_ret
  exact ⟨rfl, Below.refl _ _⟩

theorem normal6 (a am : Option Addr) (n cap nm capm : Nat) (xs : List Int) (m : List Bool) (w : World) (hn : xs.length = n) (hnm : m.length = nm) (hx : Lits w a xs) (hm : Bools w am m) :
    Calls Try.prog 6 #[.slice a n cap, .slice am nm capm] w fun e w' => e = .returned (.bool true) ∧ Below w.heap.size w w' := by
  by_cases h : (300 : Int) < (n : Int) ∨ (3000 : Int) < (nm : Int)
  · exact normal6_great a am n cap nm capm w h
  · exact normal6_small a am n cap nm capm xs m w hn hnm hx hm (by omega) (by omega)

end Go.Proofs.Ytccbcijkahnkkaa
