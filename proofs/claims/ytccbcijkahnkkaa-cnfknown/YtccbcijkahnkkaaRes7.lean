/- The statement's own function CnfResolves answers true: the walk. -/
import Derived.Test.YtccbcijkahnkkaaResl
import Derived.Test.YtccbcijkahnkkaaWorks
import Derived.Deep.DeepCutAuto
namespace Go.Proofs.Ytccbcijkahnkkaa
open Go.RowKit
set_option linter.unusedVariables false

set_option maxHeartbeats 4000000 in
set_option maxRecDepth 100000 in
theorem resolves7_small (a b am : Option Addr) (na ca nb cb nm capm : Nat) (xa xb : List Int) (v : Int) (m : List Bool) (w : World) (hna : xa.length = na) (hnb : xb.length = nb) (hnm : m.length = nm) (ha : Lits w a xa) (hb : Lits w b xb) (hm : Bools w am m)
    (h1 : ¬ (300 : Int) < (na : Int)) (h2 : ¬ (300 : Int) < (nb : Int)) (h3 : ¬ (3000 : Int) < (nm : Int)) :
    Calls Try.prog 7 #[.slice a na ca, .slice b nb cb, .int .i64 v, .slice am nm capm] w fun e w' => e = .returned (.bool true) ∧ Below w.heap.size w w' := by
  have R := hid (resolve18 a b na ca nb cb xa xb v w hna hnb (by omega) (by omega) ha hb)
  have VA : Hid (∀ W, Below w.heap.size w W → Calls Try.prog 27 #[.slice a na ca, .slice am nm capm] W fun e w' => e = .returned (.bool (Cnf.val xa m)) ∧ w' = W) := fun W hW => value27 a am na ca nm capm xa m W hna (by omega) hnm (by omega) (ha.below hW) (hm.below hW)
  have VB : Hid (∀ W, Below w.heap.size w W → Calls Try.prog 27 #[.slice b nb cb, .slice am nm capm] W fun e w' => e = .returned (.bool (Cnf.val xb m)) ∧ w' = W) := fun W hW => value27 b am nb cb nm capm xb m W hnb (by omega) hnm (by omega) (hb.below hW) (hm.below hW)
  have HM : Hid (∀ W, Below w.heap.size w W → Bools W am m) := fun W hW => hm.below hW
  have HNM := hid hnm
  have SAB : Hid (∀ W, Below w.heap.size w W → Calls Try.prog 23 #[.slice a na ca, .slice b nb cb] W fun e w' => e = .returned (.bool (Cnf.sub xa xb)) ∧ Below w.heap.size w w') := fun W hW =>
    (subsumes23 a b na ca nb cb xa xb W hna hnb (by omega) (by omega) (ha.below hW) (hb.below hW)).mono fun _ _ ⟨he, hb⟩ => ⟨he, hW.trans (hb.mono hW.size)⟩
  have SBA : Hid (∀ W, Below w.heap.size w W → Calls Try.prog 23 #[.slice b nb cb, .slice a na ca] W fun e w' => e = .returned (.bool (Cnf.sub xb xa)) ∧ Below w.heap.size w w') := fun W hW =>
    (subsumes23 b a nb cb na ca xb xa W hnb hna (by omega) (by omega) (hb.below hW) (ha.below hW)).mono fun _ _ ⟨he, hb⟩ => ⟨he, hW.trans (hb.mono hW.size)⟩
  have SNA : Hid (∀ W, Below w.heap.size w W → Calls Try.prog 23 #[.slice none 0 0, .slice a na ca] W fun e w' => e = .returned (.bool true) ∧ Below w.heap.size w w') := fun W hW =>
    (subsumes23 none a 0 0 na ca [] xa W rfl hna (by omega) (by omega) ⟨(fun x hx => by simp at hx), .inl rfl⟩ (ha.below hW)).mono fun _ _ ⟨he, hb⟩ => ⟨he, hW.trans (hb.mono hW.size)⟩
  have TAB : Hid (∀ W, Below w.heap.size w W → Calls Try.prog 21 #[.slice a na ca, .slice b nb cb] W fun e w' => e = .returned (.bool (Cnf.sub xa xb && Cnf.sub xb xa)) ∧ Below w.heap.size w w') := fun W hW =>
    (same21 a b na ca nb cb xa xb W hna hnb (by omega) (by omega) (ha.below hW) (hb.below hW)).mono fun _ _ ⟨he, hb⟩ => ⟨he, hW.trans (hb.mono hW.size)⟩
  have TAA : Hid (∀ W, Below w.heap.size w W → Calls Try.prog 21 #[.slice a na ca, .slice a na ca] W fun e w' => e = .returned (.bool true) ∧ Below w.heap.size w w') := fun W hW =>
    (same21 a a na ca na ca xa xa W hna hna (by omega) (by omega) (ha.below hW) (ha.below hW)).mono fun _ _ ⟨he, hb⟩ => ⟨by rw [he, Cnf.sub_refl]; rfl, hW.trans (hb.mono hW.size)⟩
  have hbd := hid (And.intro ha.1 hb.1)
  have HS : Hid (Cnf.sub xa xb = true → Cnf.val xa m = true → Cnf.val xb m = true) := fun p q => Cnf.val_sub p q
  have HR : Hid (∀ ys, Cnf.canRes xa xb v = true → Cnf.Nrm (Cnf.rest xa xb v) ys → Cnf.val xa m = true → Cnf.val xb m = true → Cnf.val ys m = true) := fun ys p q r s => Cnf.val_resolved p q r s
  have HRB : Hid (∀ x ∈ Cnf.rest xa xb v, -2147483648 ≤ x ∧ x ≤ 2147483647) := by
    intro x hx
    unfold Cnf.rest at hx
    split at hx
    · rcases List.mem_append.1 hx with h | h
      · exact ha.1 x ((Cnf.mem_but _ _ _).1 h).1
      · exact hb.1 x ((Cnf.mem_but _ _ _).1 h).1
    · simp at hx
  clear ha hb hm hna hnb hnm hbd
  generalize Cnf.sub xa xb = p at *
  generalize Cnf.sub xb xa = q at *
  go_enter Try.func7, Try.ntmps7
  go_wp2_with fail
  refine R.out.mono ?_
  rintro e w1 ⟨vc, ys, rfl, hN, hO, hB, hl⟩
  obtain ⟨ac, capc, rfl, hL⟩ := own_at (fun x hx => HRB.out x ((hN.2 x).1 hx)) hO
  have HB := hid hB
  have VC := hid (value27 ac am ys.length capc nm capm ys m w1 rfl (by omega) HNM.out (by omega) hL (HM.out w1 hB))
  have HV := hid (HR.out ys · hN)
  have HE : Hid (Cnf.errRes xa xb v = 0 ∧ Cnf.canRes xa xb v = true ∨ Cnf.errRes xa xb v = 2) := by
    show _ ∨ _
    unfold Cnf.errRes
    cases Cnf.canRes xa xb v <;> simp
  clear hN hO hB hl hL R HR HRB HM
  generalize Cnf.val xa m = va at *
  generalize Cnf.val xb m = vb at *
  generalize Cnf.val ys m = vc at *
  generalize Cnf.both (Cnf.rest xa xb v) = bo at *
  generalize Cnf.errRes xa xb v = er at *
  generalize ys.length = ny at *
  go_upto_region 4 with fail
  go_cut [56] (fun s wc => s = .bool false ∧ wc = w1)
  case first =>
    by_cases he : er = 0
    · have hv : va = true → vb = true → vc = true := by
        rcases HE.out with ⟨_, hc⟩ | h
        · exact fun x y => HV.out hc x y
        · omega
      have hh : (er == 0) = true := by simp [he]
      subst he
      clear HE HV hh
      by_cases hvm : v ≤ nm
      · cases va
        · clear hv
          go_wp2_with (go_at_call 27; refine (VA.out _ HB.out).mono ?_; rintro e w' ⟨rfl, rfl⟩)
          go_meet
          case rel => exact ⟨rfl, rfl⟩
        · cases vb
          · clear hv
            go_wp2_with fail
            refine (VA.out _ HB.out).mono ?_
            rintro e w' ⟨rfl, rfl⟩
            go_wp2_with fail
            refine (VB.out _ HB.out).mono ?_
            rintro e w' ⟨rfl, rfl⟩
            go_wp2_with fail
            go_meet
            case rel => exact ⟨rfl, rfl⟩
          · obtain rfl : vc = true := hv rfl rfl
            clear hv
            go_wp2_with fail
            refine (VA.out _ HB.out).mono ?_
            rintro e w' ⟨rfl, rfl⟩
            go_wp2_with fail
            refine (VB.out _ HB.out).mono ?_
            rintro e w' ⟨rfl, rfl⟩
            go_wp2_with fail
            refine VC.out.mono ?_
            rintro e w' ⟨rfl, rfl⟩
            go_wp2_with fail
            go_meet
            case rel => exact ⟨rfl, rfl⟩
      · clear hv
        go_wp2_with fail
        go_meet
        case rel => exact ⟨rfl, rfl⟩
    · have hh : (er == 0) = false := by simp [he]
      clear he HE HV
      go_wp2_with fail
      go_meet
      case rel => exact ⟨rfl, rfl⟩
  case rest =>
    obtain ⟨rfl, rfl⟩ := hcut
    clear HE HV VC
    go_upto_region 6 with fail
    go_cut [70] (fun s wc2 => s = .bool false ∧ Below w.heap.size w wc2)
    case first =>
      cases p
      · go_wp2_with fail
        refine (SAB.out _ HB.out).mono ?_
        rintro e w2 ⟨rfl, hb2⟩
        have HB2 := hid hb2
        clear hb2
        go_wp2_with fail
        go_meet
        case rel => exact ⟨rfl, HB2.out⟩
      · cases va
        · go_wp2_with fail
          refine (SAB.out _ HB.out).mono ?_
          rintro e w2 ⟨rfl, hb2⟩
          have HB2 := hid hb2
          clear hb2
          go_wp2_with fail
          refine (VA.out _ HB2.out).mono ?_
          rintro e w' ⟨rfl, rfl⟩
          go_wp2_with fail
          go_meet
          case rel => exact ⟨rfl, HB2.out⟩
        · obtain rfl : vb = true := HS.out rfl rfl
          go_wp2_with fail
          refine (SAB.out _ HB.out).mono ?_
          rintro e w2 ⟨rfl, hb2⟩
          have HB2 := hid hb2
          clear hb2
          go_wp2_with fail
          refine (VA.out _ HB2.out).mono ?_
          rintro e w' ⟨rfl, rfl⟩
          go_wp2_with fail
          refine (VB.out _ HB2.out).mono ?_
          rintro e w' ⟨rfl, rfl⟩
          go_wp2_with fail
          go_meet
          case rel => exact ⟨rfl, HB2.out⟩
    case rest =>
      obtain ⟨rfl, hb2⟩ := hcut
      have HB2 := hid hb2
      clear hb2 HS VA VB HB
      go_upto_region 8 with fail
      go_cut [93] (fun s wc3 => s = .bool false ∧ Below w.heap.size w wc3)
      case first =>
        go_wp2_with fail
        refine (TAB.out _ HB2.out).mono ?_
        rintro e w3 ⟨rfl, hb3⟩
        have HB3 := hid hb3
        clear hb3
        go_wp2_with fail
        refine (SAB.out _ HB3.out).mono ?_
        rintro e w4 ⟨rfl, hb4⟩
        have HB4 := hid hb4
        clear hb4
        cases p
        · rw [Bool.false_and]
          go_wp2_with fail
          refine (SNA.out _ HB4.out).mono ?_
          rintro e w5 ⟨rfl, hb5⟩
          have HB5 := hid hb5
          clear hb5
          go_wp2_with fail
          refine (TAA.out _ HB5.out).mono ?_
          rintro e w6 ⟨rfl, hb6⟩
          have HB6 := hid hb6
          clear hb6
          go_wp2_with fail
          go_meet
          case rel => exact ⟨rfl, HB6.out⟩
        · rw [Bool.true_and]
          go_wp2_with fail
          refine (SBA.out _ HB4.out).mono ?_
          rintro e w5 ⟨rfl, hb5⟩
          have HB5 := hid hb5
          clear hb5
          have hq : (q != q) = false := by cases q <;> rfl
          go_wp2_with fail
          refine (SNA.out _ HB5.out).mono ?_
          rintro e w6 ⟨rfl, hb6⟩
          have HB6 := hid hb6
          clear hb6
          go_wp2_with fail
          refine (TAA.out _ HB6.out).mono ?_
          rintro e w7 ⟨rfl, hb7⟩
          have HB7 := hid hb7
          clear hb7
          go_wp2_with fail
          go_meet
          case rel => exact ⟨rfl, HB7.out⟩
      case rest =>
        obtain ⟨rfl, hb3⟩ := hcut
        have HB3 := hid hb3
        clear hb3
        go_wp2_with fail
        refine (works14 _).mono ?_
        rintro e w9 ⟨rfl, hb9⟩
        have HB9 := hid (HB3.out.trans (hb9.mono HB3.out.size))
        clear hb9
        go_wp2
        go_ret
        exact ⟨rfl, HB9.out⟩

set_option maxHeartbeats 1000000 in
theorem resolves7_great (a b am : Option Addr) (na ca nb cb nm capm : Nat) (v : Int) (w : World) (h : (300 : Int) < (na : Int) ∨ (300 : Int) < (nb : Int) ∨ (3000 : Int) < (nm : Int)) :
    Calls Try.prog 7 #[.slice a na ca, .slice b nb cb, .int .i64 v, .slice am nm capm] w fun e w' => e = .returned (.bool true) ∧ Below w.heap.size w w' := by
  by_cases h1 : (300 : Int) < (na : Int)
  · clear h
    go_enter Try.func7, Try.ntmps7
    go_wp2
    go_ret
    exact ⟨rfl, Below.refl _ _⟩
  by_cases h2 : (300 : Int) < (nb : Int)
  · clear h
    go_enter Try.func7, Try.ntmps7
    go_wp2
    go_ret
    exact ⟨rfl, Below.refl _ _⟩
  have h3 : (3000 : Int) < (nm : Int) := by omega
  clear h
  go_enter Try.func7, Try.ntmps7
  go_wp2
  go_ret
  exact ⟨rfl, Below.refl _ _⟩

theorem resolves7 (a b am : Option Addr) (na ca nb cb nm capm : Nat) (xa xb : List Int) (v : Int) (m : List Bool) (w : World) (hna : xa.length = na) (hnb : xb.length = nb) (hnm : m.length = nm) (ha : Lits w a xa) (hb : Lits w b xb) (hm : Bools w am m) :
    Calls Try.prog 7 #[.slice a na ca, .slice b nb cb, .int .i64 v, .slice am nm capm] w fun e w' => e = .returned (.bool true) ∧ Below w.heap.size w w' := by
  by_cases h : (300 : Int) < (na : Int) ∨ (300 : Int) < (nb : Int) ∨ (3000 : Int) < (nm : Int)
  · exact resolves7_great a b am na ca nb cb nm capm v w h
  · exact resolves7_small a b am na ca nb cb nm capm xa xb v m w hna hnb hnm ha hb hm (by omega) (by omega) (by omega)

end Go.Proofs.Ytccbcijkahnkkaa
