/- A number read, by the document. -/
import Derived.Test.YtmgeoeajnpnadaaNumR
namespace Go.Proofs.Ytmgeoeajnpnadaa
open Go.RowKit
set_option linter.unusedVariables false
set_option linter.unusedSimpArgs false

theorem and127a : ∀ x : Fin 256, bits BinOp.and IntKind.u8 ((x.val : Nat) : Int) 127 = ((x.val % 128 : Nat) : Int) := by decide +kernel
theorem and127 {x : Int} (h0 : 0 ≤ x) (h1 : x < 256) : bits BinOp.and IntKind.u8 x 127 = x % 128 := by
  have := and127a ⟨x.toNat, by omega⟩
  simp only at this
  rw [show x = ((x.toNat : Nat) : Int) by omega, this]
  omega
theorem and_one (c : Nat) (h : c ≤ 9223372036854775807) : bits BinOp.and IntKind.u64 (c : Int) 1 = ((c % 2 : Nat) : Int) := by
  show IntKind.u64.wrap (((BitVec.ofInt 64 (c : Int) &&& BitVec.ofInt 64 1).toNat : Nat) : Int) = _
  have e : (BitVec.ofInt 64 (c : Int) &&& BitVec.ofInt 64 1).toNat = c % 2 := by
    rw [BitVec.toNat_and, BitVec.toNat_ofInt, BitVec.toNat_ofInt]
    rw [show ((c : Int) % ((2 ^ 64 : Nat) : Int)).toNat = c by omega, show ((1 : Int) % ((2 ^ 64 : Nat) : Int)).toNat = 1 from rfl, Nat.and_one_is_mod]
  rw [e, IntKind.wrap_u64]
  omega
theorem numOf_odd {d : Nat} (h : d % 2 = 1) : Bin.numOf d = -((d : Int) / 2) := by unfold Bin.numOf; rw [if_pos h]; omega
theorem numOf_even {d : Nat} (h : ¬ d % 2 = 1) : Bin.numOf d = (d : Int) / 2 := by unfold Bin.numOf; rw [if_neg h]; omega
theorem half_facts {d : Nat} (h : d ≤ 9223372036854775807) : ∃ z : Int, (d : Int) / 2 = z ∧ ((4611686018427387903 : Int) < z) = False ∧ wrap64 z = z ∧ wrap64 (-z) = -z ∧ (d % 2 = 1 → Bin.numOf d = -z) ∧ (¬ d % 2 = 1 → Bin.numOf d = z) := by
  refine ⟨_, rfl, eq_false (by omega), ?_, ?_, fun h => numOf_odd h, fun h => numOf_even h⟩ <;> unfold wrap64 <;> omega
/-- What reading a number tells, by the document. -/
def GetOut (bs : List Int) (pos : Nat) (e : Ending) : Prop :=
  (Bin.numR (bs.drop pos) = none ∧ e = .returned (.tuple #[.int .i64 0, .int .i64 0, .bool false])) ∨
  (∃ (n : Int) (p2 : Nat), Bin.numR (bs.drop pos) = some (n, bs.drop p2) ∧ pos < p2 ∧ p2 ≤ bs.length ∧ e = .returned (.tuple #[.int .i64 n, .int .i64 (p2 : Int), .bool true]))

set_option maxRecDepth 100000 in
set_option maxHeartbeats 8000000 in
theorem get49 (a : Option Addr) (rn rc : Nat) (bs : List Int) (pos : Nat) (W : World) (hn : bs.length = rn) (hz : rn ≤ 1000000) (hR : Bts W a bs) (hp : pos ≤ rn) :
    Calls Try.prog 49 #[.slice a rn rc, .int .i64 (pos : Int)] W fun e w' => GetOut bs pos e ∧ w' = W := by
  have HR := hid hR
  have HN := hid hn
  have sh : Hid (rn = 0) ∨ ∃ g off, a = some ⟨g, off, none⟩ := by
    rcases hR.shape with h | ⟨g, off, e⟩
    · exact .inl (hid (by omega))
    · exact .inr ⟨g, off, e⟩
  have HBY := hid (hR.byt.drop pos)
  clear hR hn
  rcases sh with Z | ⟨b, off, rfl⟩
  all_goals
    go_enter Try.func49, Try.ntmps49
    go_wp2
    go_loopw [7, 8] (fun cv iv wr => ∃ (i c : Nat), cv = .int .u64 c ∧ iv = .int .i64 i ∧ pos + i ≤ rn ∧ i ≤ 9 ∧ wr = W ∧ Hid (c < 128 ^ i) ∧ Hid (Bin.get 9 (bs.drop pos) = Bin.getI i c (9 - i) (bs.drop (pos + i)))) (fun _ iv _ => 9 - (intOf iv).toNat)
    case atStart => exact ⟨0, 0, rfl, rfl, by omega, by omega, rfl, hid (by decide), hid (by simp [Bin.getI_zero _ HBY.out])⟩
    case round =>
      obtain ⟨i, c, rfl, rfl, hi, hi9, rfl, HC, HG⟩ := hrel
      by_cases hlt : pos + i < rn ∧ i < 9
      · obtain ⟨hl1, hl2⟩ := hlt
        have hl1' : (pos : Int) + i < rn := by omega
        have hl2' : (i : Int) < 9 := by omega
        first
        | (exfalso; have := Z.out; omega)
        | (obtain ⟨b', off', e, _, hc, hc1, hc2⟩ := HR.out.at (j := pos + i) (by rw [HN.out]; exact hl1)
           cases e
           have HX := hid (show bs.drop (pos + i) = bs.getD (pos + i) 0 :: bs.drop (pos + i + 1) by
             have : pos + i < bs.length := by rw [HN.out]; exact hl1
             rw [List.drop_eq_getElem_cons this]
             simp [List.getD, List.getElem?_eq_getElem this])
           generalize bs.getD (pos + i) 0 = x at hc hc1 hc2 HX
           have hoff := and127 hc1 (by omega)
           obtain ⟨d, hd⟩ : ∃ d, c + (x % 128).toNat * 128 ^ i = d := ⟨_, rfl⟩
           obtain ⟨hor, hdl⟩ := or_step HC.out hl2 hc1 d hd
           have HDL := hid hdl
           have hand := and_one d hdl.2
           clear hdl
           by_cases hx : x < 128
           · have HGD := hid (show Bin.get 9 (bs.drop pos) = if x = 0 ∧ 0 < i then none else some (d, bs.drop (pos + i + 1)) by
               rw [HG.out, HX.out, show 9 - i = (8 - i) + 1 by omega, Bin.getI, if_pos hx, ← hd, show x % 128 = x by omega])
             have hx' : ¬ (128 : Int) ≤ x := by omega
             clear hd HX HG HC
             by_cases hq : x = 0 ∧ 0 < i
             · have HNN := hid (show Bin.numR (bs.drop pos) = none from numR_none (by rw [HGD.out, if_pos hq]))
               have hx0 : (x == 0) = true := by simp [hq.1]
               have hi0 : (0 : Int) < i := by omega
               clear HGD hq
               go_wp2
               refine bodyPost_ret (results_tmp3 rfl _ _ _) rfl ?_
               exact ⟨.inl ⟨HNN.out, rfl⟩, rfl⟩
             · by_cases hd1 : d = 1
               · subst hd1
                 have HNN := hid (show Bin.numR (bs.drop pos) = none from numR_one (by rw [HGD.out, if_neg hq]))
                 have hxi : ((x == 0) = false) ∨ ((x == 0) = true ∧ ¬ (0 : Int) < i) := by
                   by_cases h0 : x = 0
                   · right; exact ⟨by simp [h0], by omega⟩
                   · left; simpa using h0
                 clear HGD hq
                 rcases hxi with hxi | ⟨hxi, hxj⟩
                 all_goals
                   go_wp2
                   refine bodyPost_ret (results_tmp3 rfl _ _ _) rfl ?_
                   exact ⟨.inl ⟨HNN.out, rfl⟩, rfl⟩
               · have HNN := hid (show Bin.numR (bs.drop pos) = some (Bin.numOf d, bs.drop (pos + i + 1)) from numR_get (by rw [HGD.out, if_neg hq]) hd1)
                 have hxi : ((x == 0) = false) ∨ ((x == 0) = true ∧ ¬ (0 : Int) < i) := by
                   by_cases h0 : x = 0
                   · right; exact ⟨by simp [h0], by omega⟩
                   · left; simpa using h0
                 have hdn : ((d : Int) == 1) = false := by simp; omega
                 obtain ⟨z, hz2, hdd, hw, hw2, hno1, hno2⟩ := half_facts HDL.out.2
                 have HNO1 := hid hno1
                 have HNO2 := hid hno2
                 clear hno1 hno2
                 have HPL := hid (show pos + i + 1 ≤ bs.length by rw [HN.out]; omega)
                 clear HGD hq HDL hd1
                 by_cases hm : d % 2 = 1
                 · have HNO := hid (HNO1.out hm)
                   have hand1 : bits BinOp.and IntKind.u64 (d : Int) 1 = 1 := by rw [hand, hm]; rfl
                   clear hand HNO1 HNO2
                   clear hm
                   rcases hxi with hxi | ⟨hxi, hxj⟩
                   all_goals
                     go_wp2
                     refine bodyPost_ret (results_tmp3 rfl _ _ _) rfl ?_
                     refine ⟨.inr ⟨_, _, HNN.out, by omega, HPL.out, ?_⟩, rfl⟩
                     rw [HNO.out]
                     first
                     | (push_cast; rfl)
                     | (rw [show i = 0 by omega]; push_cast; simp)
                 · have HNO := hid (HNO2.out hm)
                   have hand1 : bits BinOp.and IntKind.u64 (d : Int) 1 = 0 := by rw [hand, show d % 2 = 0 by omega]; rfl
                   clear hand HNO1 HNO2
                   clear hm
                   rcases hxi with hxi | ⟨hxi, hxj⟩
                   all_goals
                     go_wp2
                     refine bodyPost_ret (results_tmp3 rfl _ _ _) rfl ?_
                     refine ⟨.inr ⟨_, _, HNN.out, by omega, HPL.out, ?_⟩, rfl⟩
                     rw [HNO.out]
                     first
                     | (push_cast; rfl)
                     | (rw [show i = 0 by omega]; push_cast; simp)
           · have HGD := hid (show Bin.get 9 (bs.drop pos) = Bin.getI (i + 1) d (9 - (i + 1)) (bs.drop (pos + (i + 1))) by
               rw [HG.out, HX.out, show 9 - i = (8 - i) + 1 by omega, Bin.getI, if_neg hx, ← hd, show (x - 128).toNat = (x % 128).toNat by omega, show 9 - (i + 1) = 8 - i by omega, Nat.add_assoc])
             have HDL' := hid HDL.out.1
             have hx' : (128 : Int) ≤ x := by omega
             clear hd HX HG HC HDL
             go_wp2
             go_roundw
             case rel => exact ⟨i + 1, d, by go_num, by go_num, by omega, by omega, (by first | rfl | trivial), HDL', HGD⟩
             case measure => simp [intOf]; omega)
      · have HNN := hid (show Bin.numR (bs.drop pos) = none from numR_none (by
          rw [HG.out]
          by_cases h9 : i = 9
          · subst h9; rfl
          · rw [List.drop_eq_nil_of_le (by rw [HN.out]; omega), show 9 - i = (8 - i) + 1 by omega]; rfl))
        have hll : (¬ (i : Int) < 9) ∨ ((i : Int) < 9 ∧ ¬ (pos : Int) + i < rn) := by omega
        rcases hll with hll | ⟨hll, hlm⟩
        all_goals
          go_wp2
          refine bodyPost_ret (results_tmp3 rfl _ _ _) rfl ?_
          exact ⟨.inl ⟨HNN.out, rfl⟩, rfl⟩
end Go.Proofs.Ytmgeoeajnpnadaa
