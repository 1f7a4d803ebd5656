/- A number read off the rest. -/
import Derived.Test.YtmgeoeajnpnadaaNum
namespace Go.Proofs.Ytmgeoeajnpnadaa
open Go.RowKit
set_option linter.unusedVariables false
set_option linter.unusedSimpArgs false

theorem or_step {c i : Nat} {x : Int} (hc : c < 128 ^ i) (hi : i < 9) (h0 : 0 ≤ x) (d : Nat) (hd : c + (x % 128).toNat * 128 ^ i = d) : bits BinOp.or IntKind.u64 (c : Int) (IntKind.u64.wrap (x % 128 * 2 ^ (7 * i))) = (d : Int) ∧ d < 128 ^ (i + 1) ∧ d ≤ 9223372036854775807 := by
  have h2 := Bin.pow_le (i := i) (by omega)
  have h3 : ((x % 128).toNat + 1) * 128 ^ i ≤ 128 * 128 ^ i := Nat.mul_le_mul_right _ (by omega)
  rw [Nat.add_mul, Nat.one_mul] at h3
  have e1 : x % 128 * 2 ^ (7 * i) = (((x % 128).toNat * 128 ^ i : Nat) : Int) := by
    rw [Int.natCast_mul, Int.natCast_pow, show (((x % 128).toNat : Nat) : Int) = x % 128 by omega, show ((128 : Nat) : Int) = 2 ^ 7 from rfl, ← Int.pow_mul]
  refine ⟨?_, ?_, ?_⟩
  · rw [e1, IntKind.wrap_u64, Int.emod_eq_of_lt (by omega) (by omega), or_low hc (by omega) (by omega), hd]
  · rw [Nat.pow_succ]; omega
  · omega
theorem cut_off {W : World} {b off rc i : Nat} {bs : List Int} (h : Bts W (some ⟨b, off, none⟩) bs) (hl : bs.length ≤ rc) : ∃ off2, (if rc = i + 1 then some (⟨b, off, none⟩ : Addr) else some ⟨b, off + (i + 1), none⟩) = some ⟨b, off2, none⟩ ∧ Bts W (some ⟨b, off2, none⟩) (bs.drop (i + 1)) := by
  by_cases h1 : rc = i + 1
  · refine ⟨off, by rw [if_pos h1], ?_⟩
    rw [List.drop_eq_nil_of_le (by omega)]
    exact Row.nil _ _ _ _ _
  · exact ⟨off + (i + 1), by rw [if_neg h1], h.drop (i + 1)⟩

set_option maxRecDepth 100000 in
set_option maxHeartbeats 8000000 in
theorem number58 (rb : Nat) (W : World) (b off rn rc : Nat) (bs : List Int) (kd id : Int) (lv hv : Value) (it : Int) (h : Rd rb W (some ⟨b, off, none⟩) rn rc kd id lv hv it) (hn : bs.length = rn) (hl : rn ≤ rc) (hz : rc ≤ 9223372036854775807) (hR : Bts W (some ⟨b, off, none⟩) bs) :
    Calls Try.prog 58 #[.pointer (some ⟨rb, 0, none⟩)] W fun e w' => NumTo rb W b rc bs e w' := by
  have c0 : W.cell? ⟨rb, 0, none⟩ = some (.slice (some ⟨b, off, none⟩) rn rc) := h.cells 0 _ rfl
  have f0 := row_frozen h.blk 0
  have HR := hid hR
  have HN := hid hn
  have C62 := hid (fun c hc w => numberOf62 c hc w)
  clear h hR hn hz
  go_enter Try.func58, Try.ntmps58
  go_wp2
  go_quiet (fail)
  go_wp2
  all_goals
    go_loopw [4, 19] (fun cv iv wr => ∃ (i c : Nat), cv = .int .u64 c ∧ iv = .int .i64 i ∧ i ≤ rn ∧ i ≤ 9 ∧ wr = W.drewN nq ∧ Hid (c < 128 ^ i) ∧ Hid (Bin.get 9 bs = Bin.getI i c (9 - i) (bs.drop i))) (fun _ iv _ => 9 - (intOf iv).toNat)
    case atStart => exact ⟨0, 0, rfl, rfl, by omega, by omega, rfl, hid (by decide), hid (by simp [Bin.getI_zero bs HR.out.byt])⟩
    case round =>
      obtain ⟨i, c, rfl, rfl, hi, hi9, rfl, HC, HG⟩ := hrel
      by_cases hlt : i < rn ∧ i < 9
      · obtain ⟨hl1, hl2⟩ := hlt
        have hl1' : (i : Int) < rn := by omega
        have hl2' : (i : Int) < 9 := by omega
        obtain ⟨b', off', e, _, hc, hc1, hc2⟩ := HR.out.at (j := i) (by rw [HN.out]; exact hl1)
        cases e
        have hcd : (W.drewN nq).cell? ⟨b, off + i, none⟩ = some (.int .u8 (bs.getD i 0)) := hc
        have HX := hid (show bs.drop i = bs.getD i 0 :: bs.drop (i + 1) by
          have : i < bs.length := by rw [HN.out]; exact hl1
          rw [List.drop_eq_getElem_cons this]
          simp [List.getD, List.getElem?_eq_getElem this])
        generalize bs.getD i 0 = x at hc hc1 hc2 hcd HX
        have hoff := off128 hc1 (by omega)
        obtain ⟨d, hd⟩ : ∃ d, c + (x % 128).toNat * 128 ^ i = d := ⟨_, rfl⟩
        obtain ⟨hor, hdl⟩ := or_step HC.out hl2 hc1 d hd
        have HDL := hid hdl
        clear hdl
        obtain ⟨off2, hoff2, hrd⟩ := cut_off (rc := rc) (i := i) HR.out (by rw [HN.out]; exact hl)
        have HRD := hid hrd
        clear hrd
        have C62' := hid (fun w => C62.out d HDL.out.2 w)
        by_cases hx : x < 128
        · have HGD := hid (show Bin.get 9 bs = if x = 0 ∧ 0 < i then none else some (d, bs.drop (i + 1)) by
            rw [HG.out, HX.out, show 9 - i = (8 - i) + 1 by omega, Bin.getI, if_pos hx, ← hd, show x % 128 = x by omega])
          have HD0 := hid (show x = 0 → i = 0 → d = 0 from fun h1 h2 => by
            have := HC.out
            rw [h2] at this
            rw [← hd, h1]; simp at this ⊢; exact this)
          have HLR := hid (show (bs.drop (i + 1)).length = rn - (i + 1) by rw [List.length_drop, HN.out])
          have f0d : (W.drewN nq).frozen? ⟨rb, 0, none⟩ = false := f0
          have c0d : (W.drewN nq).cell? ⟨rb, 0, none⟩ = some (.slice (some ⟨b, off, none⟩) rn rc) := c0
          clear hd C62 HX HG HC HR HDL
          by_cases hd1 : d = 1
          · subst hd1
            have HNN := hid (show Bin.numR bs = none by
              by_cases hq : x = 0 ∧ 0 < i
              · exact numR_none (by rw [HGD.out, if_pos hq])
              · exact numR_one (by rw [HGD.out, if_neg hq]))
            clear HGD HD0 HRD
            go_wp2_with (go_at_call 62; refine (C62'.out _).mono ?_; clear C62'; rintro e w1 ⟨rfl, rfl⟩)
            go_ret2
            exact .inl ⟨HNN.out, _, _, _, rfl, .inr rfl⟩
          · have hdn : ((d : Int) == 1) = false := by simp; omega
            have hdn' : ((d : Int) != 1) = true := by simp; omega
            by_cases hx0 : x = 0 ∧ 0 < i
            · have HNN := hid (show Bin.numR bs = none from numR_none (by rw [HGD.out, if_pos hx0]))
              have hx1 : (x != 0) = false := by simp [hx0.1]
              have hi1' : ((i : Int) == 0) = false := by simp; omega
              clear hx0
              clear HGD HD0 HRD
              go_wp2_with (go_at_call 62; refine (C62'.out _).mono ?_; clear C62'; rintro e w1 ⟨rfl, rfl⟩)
              go_ret2
              exact .inl ⟨HNN.out, _, _, _, rfl, .inr rfl⟩
            · have HNN := hid (show Bin.numR bs = some (Bin.numOf d, bs.drop (i + 1)) from numR_get (by rw [HGD.out, if_neg hx0]) hd1)
              have hxi : ((x != 0) = true) ∨ (((x != 0) = false) ∧ ((i : Int) == 0) = true) := by
                by_cases hxz : x = 0
                · right; exact ⟨by simp [hxz], by simp; omega⟩
                · left; simpa using hxz
              clear HGD HD0 hx0
              rcases hxi with hxi | ⟨hxi, hix⟩
              all_goals
                go_wp2_with (go_at_call 62; refine (C62'.out _).mono ?_; clear C62'; rintro e w1 ⟨rfl, rfl⟩)
                go_ret2
                exact .inr ⟨_, _, nq, off2, _, HNN.out, rfl, by rw [HLR.out], by rw [HLR.out]; omega, by omega, HRD.out⟩
        · have HGD := hid (show Bin.get 9 bs = Bin.getI (i + 1) d (9 - (i + 1)) (bs.drop (i + 1)) by
            rw [HG.out, HX.out, show 9 - i = (8 - i) + 1 by omega, Bin.getI, if_neg hx, ← hd, show (x - 128).toNat = (x % 128).toNat by omega, show 9 - (i + 1) = 8 - i by omega])
          have HDL' := hid HDL.out.1
          clear hd C62 HX HG HC C62' HDL
          go_wp2
          go_roundw
          case rel => exact ⟨i + 1, d, by go_num, by go_num, by omega, by omega, (by first | rfl | trivial), HDL', HGD⟩
          case measure => simp [intOf]; omega
      · have HNN := hid (show Bin.numR bs = none from numR_none (by
          rw [HG.out]
          by_cases h9 : i = 9
          · subst h9; rfl
          · rw [List.drop_eq_nil_of_le (by rw [HN.out]; omega), show 9 - i = (8 - i) + 1 by omega]; rfl))
        go_wp2
        go_ret2
        exact .inl ⟨HNN.out, _, nq, .bool false, rfl, .inl rfl⟩
end Go.Proofs.Ytmgeoeajnpnadaa
