/- The document's own Lines and head as calls. -/
import Derived.Test.YtlhpnkgdnmnclaaDoorLins
namespace Go.Proofs.YtlhpnkgdnmnclaaDoor
open Go.RowKit
set_option linter.unusedVariables false
set_option linter.unusedSimpArgs false

theorem Txt.cut {tb : Nat} {w : World} {o c : Nat} {xs : List Int} (h : Txt tb w (some ⟨tb, o, none⟩) c xs) {b i : Nat} (hb : b ≤ i) (hi : i ≤ xs.length) : Txt tb w (some ⟨tb, o + b, none⟩) (c - b) (Dim.cur xs b i) := by
  have hl := Dim.cur_len xs b i hi (by omega)
  obtain ⟨h1, h2, h3, h4⟩ := h
  refine ⟨fun x hx => h1 x (List.mem_of_mem_drop (List.mem_of_mem_take hx)), by omega, by omega, .inr ⟨o + b, rfl, fun j hj => ?_⟩⟩
  rcases h4 with ⟨e, _⟩ | ⟨o', e, hc⟩
  · cases e
  · cases e
    rw [Dim.cur_get xs b i j hi (by omega), Nat.add_assoc]
    exact hc _ (by omega)

set_option maxRecDepth 100000 in
set_option maxHeartbeats 8000000 in
theorem lines27 (tb o n c : Nat) (xs : List Int) (w : World) (hn : xs.length = n) (hx : Txt tb w (some ⟨tb, o, none⟩) c xs) (htb : tb < w.heap.size) (hnb : n ≤ 100000) :
    Calls Tryd.prog 27 #[.slice (some ⟨tb, o, none⟩) n c] w fun e w' => ∃ a cap ps, e = .returned (.slice a (Dim.lines xs).length cap) ∧ Lns w.heap.size w' (.slice a (Dim.lines xs).length cap) (Dim.lines xs) ps ∧ Below w.heap.size w w' := by
  have HX := hid hx
  have HN := hid hn
  obtain ⟨L, hL⟩ : ∃ L, Dim.lines xs = L := ⟨_, rfl⟩
  have HLL := hid hL
  rw [hL]
  have hcn : n ≤ c := by have := hx.2.1; omega
  have hcm : (c : Int) ≤ 9223372036854775807 := by have := hx.2.2.1.2; omega
  have CL := hid (fun (f k : Nat) (W : World) (h1 : f ≤ k) (h2 : k ≤ n) (h3 : Below w.heap.size w W) => line42 tb (some ⟨tb, o + f, none⟩) (k - f) (c - f) (Dim.cur xs f k) W (Dim.cur_len xs f k (by omega) h1) ((hx.cut h1 (by omega)).kept (h3.block tb htb)) (Nat.lt_of_lt_of_le htb h3.size) (by omega))
  clear hx hn hL
  go_enter Tryd.func27, Tryd.ntmps27
  go_wp2
  go_loopw [3, 4, 5] (fun ov fv i wr => ∃ (k f m cp : Nat) (oo : Option Addr) (ls : List (List Int)) (ps : List (Value × Value)), ov = .slice oo m cp ∧ fv = .int .i64 f ∧ i = .int .i64 k ∧ k ≤ n + 1 ∧ f ≤ k ∧ m ≤ k ∧ Hid (ls.length = m) ∧ Hid ((k ≤ n → ls ++ Dim.lines (xs.drop f) = L ∧ ∀ c ∈ Dim.cur xs f k, c ≠ 10) ∧ (k = n + 1 → ls = L)) ∧ Hid (Lns w.heap.size wr (.slice oo ls.length cp) ls ps) ∧ Hid (Below w.heap.size w wr)) (fun _ _ i _ => n + 1 - (intOf i).toNat)
  case atStart => exact ⟨0, 0, 0, 0, none, [], [], rfl, rfl, rfl, by omega, by omega, by omega, hid rfl, hid ⟨fun _ => ⟨by simpa using HLL.out, by simp [Dim.cur_self]⟩, fun h => by omega⟩, hid ⟨rfl, World.ownsRow_nil _ _ _ _, fun j h => by simp at h⟩, hid (Below.refl _ _)⟩
  case round =>
    obtain ⟨k, f, m, cp, oo, ls, ps, rfl, rfl, rfl, hk, hf, hm, HM, HW, HL, HB⟩ := hrel
    by_cases hkn : k < n
    · have hk1 : (k : Int) ≤ n := by omega
      have hk2 : (k : Int) < n := by omega
      have hk3 : ((k : Int) == (n : Int)) = false := by rw [beq_eq_false_iff_ne]; omega
      obtain ⟨o2, e2, hcy, hly, huy⟩ := HX.out.at (i := k) (by rw [HN.out]; exact hkn)
      cases e2
      have hcc := (HB.out.cell (p := ⟨tb, o + k, none⟩) htb).trans hcy
      by_cases h10 : xs.getD k 0 = 10
      · have HS := hid (Dim.lines_step xs f k (by rw [HN.out]; exact hkn) hf h10 (HW.out.1 (by omega)).2)
        rw [h10] at hcc
        clear hcy hly huy h10
        have HG := hid (show (ls ++ [Dim.cur xs f k]) ++ Dim.lines (xs.drop (k + 1)) = L by rw [List.append_assoc, List.singleton_append, ← HS.out]; exact (HW.out.1 (by omega)).1)
        have hcf : ¬ c = f := by omega
        go_wp2_with (first
          | (go_at_call 42; refine (CL.out f k wr hf (by omega) HB.out).mono ?_
             rintro e W2 ⟨v, rfl, hov, hbw⟩
             obtain ⟨o', cp', B, ps', hr, hLn, hBB⟩ := (HL.out.below hbw).put (Nat.le_trans HB.out.size hbw.size) (Dim.cur xs f k) v (StrV.of_own hov) (by rw [HM.out]; omega) (by obtain ⟨a, b, rfl⟩ := own_slc hov; rfl)
             rw [HM.out] at hr
             have HR := hid hr
             have HL2 := hid hLn
             have HB2 := hid (HB.out.trans ((hbw.mono HB.out.size).trans hBB))
             clear hr hLn hBB hov hbw)
          | (at_builtin; refine wpList_append_run rfl (.tmp 34) (.tmp 40) 65 rfl rfl rfl HR.out ?_))
        go_roundw
        case rel => exact ⟨k + 1, k + 1, m + 1, _, _, ls ++ [Dim.cur xs f k], _, rfl, by go_num, by go_num, by omega, by omega, by omega, hid (by rw [List.length_append, HM.out]; rfl), hid ⟨fun _ => ⟨HG.out, by simp [Dim.cur_self]⟩, fun h => by omega⟩, HL2, HB2⟩
        case measure => simp [intOf]; omega
      · have hx10 : (xs.getD k 0 != 10) = true := by simpa using h10
        have HNO := hid (Dim.cur_no xs f k (by rw [HN.out]; exact hkn) hf h10 (HW.out.1 (by omega)).2)
        generalize xs.getD k 0 = x at hcc hx10 hly huy
        clear hcy h10
        go_wp2
        go_roundw
        case rel => exact ⟨k + 1, f, m, cp, oo, ls, ps, rfl, rfl, by go_num, by omega, by omega, by omega, HM, hid ⟨fun _ => ⟨(HW.out.1 (by omega)).1, HNO.out⟩, fun h => by omega⟩, HL, HB⟩
        case measure => simp [intOf]; omega
    · by_cases hk2 : k = n
      · have hk1 : (k : Int) ≤ n := by omega
        have hk2' : ¬ (k : Int) < n := by omega
        have hk3 : ((k : Int) == (n : Int)) = true := by simp; omega
        by_cases hfk : f = k
        · have hf3 : ((f : Int) == (k : Int)) = true := by simp; omega
          have HG := hid (show ls = L by
            have := (HW.out.1 (by omega)).1
            rwa [List.drop_eq_nil_of_le (show xs.length ≤ f by rw [HN.out]; omega), Dim.lines_nil, List.append_nil] at this)
          clear hfk hk2
          go_wp2
          go_roundw
          case rel => exact ⟨k + 1, f, m, cp, oo, ls, ps, rfl, rfl, by go_num, by omega, by omega, by omega, HM, hid ⟨fun h => by omega, fun _ => HG.out⟩, HL, HB⟩
          case measure => simp [intOf]; omega
        · have hf3 : ((f : Int) == (k : Int)) = false := by rw [beq_eq_false_iff_ne]; omega
          have HG := hid (show ls ++ [Dim.cur xs f k] = L by
            have h1 := (HW.out.1 (by omega)).1
            have h2 := (HW.out.1 (by omega)).2
            rw [show k = xs.length by rw [HN.out]; exact hk2] at h2 ⊢
            rwa [Dim.lines_last xs f (by rw [HN.out]; omega) h2] at h1)
          have hcf : ¬ c = f := by omega
          clear hfk hk2
          go_wp2_with (first
          | (go_at_call 42; refine (CL.out f k wr hf (by omega) HB.out).mono ?_
             rintro e W2 ⟨v, rfl, hov, hbw⟩
             obtain ⟨o', cp', B, ps', hr, hLn, hBB⟩ := (HL.out.below hbw).put (Nat.le_trans HB.out.size hbw.size) (Dim.cur xs f k) v (StrV.of_own hov) (by rw [HM.out]; omega) (by obtain ⟨a, b, rfl⟩ := own_slc hov; rfl)
             rw [HM.out] at hr
             have HR := hid hr
             have HL2 := hid hLn
             have HB2 := hid (HB.out.trans ((hbw.mono HB.out.size).trans hBB))
             clear hr hLn hBB hov hbw)
          | (at_builtin; refine wpList_append_run rfl (.tmp 34) (.tmp 40) 65 rfl rfl rfl HR.out ?_))
          go_roundw
          case rel => exact ⟨k + 1, k + 1, m + 1, _, _, ls ++ [Dim.cur xs f k], _, rfl, by go_num, by go_num, by omega, by omega, by omega, hid (by rw [List.length_append, HM.out]; rfl), hid ⟨fun h => by omega, fun _ => HG.out⟩, HL2, HB2⟩
          case measure => simp [intOf]; omega
      · have hk1 : ¬ (k : Int) ≤ n := by omega
        have HG := hid (HW.out.2 (by omega))
        go_wp2
        go_ret
        refine ⟨oo, cp, ?_, ⟨ps, ?_⟩, HB.out⟩
        · rw [← HG.out, HM.out]; rfl
        · rw [← HG.out]; exact HL.out

def headI : Option Nat → Int
  | none => -1
  | some k => k

set_option maxRecDepth 100000 in
set_option maxHeartbeats 8000000 in
theorem head28 (base n : Nat) (a : Option Addr) (cap : Nat) (ls : List (List Int)) (ps : List (Value × Value)) (W : World) (hn : ls.length = n) (hnb : n ≤ 100001) (h : Lns base W (.slice a n cap) ls ps) :
    Calls Tryd.prog 28 #[.slice a n cap] W fun e w' => e = .returned (.int .i64 (headI (Dim.first ls))) ∧ w' = W := by
  have HN := hid hn
  have HL := hid h
  obtain ⟨r, hr⟩ : ∃ r, headI (Dim.first ls) = r := ⟨_, rfl⟩
  have HR := hid hr
  rw [hr]
  clear hr hn h
  have hsh : Hid (n = 0 ∨ ∃ g, a = some ⟨g, 0, none⟩) := hid (by
    rcases Nat.eq_zero_or_pos n with h | h
    · exact .inl h
    · obtain ⟨g, c', v, e, _⟩ := HL.out.at (j := 0) (by rw [HN.out]; exact h)
      injection e with e1 e2 e3
      exact .inr ⟨g, e1⟩)
  rcases hsh.out with h0 | ⟨g, rfl⟩
  · subst h0
    have HF := hid (show r = -1 by rw [← HR.out, Dim.first_none ls (fun j hj => by have := HN.out; omega)]; rfl)
    clear hsh
    go_enter Tryd.func28, Tryd.ntmps28
    go_wp2
    go_loop [3] (fun i => i = .int .i64 0) (fun _ => 0)
    case atStart => rfl
    case round =>
      subst hrel
      go_wp2
      go_ret
      exact ⟨by rw [HF.out]; rfl, rfl⟩
  clear hsh
  go_enter Tryd.func28, Tryd.ntmps28
  go_wp2
  go_loop [3] (fun i => ∃ k : Nat, i = .int .i64 k ∧ k ≤ n ∧ Hid (∀ j, j < k → Dim.words (ls.getD j []) = [])) (fun i => n - (intOf i).toNat)
  case atStart => exact ⟨0, rfl, by omega, hid (fun j h => by omega)⟩
  case round =>
    obtain ⟨k, rfl, hk, HI⟩ := hrel
    by_cases hlt : k < n
    · have hlt' : (k : Int) < n := by omega
      obtain ⟨g', c', v, e, h0, h1, hS⟩ := HL.out.at (j := k) (by rw [HN.out]; exact hlt)
      injection e with e1 e2 e3
      injection e1 with e1
      injection e1 with e1
      subst e1
      have HY := hid (fun h => Dim.first_at ls k (by rw [HN.out]; exact hlt) HI.out h)
      obtain ⟨a', cap', hv, hws⟩ := hS
      subst hv
      clear hws
      obtain ⟨ws, hws⟩ : ∃ ws, Dim.words (ls.getD k []) = ws := ⟨_, rfl⟩
      have HWS := hid hws
      have HRM := hid (show Dim.remark (ls.getD k []) = true → ws = [] from fun h => by rw [← hws]; unfold Dim.words; rw [h]; rfl)
      rw [hws] at h0 HY
      clear hws
      generalize Dim.remark (ls.getD k []) = rm at h1 HRM
      clear e2 e3
      have HNX := hid (show ws = [] → ∀ j, j < k + 1 → Dim.words (ls.getD j []) = [] from fun h j hj => by
        rcases Nat.lt_or_ge j k with h' | h'
        · exact HI.out j h'
        · rw [show j = k by omega, HWS.out, h])
      cases rm
      · by_cases hw : ws = []
        · have HK := hid (HNX.out hw)
          subst hw
          clear HNX HRM HY HWS
          simp only [List.length_nil] at h0
          go_wp2
          go_round
          case rel => exact ⟨k + 1, by go_num, by omega, HK⟩
          case measure => simp [intOf]; omega
        · have HK := hid (HY.out hw)
          have hp : (0 : Int) < ws.length := by have := List.length_pos_iff.2 hw; omega
          clear HNX HRM HY HWS hw
          generalize ws.length = m at h0 hp
          go_wp2
          go_ret
          exact ⟨by rw [← HR.out, HK.out]; rfl, rfl⟩
      · have HK := hid (HNX.out (HRM.out rfl))
        clear HNX HRM HY HWS
        go_wp2
        go_round
        case rel => exact ⟨k + 1, by go_num, by omega, HK⟩
        case measure => simp [intOf]; omega
    · have hlt' : ¬ (k : Int) < n := by omega
      have HF := hid (show r = -1 by rw [← HR.out, Dim.first_none ls (fun j hj => HI.out j (by have := HN.out; omega))]; rfl)
      go_wp2
      go_ret
      exact ⟨by rw [HF.out]; rfl, rfl⟩
end Go.Proofs.YtlhpnkgdnmnclaaDoor
