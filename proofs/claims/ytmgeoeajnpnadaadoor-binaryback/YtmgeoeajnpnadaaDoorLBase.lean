/- What the text's writer asks of a step. -/
import Derived.Test.YtmgeoeajnpnadaaDoorSteps
namespace Go.Proofs.YtmgeoeajnpnadaaDoor
open Go.RowKit
set_option linter.unusedVariables false
set_option linter.unusedSimpArgs false

set_option maxHeartbeats 1000000 in
theorem added31 (n : Int) (w : World) : Calls Tryd.prog 30 #[.int .i64 n] w fun e w' => e = .returned (.bool (Lra.added n)) ∧ w' = w := by
  go_enter Tryd.func30, Tryd.ntmps30
  go_wp2
  all_goals go_ret
  all_goals exact ⟨by simp_all [Lra.added] <;> omega, rfl⟩
set_option maxHeartbeats 1000000 in
theorem literal33 (n : Int) (w : World) : Calls Tryd.prog 32 #[.int .i64 n] w fun e w' => e = .returned (.bool (Lra.literal n)) ∧ w' = w := by
  go_enter Tryd.func32, Tryd.ntmps32
  go_wp2
  all_goals go_ret
  all_goals exact ⟨by simp_all [Lra.literal] <;> omega, rfl⟩
set_option maxHeartbeats 1000000 in
theorem hint35 (n : Int) (w : World) : Calls Tryd.prog 34 #[.int .i64 n] w fun e w' => e = .returned (.bool (Lra.hint n)) ∧ w' = w := by
  go_enter Tryd.func34, Tryd.ntmps34
  go_wp2
  all_goals go_ret
  all_goals exact ⟨by simp_all [Lra.hint] <;> omega, rfl⟩
set_option maxHeartbeats 1000000 in
theorem known36 (n : Int) (w : World) : Calls Tryd.prog 35 #[.int .i64 n] w fun e w' => e = .returned (.bool (Lra.known n)) ∧ w' = w := by
  go_enter Tryd.func35, Tryd.ntmps35
  go_wp2
  all_goals go_ret
  all_goals exact ⟨by simp_all [Lra.known] <;> omega, rfl⟩
set_option maxRecDepth 100000 in
set_option maxHeartbeats 4000000 in
theorem all34_35 (a : Option Addr) (n c : Nat) (xs : List Int) (w : World) (hn : xs.length = n) (hb : n ≤ 35184372088832) (hx : Hnts w a xs) :
    Calls Tryd.prog 33 #[.slice a n c, .func (.func 34) #[] #[]] w fun e w' => e = .returned (.bool (xs.all Lra.hint)) ∧ w' = w := by
  have HX := hid hx
  have HN := hid hn
  obtain ⟨r, hr⟩ : ∃ r, xs.all Lra.hint = r := ⟨_, rfl⟩
  have HR := hid hr
  rw [hr]
  have hsh := hx.shape
  rw [hn] at hsh
  clear hx hn hr
  rcases hsh with h0 | ⟨b, off, rfl⟩
  · subst h0
    have HF := hid (show r = true by rw [← HR.out, List.eq_nil_of_length_eq_zero HN.out]; rfl)
    go_enter Tryd.func33, Tryd.ntmps33
    go_wp2
    go_loop [9] (fun i => i = .int .i64 0) (fun _ => 0)
    case atStart => rfl
    case round =>
      subst hrel
      go_wp2
      go_ret
      exact ⟨by rw [HF.out]; rfl, rfl⟩
  go_enter Tryd.func33, Tryd.ntmps33
  go_wp2
  go_loop [9] (fun i => ∃ k : Nat, i = .int .i64 k ∧ k ≤ n ∧ Hid ((xs.take k).all Lra.hint = true)) (fun i => n - (intOf i).toNat)
  case atStart => exact ⟨0, rfl, by omega, hid (by simp)⟩
  case round =>
    obtain ⟨k, rfl, hk, HI⟩ := hrel
    by_cases hlt : k < n
    · have hlt' : (k : Int) < n := by omega
      obtain ⟨b', off', e, _, hc, h1, h2⟩ := HX.out.at (j := k) (by rw [HN.out]; exact hlt)
      cases e
      have HT := hid (fun h => Lra.all_take Lra.hint xs k (by rw [HN.out]; exact hlt) HI.out h)
      have HZ := hid (fun h => Lra.all_false Lra.hint xs k (by rw [HN.out]; exact hlt) h)
      generalize xs.getD k 0 = x at hc h1 h2 HT HZ
      have C := hid (hint35 x w)
      cases hp : Lra.hint x
      · have HRF := hid (show r = false by rw [← HR.out]; exact HZ.out hp)
        rw [hp] at C
        clear HT HZ hp
        go_wp2_with (go_at_call 34; refine C.out.mono ?_; clear C; rintro e W ⟨rfl, rfl⟩)
        go_ret
        exact ⟨by rw [HRF.out]; rfl, rfl⟩
      · have HK := hid (HT.out hp)
        rw [hp] at C
        clear HT HZ hp
        go_wp2_with (go_at_call 34; refine C.out.mono ?_; clear C; rintro e W ⟨rfl, rfl⟩)
        go_round
        case rel => exact ⟨k + 1, by go_num, by omega, HK⟩
        case measure => simp [intOf]; omega
    · have hlt' : ¬ (k : Int) < n := by omega
      have HRF := hid (show r = true by
        rw [← HR.out]
        have := HI.out
        rwa [List.take_of_length_le (by rw [HN.out]; omega)] at this)
      go_wp2
      go_ret
      exact ⟨by rw [HRF.out]; rfl, rfl⟩
set_option maxRecDepth 100000 in
set_option maxHeartbeats 4000000 in
theorem all34_31 (a : Option Addr) (n c : Nat) (xs : List Int) (w : World) (hn : xs.length = n) (hb : n ≤ 35184372088832) (hx : Hnts w a xs) :
    Calls Tryd.prog 33 #[.slice a n c, .func (.func 30) #[] #[]] w fun e w' => e = .returned (.bool (xs.all Lra.added)) ∧ w' = w := by
  have HX := hid hx
  have HN := hid hn
  obtain ⟨r, hr⟩ : ∃ r, xs.all Lra.added = r := ⟨_, rfl⟩
  have HR := hid hr
  rw [hr]
  have hsh := hx.shape
  rw [hn] at hsh
  clear hx hn hr
  rcases hsh with h0 | ⟨b, off, rfl⟩
  · subst h0
    have HF := hid (show r = true by rw [← HR.out, List.eq_nil_of_length_eq_zero HN.out]; rfl)
    go_enter Tryd.func33, Tryd.ntmps33
    go_wp2
    go_loop [9] (fun i => i = .int .i64 0) (fun _ => 0)
    case atStart => rfl
    case round =>
      subst hrel
      go_wp2
      go_ret
      exact ⟨by rw [HF.out]; rfl, rfl⟩
  go_enter Tryd.func33, Tryd.ntmps33
  go_wp2
  go_loop [9] (fun i => ∃ k : Nat, i = .int .i64 k ∧ k ≤ n ∧ Hid ((xs.take k).all Lra.added = true)) (fun i => n - (intOf i).toNat)
  case atStart => exact ⟨0, rfl, by omega, hid (by simp)⟩
  case round =>
    obtain ⟨k, rfl, hk, HI⟩ := hrel
    by_cases hlt : k < n
    · have hlt' : (k : Int) < n := by omega
      obtain ⟨b', off', e, _, hc, h1, h2⟩ := HX.out.at (j := k) (by rw [HN.out]; exact hlt)
      cases e
      have HT := hid (fun h => Lra.all_take Lra.added xs k (by rw [HN.out]; exact hlt) HI.out h)
      have HZ := hid (fun h => Lra.all_false Lra.added xs k (by rw [HN.out]; exact hlt) h)
      generalize xs.getD k 0 = x at hc h1 h2 HT HZ
      have C := hid (added31 x w)
      cases hp : Lra.added x
      · have HRF := hid (show r = false by rw [← HR.out]; exact HZ.out hp)
        rw [hp] at C
        clear HT HZ hp
        go_wp2_with (go_at_call 30; refine C.out.mono ?_; clear C; rintro e W ⟨rfl, rfl⟩)
        go_ret
        exact ⟨by rw [HRF.out]; rfl, rfl⟩
      · have HK := hid (HT.out hp)
        rw [hp] at C
        clear HT HZ hp
        go_wp2_with (go_at_call 30; refine C.out.mono ?_; clear C; rintro e W ⟨rfl, rfl⟩)
        go_round
        case rel => exact ⟨k + 1, by go_num, by omega, HK⟩
        case measure => simp [intOf]; omega
    · have hlt' : ¬ (k : Int) < n := by omega
      have HRF := hid (show r = true by
        rw [← HR.out]
        have := HI.out
        rwa [List.take_of_length_le (by rw [HN.out]; omega)] at this)
      go_wp2
      go_ret
      exact ⟨by rw [HRF.out]; rfl, rfl⟩
set_option maxRecDepth 100000 in
set_option maxHeartbeats 4000000 in
theorem all32_33 (a : Option Addr) (n c : Nat) (xs : List Int) (w : World) (hn : xs.length = n) (hb : n ≤ 35184372088832) (hx : Lits w a xs) :
    Calls Tryd.prog 31 #[.slice a n c, .func (.func 32) #[] #[]] w fun e w' => e = .returned (.bool (xs.all Lra.literal)) ∧ w' = w := by
  have HX := hid hx
  have HN := hid hn
  obtain ⟨r, hr⟩ : ∃ r, xs.all Lra.literal = r := ⟨_, rfl⟩
  have HR := hid hr
  rw [hr]
  have hsh := hx.shape
  rw [hn] at hsh
  clear hx hn hr
  rcases hsh with h0 | ⟨b, off, rfl⟩
  · subst h0
    have HF := hid (show r = true by rw [← HR.out, List.eq_nil_of_length_eq_zero HN.out]; rfl)
    go_enter Tryd.func31, Tryd.ntmps31
    go_wp2
    go_loop [9] (fun i => i = .int .i64 0) (fun _ => 0)
    case atStart => rfl
    case round =>
      subst hrel
      go_wp2
      go_ret
      exact ⟨by rw [HF.out]; rfl, rfl⟩
  go_enter Tryd.func31, Tryd.ntmps31
  go_wp2
  go_loop [9] (fun i => ∃ k : Nat, i = .int .i64 k ∧ k ≤ n ∧ Hid ((xs.take k).all Lra.literal = true)) (fun i => n - (intOf i).toNat)
  case atStart => exact ⟨0, rfl, by omega, hid (by simp)⟩
  case round =>
    obtain ⟨k, rfl, hk, HI⟩ := hrel
    by_cases hlt : k < n
    · have hlt' : (k : Int) < n := by omega
      obtain ⟨b', off', e, _, hc, h1, h2⟩ := HX.out.at (j := k) (by rw [HN.out]; exact hlt)
      cases e
      have HT := hid (fun h => Lra.all_take Lra.literal xs k (by rw [HN.out]; exact hlt) HI.out h)
      have HZ := hid (fun h => Lra.all_false Lra.literal xs k (by rw [HN.out]; exact hlt) h)
      generalize xs.getD k 0 = x at hc h1 h2 HT HZ
      have C := hid (literal33 x w)
      cases hp : Lra.literal x
      · have HRF := hid (show r = false by rw [← HR.out]; exact HZ.out hp)
        rw [hp] at C
        clear HT HZ hp
        go_wp2_with (go_at_call 32; refine C.out.mono ?_; clear C; rintro e W ⟨rfl, rfl⟩)
        go_ret
        exact ⟨by rw [HRF.out]; rfl, rfl⟩
      · have HK := hid (HT.out hp)
        rw [hp] at C
        clear HT HZ hp
        go_wp2_with (go_at_call 32; refine C.out.mono ?_; clear C; rintro e W ⟨rfl, rfl⟩)
        go_round
        case rel => exact ⟨k + 1, by go_num, by omega, HK⟩
        case measure => simp [intOf]; omega
    · have hlt' : ¬ (k : Int) < n := by omega
      have HRF := hid (show r = true by
        rw [← HR.out]
        have := HI.out
        rwa [List.take_of_length_le (by rw [HN.out]; omega)] at this)
      go_wp2
      go_ret
      exact ⟨by rw [HRF.out]; rfl, rfl⟩
set_option maxRecDepth 100000 in
set_option maxHeartbeats 4000000 in
theorem mayBe20 (s : Lra.Stp) (a1 : Option Addr) (c1 : Nat) (a2 : Option Addr) (c2 : Nat) (w : World) (hs : StpV w a1 a2 s) :
    Calls Tryd.prog 14 #[sval s a1 c1 a2 c2] w fun e w' => e = .returned (.bool (Lra.may s)) ∧ Below w.heap.size w w' := by
  obtain ⟨kind, id, lits, hints⟩ := s
  obtain ⟨h1, h2, h3, h4, h5⟩ := hs
  simp only at h1 h2 h3 h4 h5
  unfold sval Lra.may
  simp only
  have hB := below_box w (.cells #[.int .u8 kind, .int .i64 id, .slice a1 lits.length c1, .slice a2 hints.length c2] 39)
  have H1 := hid (h1.below hB)
  have H2 := hid (h2.below hB)
  have HB := hid hB
  have H5 := hid h5
  by_cases k1 : kind = 1
  · rw [if_pos k1]
    subst k1
    generalize hW : w.alloc (.cells #[.int .u8 1, .int .i64 id, .slice a1 lits.length c1, .slice a2 hints.length c2] 39) = W1 at H1 H2 HB
    have C31 := hid (added31 id W1)
    have C32 := hid (all32_33 a1 lits.length c1 lits W1 rfl H5.out.1 H1.out)
    have C34 := hid (all34_35 a2 hints.length c2 hints W1 rfl H5.out.2 H2.out)
    have hx := heap_alloc_new w (.cells #[.int .u8 1, .int .i64 id, .slice a1 lits.length c1, .slice a2 hints.length c2] 39)
    rw [hW] at hx
    have x0 := row_cell hx 0
    have x1 := row_cell hx 1
    have x2 := row_cell hx 2
    have x3 := row_cell hx 3
    simp only [List.getElem?_toArray, List.getElem?_cons_zero, List.getElem?_cons_succ] at x0 x1 x2 x3
    generalize lits.length = n1 at hW C32 x2
    generalize hints.length = n2 at hW C34 x3
    generalize lits.all Lra.literal = b2 at C32
    generalize hints.all Lra.hint = b3 at C34
    generalize Lra.added id = b1 at C31
    clear hx h1 h2 h3 h4 h5 H1 H2 H5 hB
    cases b1
    · go_enter Tryd.func14, Tryd.ntmps14
      go_wp2_with (first
        | (go_at_call 30; refine C31.out.mono ?_; clear C31; rintro e W ⟨rfl, rfl⟩))
      go_ret
      exact ⟨rfl, HB.out⟩
    · cases b2
      all_goals
        go_enter Tryd.func14, Tryd.ntmps14
        go_wp2_with (first
          | (go_at_call 30; refine C31.out.mono ?_; clear C31; rintro e W ⟨rfl, rfl⟩)
          | (go_at_call 31; refine C32.out.mono ?_; clear C32; rintro e W ⟨rfl, rfl⟩)
          | (go_at_call 33; refine C34.out.mono ?_; clear C34; rintro e W ⟨rfl, rfl⟩))
        go_ret
        exact ⟨rfl, HB.out⟩
  by_cases k2 : kind = 2
  · rw [if_neg k1, if_pos k2]
    subst k2
    generalize hW : w.alloc (.cells #[.int .u8 2, .int .i64 id, .slice a1 lits.length c1, .slice a2 hints.length c2] 39) = W1 at H1 H2 HB
    have C36 := hid (known36 id W1)
    have C34 := hid (all34_31 a2 hints.length c2 hints W1 rfl H5.out.2 H2.out)
    have hx := heap_alloc_new w (.cells #[.int .u8 2, .int .i64 id, .slice a1 lits.length c1, .slice a2 hints.length c2] 39)
    rw [hW] at hx
    have x0 := row_cell hx 0
    have x1 := row_cell hx 1
    have x2 := row_cell hx 2
    have x3 := row_cell hx 3
    simp only [List.getElem?_toArray, List.getElem?_cons_zero, List.getElem?_cons_succ] at x0 x1 x2 x3
    have he : lits.isEmpty = ((lits.length : Int) == 0) := by cases lits <;> simp <;> omega
    rw [he]
    clear he
    generalize lits.length = n1 at hW x2 ⊢
    generalize hints.length = n2 at hW C34 x3
    generalize hints.all Lra.added = b3 at C34
    generalize Lra.known id = b1 at C36
    clear hx h1 h2 h3 h4 h5 H1 H2 H5 hB k1
    cases b1
    · go_enter Tryd.func14, Tryd.ntmps14
      go_wp2_with (first
        | (go_at_call 35; refine C36.out.mono ?_; clear C36; rintro e W ⟨rfl, rfl⟩))
      go_ret
      exact ⟨rfl, HB.out⟩
    · cases hz : ((n1 : Int) == 0)
      all_goals
        go_enter Tryd.func14, Tryd.ntmps14
        go_wp2_with (first
          | (go_at_call 35; refine C36.out.mono ?_; clear C36; rintro e W ⟨rfl, rfl⟩)
          | (go_at_call 33; refine C34.out.mono ?_; clear C34; rintro e W ⟨rfl, rfl⟩))
        go_ret
        exact ⟨rfl, HB.out⟩
  · rw [if_neg k1, if_neg k2]
    have e1 : (kind == 1) = false := by simpa using k1
    have e2 : (kind == 2) = false := by simpa using k2
    clear h1 h2 h3 h4 h5 H1 H2 H5 hB k1 k2
    generalize lits.length = n1 at HB ⊢
    generalize hints.length = n2 at HB ⊢
    go_enter Tryd.func14, Tryd.ntmps14
    go_wp2
    go_ret
    exact ⟨rfl, HB.out⟩
set_option maxRecDepth 100000 in
set_option maxHeartbeats 4000000 in
theorem tooMany19 (a : Option Addr) (n c : Nat) (ss : List Lra.Stp) (w : World) (hn : ss.length = n) (hb : n ≤ 4194304) (hs : Steps w a ss) (hi : Lra.items ss ≤ 1099511627776) :
    Calls Tryd.prog 13 #[.slice a n c] w fun e w' => e = .returned (.bool (decide (16777216 < Lra.items ss))) ∧ Below w.heap.size w w' := by
  have HS := hid hs
  have HN := hid hn
  have sh := hs.shape
  rw [hn] at sh
  clear hs hn
  obtain ⟨r, hr⟩ : ∃ r, Lra.items ss = r := ⟨_, rfl⟩
  have HR := hid hr
  rw [hr] at hi ⊢
  clear hr
  rcases sh with Z | ⟨b, off, rfl⟩
  all_goals
    go_enter Tryd.func13, Tryd.ntmps13
    go_wp2
    go_loopw [3, 11] (fun mv iv wr => ∃ k m : Nat, mv = .int .i64 m ∧ iv = .int .i64 k ∧ k ≤ n ∧ m ≤ 1099511627776 ∧ Hid (m = Lra.items (ss.take k)) ∧ Hid (Below w.heap.size w wr)) (fun _ iv _ => n - (intOf iv).toNat)
    case atStart => exact ⟨0, 0, rfl, rfl, by omega, by omega, hid (by simp [Lra.items]), hid (Below.refl _ _)⟩
    case round =>
      obtain ⟨k, m, rfl, rfl, hk, hm, HM, HB⟩ := hrel
      by_cases hlt : k < n
      · have hlt' : (k : Int) < n := by omega
        first
        | (exfalso; have := Z.out; omega)
        | (have hks : k < ss.length := by rw [HN.out]; exact hlt
           obtain ⟨a1, c1, a2, c2, hst⟩ := (HS.out.below HB.out).at (j := k) hks
           have HT := hid (Lra.items_take ss k hks)
           have hle := Lra.items_le ss (k + 1)
           rw [HT.out, ← HM.out, HR.out] at hle
           obtain ⟨x0, x1, x2, x3, _⟩ := hst
           generalize ss[k] = s at x0 x1 x2 x3 HT hle
           generalize s.lits.length = n1 at x2 HT hle
           generalize s.hints.length = n2 at x3 HT hle
           generalize s.kind = kd at x0
           generalize s.id = id at x1
           go_wp2
           go_roundw
           case rel => exact ⟨k + 1, m + (n1 + n2), by go_num, by go_num, by omega, by omega, hid (by rw [HT.out, HM.out]), hid (HB.out.alloc HB.out.size _)⟩
           case measure => simp [intOf]; omega)
      · have hlt' : ¬ (k : Int) < n := by omega
        have hmr : m = r := by rw [HM.out, ← HR.out, List.take_of_length_le (by rw [HN.out]; omega)]
        subst hmr
        go_wp2
        go_ret
        exact ⟨congrArg (fun b => Ending.returned (.bool b)) (by rw [decide_eq_decide]; omega), HB.out⟩
end Go.Proofs.YtmgeoeajnpnadaaDoor
