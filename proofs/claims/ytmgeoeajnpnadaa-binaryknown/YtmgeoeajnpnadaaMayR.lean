/- May a step be, by the document's own function. -/
import Derived.Test.YtmgeoeajnpnadaaMay
namespace Go.Proofs.Ytmgeoeajnpnadaa
open Go.RowKit
set_option linter.unusedVariables false

set_option maxHeartbeats 1000000 in
theorem lit37 (n : Int) (w : World) : Calls Try.prog 37 #[.int .i32 n] w fun e w' => e = .returned (.bool (Lra.literal n)) ∧ w' = w := by
  go_enter Try.func37, Try.ntmps37
  go_wp2
  all_goals go_ret
  all_goals exact ⟨by simp_all [Lra.literal] <;> omega, rfl⟩

theorem hint_cases (x : Int) : (Lra.hint x = false ∧ (x == 0) = true) ∨ (Lra.hint x = false ∧ 4611686018427387903 < x) ∨ (Lra.hint x = false ∧ (x == 0) = false ∧ x < -4611686018427387903) ∨ (Lra.hint x = true ∧ (x == 0) = false ∧ ¬ 4611686018427387903 < x ∧ ¬ x < -4611686018427387903) := by
  unfold Lra.hint
  by_cases h0 : x = 0
  · left; simp [h0]
  · by_cases h1 : 4611686018427387903 < x
    · right; left; refine ⟨?_, h1⟩; simp; intro _ _; omega
    · by_cases h2 : x < -4611686018427387903
      · right; right; left; refine ⟨?_, by simpa using h0, h2⟩; simp; intro _ h; omega
      · right; right; right; refine ⟨?_, by simpa using h0, h1, h2⟩; simp [h0]; omega

set_option maxRecDepth 100000 in
set_option maxHeartbeats 4000000 in
theorem may24_add (id : Int) (lits hints : List Int) (a1 : Option Addr) (n1 c1 : Nat) (a2 : Option Addr) (n2 c2 : Nat) (w W1 : World) (hn1 : lits.length = n1) (hn2 : hints.length = n2)
    (hW : w.alloc (.cells #[.int .u8 1, .int .i64 id, .slice a1 n1 c1, .slice a2 n2 c2] 43) = W1) (h1 : Lits W1 a1 lits) (h2 : Hnts W1 a2 hints) (b1 : n1 ≤ 35184372088832) (b2 : n2 ≤ 35184372088832) (hok : Lra.added id = true) :
    Calls Try.prog 21 #[.agg #[.int .u8 1, .int .i64 id, .slice a1 n1 c1, .slice a2 n2 c2]] w fun e w' => e = .returned (.bool (lits.all Lra.literal && hints.all Lra.hint)) ∧ w' = W1 := by
  have hx := heap_alloc_new w (.cells #[.int .u8 1, .int .i64 id, .slice a1 n1 c1, .slice a2 n2 c2] 43)
  rw [hW] at hx
  have x0 := row_cell hx 0
  have x1 := row_cell hx 1
  have x2 := row_cell hx 2
  have x3 := row_cell hx 3
  simp only [List.getElem?_toArray, List.getElem?_cons_zero, List.getElem?_cons_succ] at x0 x1 x2 x3
  have k1 : ¬ id < 1 := by unfold Lra.added at hok; simp at hok; omega
  have k2 : ¬ 4611686018427387903 < id := by unfold Lra.added at hok; simp at hok; omega
  clear hx hok
  have H1 := hid h1
  have H2 := hid h2
  have N1 := hid hn1
  have N2 := hid hn2
  have sh1 := h1.shape
  have sh2 := h2.shape
  rw [hn1] at sh1
  rw [hn2] at sh2
  clear h1 h2 hn1 hn2
  obtain ⟨r1, hr1⟩ : ∃ r1, lits.all Lra.literal = r1 := ⟨_, rfl⟩
  obtain ⟨r2, hr2⟩ : ∃ r2, hints.all Lra.hint = r2 := ⟨_, rfl⟩
  have R1 := hid hr1
  have R2 := hid hr2
  rw [hr1, hr2]
  clear hr1 hr2
  have sh3 : Hid (n1 = 0) ∨ ∃ b off, a1 = some ⟨b, off, none⟩ := sh1
  have sh4 : Hid (n2 = 0) ∨ ∃ b off, a2 = some ⟨b, off, none⟩ := sh2
  clear sh1 sh2
  rcases sh3 with Z1 | ⟨g1, o1, rfl⟩ <;> rcases sh4 with Z2 | ⟨g2, o2, rfl⟩
  all_goals
    go_enter Try.func21, Try.ntmps21
    go_wp2
    go_loop [4] (fun i => ∃ k : Nat, i = .int .i64 k ∧ k ≤ n1 ∧ Hid ((lits.take k).all Lra.literal = true)) (fun i => n1 - (intOf i).toNat)
    case atStart => exact ⟨0, rfl, by omega, hid (by simp)⟩
    case round =>
      obtain ⟨k, rfl, hk, HI⟩ := hrel
      by_cases hlt : k < n1
      · have hlt' : (k : Int) < n1 := by omega
        first
        | (exfalso; have := Z1.out; omega)
        | (obtain ⟨b', off', e, _, hc, h1, h2⟩ := H1.out.at (j := k) (by rw [N1.out]; exact hlt)
           cases e
           have HT := hid (fun h => Lra.all_take Lra.literal lits k (by rw [N1.out]; exact hlt) HI.out h)
           have HZ := hid (fun h => Lra.all_false Lra.literal lits k (by rw [N1.out]; exact hlt) h)
           generalize lits.getD k 0 = x at hc h1 h2 HT HZ
           have C := hid (lit37 x W1)
           cases hp : Lra.literal x
           · have HRF := hid (show r1 = false by rw [← R1.out]; exact HZ.out hp)
             rw [hp] at C
             clear HT HZ hp
             go_wp2_with (go_at_call 37; refine C.out.mono ?_; clear C; rintro e W ⟨rfl, rfl⟩)
             go_ret
             exact ⟨by rw [HRF.out]; rfl, rfl⟩
           · have HK := hid (HT.out hp)
             rw [hp] at C
             clear HT HZ hp
             go_wp2_with (go_at_call 37; refine C.out.mono ?_; clear C; rintro e W ⟨rfl, rfl⟩)
             go_round
             case rel => exact ⟨k + 1, by go_num, by omega, HK⟩
             case measure => simp [intOf]; omega)
      · have hlt' : ¬ (k : Int) < n1 := by omega
        have HR1 := hid (show r1 = true by
          rw [← R1.out]
          have := HI.out
          rwa [List.take_of_length_le (by rw [N1.out]; omega)] at this)
        go_wp2
        go_loop [5] (fun i => ∃ q : Nat, i = .int .i64 q ∧ q ≤ n2 ∧ Hid ((hints.take q).all Lra.hint = true)) (fun i => n2 - (intOf i).toNat)
        case atStart => exact ⟨0, rfl, by omega, hid (by simp)⟩
        case round =>
          obtain ⟨q, rfl, hq, HJ⟩ := hrel
          by_cases hl2 : q < n2
          · have hl2' : (q : Int) < n2 := by omega
            first
            | (exfalso; have := Z2.out; omega)
            | (obtain ⟨b', off', e, _, hc, h1, h2⟩ := H2.out.at (j := q) (by rw [N2.out]; exact hl2)
               cases e
               have HT := hid (fun h => Lra.all_take Lra.hint hints q (by rw [N2.out]; exact hl2) HJ.out h)
               have HZ := hid (fun h => Lra.all_false Lra.hint hints q (by rw [N2.out]; exact hl2) h)
               generalize hints.getD q 0 = x at hc h1 h2 HT HZ
               have hcases := hint_cases x
               rcases hcases with ⟨t0, t1⟩ | ⟨t0, t1⟩ | ⟨t0, t1, t2⟩ | ⟨t0, t1, t2, t3⟩
               · have HRF := hid (show r2 = false by rw [← R2.out]; exact HZ.out t0)
                 clear HT HZ t0
                 go_wp2
                 go_ret
                 exact ⟨by rw [HRF.out, Bool.and_false]; rfl, rfl⟩
               · have HRF := hid (show r2 = false by rw [← R2.out]; exact HZ.out t0)
                 clear HT HZ t0
                 go_wp2
                 go_ret
                 exact ⟨by rw [HRF.out, Bool.and_false]; rfl, rfl⟩
               · have HRF := hid (show r2 = false by rw [← R2.out]; exact HZ.out t0)
                 clear HT HZ t0
                 go_wp2
                 go_ret
                 exact ⟨by rw [HRF.out, Bool.and_false]; rfl, rfl⟩
               · have HK := hid (HT.out t0)
                 clear HT HZ t0
                 go_wp2
                 all_goals
                   go_round
                   case rel => exact ⟨q + 1, by go_num, by omega, HK⟩
                   case measure => simp [intOf]; omega)
          · have hl2' : ¬ (q : Int) < n2 := by omega
            have HR2 := hid (show r2 = true by
              rw [← R2.out]
              have := HJ.out
              rwa [List.take_of_length_le (by rw [N2.out]; omega)] at this)
            go_wp2
            go_ret
            exact ⟨by rw [HR1.out, HR2.out]; rfl, rfl⟩
theorem added_cases (x : Int) : (Lra.added x = false ∧ (x == 0) = true) ∨ (Lra.added x = false ∧ 4611686018427387903 < x) ∨ (Lra.added x = false ∧ (x == 0) = false ∧ x < -4611686018427387903) ∨ (Lra.added x = false ∧ (x == 0) = false ∧ ¬ 4611686018427387903 < x ∧ ¬ x < -4611686018427387903 ∧ x < 0) ∨ (Lra.added x = true ∧ ¬ 4611686018427387903 < x ∧ ¬ x < 0 ∧ (x == 0) = false) := by
  unfold Lra.added
  by_cases h0 : x = 0
  · left; simp [h0]
  · by_cases h1 : 4611686018427387903 < x
    · right; left; refine ⟨?_, h1⟩; simp; intro _; omega
    · by_cases h2 : x < -4611686018427387903
      · right; right; left; refine ⟨?_, by simpa using h0, h2⟩; simp; intro _; omega
      · by_cases h3 : x < 0
        · right; right; right; left; refine ⟨?_, by simpa using h0, h1, h2, h3⟩; simp; intro _; omega
        · right; right; right; right; refine ⟨?_, h1, h3, by simpa using h0⟩; simp; omega

set_option maxRecDepth 100000 in
set_option maxHeartbeats 4000000 in
theorem may24_del (id : Int) (lits hints : List Int) (a1 : Option Addr) (n1 c1 : Nat) (a2 : Option Addr) (n2 c2 : Nat) (w W1 : World) (hn1 : lits.length = n1) (hn2 : hints.length = n2)
    (hW : w.alloc (.cells #[.int .u8 2, .int .i64 id, .slice a1 n1 c1, .slice a2 n2 c2] 43) = W1) (h1 : Lits W1 a1 lits) (h2 : Hnts W1 a2 hints) (b1 : n1 ≤ 35184372088832) (b2 : n2 ≤ 35184372088832) (hok : Lra.known id = true) (hz : n1 = 0) :
    Calls Try.prog 21 #[.agg #[.int .u8 2, .int .i64 id, .slice a1 n1 c1, .slice a2 n2 c2]] w fun e w' => e = .returned (.bool (hints.all Lra.added)) ∧ w' = W1 := by
  have hx := heap_alloc_new w (.cells #[.int .u8 2, .int .i64 id, .slice a1 n1 c1, .slice a2 n2 c2] 43)
  rw [hW] at hx
  have x0 := row_cell hx 0
  have x1 := row_cell hx 1
  have x2 := row_cell hx 2
  have x3 := row_cell hx 3
  simp only [List.getElem?_toArray, List.getElem?_cons_zero, List.getElem?_cons_succ] at x0 x1 x2 x3
  have k1 : ¬ id < 0 := by unfold Lra.known at hok; simp at hok; omega
  subst hz
  have k2 : ¬ 4611686018427387903 < id := by unfold Lra.known at hok; simp at hok; omega
  clear hx hok
  have H1 := hid h1
  have H2 := hid h2
  have N1 := hid hn1
  have N2 := hid hn2
  have sh1 := h1.shape
  have sh2 := h2.shape
  rw [hn1] at sh1
  rw [hn2] at sh2
  clear h1 h2 hn1 hn2
  obtain ⟨r2, hr2⟩ : ∃ r2, hints.all Lra.added = r2 := ⟨_, rfl⟩
  have R2 := hid hr2
  rw [hr2]
  clear hr2 sh1
  have sh4 : Hid (n2 = 0) ∨ ∃ b off, a2 = some ⟨b, off, none⟩ := sh2
  clear sh2
  rcases sh4 with Z2 | ⟨g2, o2, rfl⟩
  all_goals
    go_enter Try.func21, Try.ntmps21
    go_wp2
    go_loop [4] (fun i => i = .int .i64 0) (fun _ => 0)
    case atStart => rfl
    case round =>
        subst hrel
        go_wp2
        go_loop [5] (fun i => ∃ q : Nat, i = .int .i64 q ∧ q ≤ n2 ∧ Hid ((hints.take q).all Lra.added = true)) (fun i => n2 - (intOf i).toNat)
        case atStart => exact ⟨0, rfl, by omega, hid (by simp)⟩
        case round =>
          obtain ⟨q, rfl, hq, HJ⟩ := hrel
          by_cases hl2 : q < n2
          · have hl2' : (q : Int) < n2 := by omega
            first
            | (exfalso; have := Z2.out; omega)
            | (obtain ⟨b', off', e, _, hc, h1, h2⟩ := H2.out.at (j := q) (by rw [N2.out]; exact hl2)
               cases e
               have HT := hid (fun h => Lra.all_take Lra.added hints q (by rw [N2.out]; exact hl2) HJ.out h)
               have HZ := hid (fun h => Lra.all_false Lra.added hints q (by rw [N2.out]; exact hl2) h)
               generalize hints.getD q 0 = x at hc h1 h2 HT HZ
               have hcases := added_cases x
               rcases hcases with ⟨t0, t1⟩ | ⟨t0, t1⟩ | ⟨t0, t1, t2⟩ | ⟨t0, t1, t2, t3, t4⟩ | ⟨t0, t1, t2, t3⟩
               · have HRF := hid (show r2 = false by rw [← R2.out]; exact HZ.out t0)
                 clear HT HZ t0
                 go_wp2
                 go_ret
                 exact ⟨by rw [HRF.out]; rfl, rfl⟩
               · have HRF := hid (show r2 = false by rw [← R2.out]; exact HZ.out t0)
                 clear HT HZ t0
                 go_wp2
                 go_ret
                 exact ⟨by rw [HRF.out]; rfl, rfl⟩
               · have HRF := hid (show r2 = false by rw [← R2.out]; exact HZ.out t0)
                 clear HT HZ t0
                 go_wp2
                 go_ret
                 exact ⟨by rw [HRF.out]; rfl, rfl⟩
               · have HRF := hid (show r2 = false by rw [← R2.out]; exact HZ.out t0)
                 clear HT HZ t0
                 go_wp2
                 go_ret
                 exact ⟨by rw [HRF.out]; rfl, rfl⟩
               · have HK := hid (HT.out t0)
                 clear HT HZ t0
                 go_wp2
                 all_goals
                   go_round
                   case rel => exact ⟨q + 1, by go_num, by omega, HK⟩
                   case measure => simp [intOf]; omega)
          · have hl2' : ¬ (q : Int) < n2 := by omega
            have HR2 := hid (show r2 = true by
              rw [← R2.out]
              have := HJ.out
              rwa [List.take_of_length_le (by rw [N2.out]; omega)] at this)
            go_wp2
            go_ret
            exact ⟨by rw [HR2.out]; rfl, rfl⟩

set_option maxRecDepth 100000 in
set_option maxHeartbeats 4000000 in
theorem may21 (s : Lra.Stp) (a1 : Option Addr) (c1 : Nat) (a2 : Option Addr) (c2 : Nat) (w : World) (hs : StpV w a1 a2 s) :
    Calls Try.prog 21 #[sval s a1 c1 a2 c2] w fun e w' => e = .returned (.bool (Lra.may s)) ∧ Below w.heap.size w w' := by
  obtain ⟨kind, id, lits, hints⟩ := s
  obtain ⟨h1, h2, h3, h4, h5⟩ := hs
  simp only at h1 h2 h3 h4 h5
  unfold sval Lra.may
  simp only
  have hB := below_box w (.cells #[.int .u8 kind, .int .i64 id, .slice a1 lits.length c1, .slice a2 hints.length c2] 43)
  have HB := hid hB
  by_cases k1 : kind = 1
  · rw [if_pos k1]
    subst k1
    cases hok : Lra.added id
    · have hid' : id < 1 ∨ (¬ id < 1 ∧ 4611686018427387903 < id) := by unfold Lra.added at hok; simp at hok; omega
      clear h1 h2 h3 h4 h5 hB hok
      generalize lits.length = n1 at HB ⊢
      generalize hints.length = n2 at HB ⊢
      rcases hid' with q | ⟨q1, q2⟩
      all_goals
        go_enter Try.func21, Try.ntmps21
        go_wp2
        go_ret
        exact ⟨rfl, HB.out⟩
    · refine (may24_add id lits hints a1 lits.length c1 a2 hints.length c2 w _ rfl rfl rfl (h1.below hB) (h2.below hB) h5.1 h5.2 hok).mono ?_
      rintro e w' ⟨rfl, rfl⟩
      exact ⟨rfl, hB⟩
  by_cases k2 : kind = 2
  · rw [if_neg k1, if_pos k2]
    subst k2
    by_cases hl : lits.length = 0
    · have hl' : lits = [] := List.eq_nil_of_length_eq_zero hl
      subst hl'
      cases hok : Lra.known id
      · have hid' : id < 0 ∨ (¬ id < 0 ∧ 4611686018427387903 < id) := by unfold Lra.known at hok; simp at hok; omega
        clear h1 h2 h3 h4 h5 hB hok k1 hl
        simp only [List.length_nil] at HB ⊢
        generalize hints.length = n2 at HB ⊢
        rcases hid' with q | ⟨q1, q2⟩
        all_goals
          go_enter Try.func21, Try.ntmps21
          go_wp2
          go_ret
          exact ⟨rfl, HB.out⟩
      · refine (may24_del id [] hints a1 0 c1 a2 hints.length c2 w _ rfl rfl rfl (h1.below hB) (h2.below hB) (by omega) h5.2 hok rfl).mono ?_
        rintro e w' ⟨rfl, rfl⟩
        exact ⟨by simp, hB⟩
    · have hp : (0 : Int) < lits.length := by omega
      have he : lits.isEmpty = false := by cases lits with
        | nil => simp at hl
        | cons a b => rfl
      rw [he, Bool.false_and, Bool.and_false]
      clear h1 h2 h3 h4 h5 hB k1 hl he
      generalize lits.length = n1 at HB hp ⊢
      generalize hints.length = n2 at HB ⊢
      go_enter Try.func21, Try.ntmps21
      go_wp2
      go_ret
      exact ⟨rfl, HB.out⟩
  · rw [if_neg k1, if_neg k2]
    have e1 : (kind == 1) = false := by simpa using k1
    have e2 : (kind == 2) = false := by simpa using k2
    clear h1 h2 h3 h4 h5 hB k1 k2
    generalize lits.length = n1 at HB ⊢
    generalize hints.length = n2 at HB ⊢
    go_enter Try.func21, Try.ntmps21
    go_wp2
    go_ret
    exact ⟨rfl, HB.out⟩
end Go.Proofs.Ytmgeoeajnpnadaa
