/- The document's Of, Value. -/
import Derived.Test.YtckpahdlcdgbpaaDtB
namespace Trl
theorem of_idx {n : Nat} {s : S} (h : Ok n s) (v : Int) : (idxI s.R v < 0 → levelOf s.R v = -1 ∧ reasonOf s.R v = -1 ∧ placeOf s.R v = -1) ∧ ∀ i : Nat, idxI s.R v = i → i < s.R.length ∧ levelOf s.R v = (get s.R i).lev ∧ reasonOf s.R v = (get s.R i).rea ∧ placeOf s.R v = i := by
  constructor
  · intro h1
    have hx := idxI_none.1 h1
    have hk : know s.R v = K0 := by unfold know; rw [hx]; rfl
    unfold levelOf reasonOf placeOf
    rw [hk]
    exact ⟨rfl, rfl, rfl⟩
  · intro i hi
    unfold idxI at hi
    cases hx : idx s.R v with
    | none => rw [hx] at hi; simp at hi
    | some j =>
      rw [hx] at hi
      simp at hi
      have hij : j = i := by omega
      subst hij
      obtain ⟨h1, h2⟩ := idx_some hx
      have hn := lit_ne h h1
      have hk : know s.R v = ⟨(get s.R j).lit, (get s.R j).lev, (get s.R j).rea, j⟩ := by unfold know; rw [hx]; rfl
      unfold levelOf reasonOf placeOf
      rw [hk]
      simp only
      rw [if_neg hn, if_neg hn, if_neg hn]
      exact ⟨h1, rfl, rfl, rfl⟩
theorem value_none {n : Nat} {s : S} (h : Ok n s) {l : Int} (hl : ∀ k, k < s.R.length → (get s.R k).lit ≠ l ∧ (get s.R k).lit ≠ -l) : valueOf s.R l = 0 := by
  have hx : idx s.R (vr l) = none := idx_no (fun e he hv => by
    obtain ⟨k, hk, rfl⟩ := List.getElem_of_mem he
    have h1 := hl k hk
    have e1 : get s.R k = s.R[k] := by simp [get, List.getD, hk]
    rw [e1] at h1
    unfold vr at hv
    split at hv <;> split at hv <;> omega)
  unfold valueOf
  rw [if_pos ((know_lit h _).2 hx)]
end Trl
namespace Go.Proofs.Ytckpahdlcdgbpaa
open Go.RowKit Go.Maps
set_option linter.unusedVariables false
set_option maxRecDepth 100000

set_option maxHeartbeats 2000000 in
theorem of39 {B db n : Nat} {s : Trl.S} {W : World} (H : Dtx B db n s W) (v : Int) :
    Calls Try.prog 39 #[.pointer (some ⟨db, 0, none⟩), .int .i64 v] W fun e w' => e = .returned (.tuple #[.int .i64 (Trl.levelOf s.R v), .int .i64 (Trl.reasonOf s.R v), .int .i64 (Trl.placeOf s.R v)]) ∧ Drawn W w' := by
  have C := hid (find54 H v)
  obtain ⟨rv, h⟩ := H
  obtain ⟨o, c, rfl, hsh⟩ := h.shape
  obtain ⟨q1, q2⟩ := Trl.of_idx h.ok v
  have hln := h.ok.len
  have hn := h.ok.n
  have c1 := row_cell h.blk 1
  by_cases hneg : Trl.idxI s.R v < 0
  · obtain ⟨e1, e2, e3⟩ := q1 hneg
    rw [e1, e2, e3]
    generalize Trl.idxI s.R v = iv at *
    clear h q1 q2
    go_enter Try.func39, Try.ntmps39
    go_wp2_with (go_at_call 54; refine C.out.mono ?_; rintro e w4 ⟨rfl, hw4⟩; rw [hw4]; clear hw4)
    refine bodyPost_ret (results_tmp3 rfl _ _ _) rfl ?_
    exact ⟨rfl, Drawn.refl _⟩
  · obtain ⟨i, hi⟩ : ∃ i : Nat, Trl.idxI s.R v = i := ⟨(Trl.idxI s.R v).toNat, by omega⟩
    obtain ⟨hil, e1, e2, e3⟩ := q2 i hi
    rw [e1, e2, e3]
    rw [hi] at C hneg
    obtain ⟨g, rfl⟩ : ∃ g, o = some ⟨g, 0, none⟩ := by
      rcases hsh with h0 | h0
      · omega
      · exact h0
    have d1 := h.cell hil (t := 1) rfl
    have d2 := h.cell hil (t := 2) rfl
    have hil' : (i : Int) < s.R.length := by omega
    generalize (Trl.get s.R i).lev = lv at *
    generalize (Trl.get s.R i).rea = rr at *
    clear h q1 q2 e1 e2 e3 hi
    go_enter Try.func39, Try.ntmps39
    go_wp2_with (go_at_call 54; refine C.out.mono ?_; rintro e w4 ⟨rfl, hw4⟩; rw [hw4]; clear hw4)
    go_quiet (fail)
    go_wp2
    refine bodyPost_ret (results_tmp3 rfl _ _ _) rfl ?_
    exact ⟨rfl, _, rfl⟩
set_option maxHeartbeats 2000000 in
theorem value40_z {B db n : Nat} {s : Trl.S} {W : World} (H : Dtx B db n s W) (l : Int) (hl : l = 0) :
    Calls Try.prog 40 #[.pointer (some ⟨db, 0, none⟩), .int .i32 l] W fun e w' => e = .returned (.int .i64 (Trl.valueOf s.R l)) ∧ w' = W := by
  obtain ⟨rv, h⟩ := H
  obtain ⟨o, c, rfl, hsh⟩ := h.shape
  have hln := h.ok.len
  have hn := h.ok.n
  have c1 := row_cell h.blk 1
  have HD := hid h
  clear h
  subst hl
  go_enter Try.func40, Try.ntmps40
  go_wp2
  go_loop [5] (fun iv => ∃ i : Nat, i ≤ s.R.length ∧ iv = .int .i64 i ∧ Hid (∀ k, k < i → (Trl.get s.R k).lit ≠ 0 ∧ (Trl.get s.R k).lit ≠ (-0))) (fun iv => s.R.length - (intOf iv).toNat)
  case atStart => exact ⟨0, Nat.zero_le _, rfl, hid (fun k hk => by omega)⟩
  case round =>
    obtain ⟨i, hi, rfl, HN⟩ := hrel
    by_cases hlt : i < s.R.length
    · have hlt' : (i : Int) < s.R.length := by omega
      obtain ⟨g, rfl⟩ : ∃ g, o = some ⟨g, 0, none⟩ := by
        rcases hsh with h0 | h0
        · omega
        · exact h0
      have x0 := HD.out.cell hlt (t := 0) rfl
      rw [Nat.add_zero] at x0
      obtain ⟨t1, t2, _, _⟩ := Trl.tells_at HD.out.ok hlt
      have hlit := HD.out.ok.lits _ (Trl.get_mem hlt)
      have hne0 := Trl.lit_ne HD.out.ok hlt
      obtain ⟨L, hL⟩ : ∃ L, (Trl.get s.R i).lit = L := ⟨_, rfl⟩
      rw [hL] at x0 t1 t2 hlit hne0
      have hLb : -1048576 ≤ L ∧ L ≤ 1048576 := by unfold Trl.vr at hlit; split at hlit <;> omega
      have hLb1 := hLb.1
      have hLb2 := hLb.2
      have HN2 := hid (fun (h1 : L ≠ 0) (h2 : L ≠ (-0)) => show ∀ k, k < i + 1 → (Trl.get s.R k).lit ≠ 0 ∧ (Trl.get s.R k).lit ≠ (-0) from fun k hk => by
        rcases Nat.lt_or_ge k i with h' | h'
        · exact HN.out k h'
        · obtain rfl : k = i := by omega
          rw [hL]; exact ⟨h1, h2⟩)
      clear hL hLb hlit
      have hb : (L == 0) = false := by simpa using hne0
      clear t1 t2
      go_wp2
      exact ⟨⟨i + 1, by omega, by go_num, hid (HN2.out (by omega) (by omega))⟩, by simp only [intOf]; omega⟩
    · have hge : ¬ (i : Int) < s.R.length := by omega
      have HE := hid (Trl.value_none HD.out.ok (l := 0) (fun k hk => HN.out k (by omega)))
      go_wp2
      go_ret
      exact ⟨by rw [HE.out]; rfl, rfl⟩
set_option maxHeartbeats 2000000 in
theorem value40_m {B db n : Nat} {s : Trl.S} {W : World} (H : Dtx B db n s W) (l : Int) (hl : l = -2147483648) :
    Calls Try.prog 40 #[.pointer (some ⟨db, 0, none⟩), .int .i32 l] W fun e w' => e = .returned (.int .i64 (Trl.valueOf s.R l)) ∧ w' = W := by
  obtain ⟨rv, h⟩ := H
  obtain ⟨o, c, rfl, hsh⟩ := h.shape
  have hln := h.ok.len
  have hn := h.ok.n
  have c1 := row_cell h.blk 1
  have HD := hid h
  clear h
  subst hl
  go_enter Try.func40, Try.ntmps40
  go_wp2
  go_loop [5] (fun iv => ∃ i : Nat, i ≤ s.R.length ∧ iv = .int .i64 i ∧ Hid (∀ k, k < i → (Trl.get s.R k).lit ≠ (-2147483648) ∧ (Trl.get s.R k).lit ≠ (-(-2147483648)))) (fun iv => s.R.length - (intOf iv).toNat)
  case atStart => exact ⟨0, Nat.zero_le _, rfl, hid (fun k hk => by omega)⟩
  case round =>
    obtain ⟨i, hi, rfl, HN⟩ := hrel
    by_cases hlt : i < s.R.length
    · have hlt' : (i : Int) < s.R.length := by omega
      obtain ⟨g, rfl⟩ : ∃ g, o = some ⟨g, 0, none⟩ := by
        rcases hsh with h0 | h0
        · omega
        · exact h0
      have x0 := HD.out.cell hlt (t := 0) rfl
      rw [Nat.add_zero] at x0
      obtain ⟨t1, t2, _, _⟩ := Trl.tells_at HD.out.ok hlt
      have hlit := HD.out.ok.lits _ (Trl.get_mem hlt)
      have hne0 := Trl.lit_ne HD.out.ok hlt
      obtain ⟨L, hL⟩ : ∃ L, (Trl.get s.R i).lit = L := ⟨_, rfl⟩
      rw [hL] at x0 t1 t2 hlit hne0
      have hLb : -1048576 ≤ L ∧ L ≤ 1048576 := by unfold Trl.vr at hlit; split at hlit <;> omega
      have hLb1 := hLb.1
      have hLb2 := hLb.2
      have HN2 := hid (fun (h1 : L ≠ (-2147483648)) (h2 : L ≠ (-(-2147483648))) => show ∀ k, k < i + 1 → (Trl.get s.R k).lit ≠ (-2147483648) ∧ (Trl.get s.R k).lit ≠ (-(-2147483648)) from fun k hk => by
        rcases Nat.lt_or_ge k i with h' | h'
        · exact HN.out k h'
        · obtain rfl : k = i := by omega
          rw [hL]; exact ⟨h1, h2⟩)
      clear hL hLb hlit
      have hb : (L == -2147483648) = false := by simp; omega
      have hb1 : ¬ L = -2147483648 := by omega
      have hb3 : ¬ L = 2147483648 := by omega
      have hw : IntKind.i32.wrap 2147483648 = -2147483648 := by decide
      clear t1 t2
      go_wp2
      exact ⟨⟨i + 1, by omega, by go_num, hid (HN2.out (by omega) (by omega))⟩, by simp only [intOf]; omega⟩
    · have hge : ¬ (i : Int) < s.R.length := by omega
      have HE := hid (Trl.value_none HD.out.ok (l := (-2147483648)) (fun k hk => HN.out k (by omega)))
      go_wp2
      go_ret
      exact ⟨by rw [HE.out]; rfl, rfl⟩
set_option maxHeartbeats 2000000 in
theorem value40_n {B db n : Nat} {s : Trl.S} {W : World} (H : Dtx B db n s W) (l : Int) (h1 : -2147483647 ≤ l) (h2 : l ≤ 2147483647) (h0 : l ≠ 0) :
    Calls Try.prog 40 #[.pointer (some ⟨db, 0, none⟩), .int .i32 l] W fun e w' => e = .returned (.int .i64 (Trl.valueOf s.R l)) ∧ w' = W := by
  obtain ⟨rv, h⟩ := H
  obtain ⟨o, c, rfl, hsh⟩ := h.shape
  have hln := h.ok.len
  have hn := h.ok.n
  have c1 := row_cell h.blk 1
  have HD := hid h
  clear h
  go_enter Try.func40, Try.ntmps40
  go_wp2
  go_loop [5] (fun iv => ∃ i : Nat, i ≤ s.R.length ∧ iv = .int .i64 i ∧ Hid (∀ k, k < i → (Trl.get s.R k).lit ≠ l ∧ (Trl.get s.R k).lit ≠ -l)) (fun iv => s.R.length - (intOf iv).toNat)
  case atStart => exact ⟨0, Nat.zero_le _, rfl, hid (fun k hk => by omega)⟩
  case round =>
    obtain ⟨i, hi, rfl, HN⟩ := hrel
    by_cases hlt : i < s.R.length
    · have hlt' : (i : Int) < s.R.length := by omega
      obtain ⟨g, rfl⟩ : ∃ g, o = some ⟨g, 0, none⟩ := by
        rcases hsh with h0 | h0
        · omega
        · exact h0
      have x0 := HD.out.cell hlt (t := 0) rfl
      rw [Nat.add_zero] at x0
      obtain ⟨t1, t2, _, _⟩ := Trl.tells_at HD.out.ok hlt
      have hlit := HD.out.ok.lits _ (Trl.get_mem hlt)
      have hne0 := Trl.lit_ne HD.out.ok hlt
      obtain ⟨L, hL⟩ : ∃ L, (Trl.get s.R i).lit = L := ⟨_, rfl⟩
      rw [hL] at x0 t1 t2 hlit hne0
      have hLb : -1048576 ≤ L ∧ L ≤ 1048576 := by unfold Trl.vr at hlit; split at hlit <;> omega
      have hLb1 := hLb.1
      have hLb2 := hLb.2
      have HN2 := hid (fun (h1 : L ≠ l) (h2 : L ≠ -l) => show ∀ k, k < i + 1 → (Trl.get s.R k).lit ≠ l ∧ (Trl.get s.R k).lit ≠ -l from fun k hk => by
        rcases Nat.lt_or_ge k i with h' | h'
        · exact HN.out k h'
        · obtain rfl : k = i := by omega
          rw [hL]; exact ⟨h1, h2⟩)
      clear hL hLb hlit
      have hz : (l != 0) = true := by simpa using h0
      by_cases e1 : L = l
      · subst e1
        have HE := hid t1
        clear t1 t2
        go_wp2
        go_ret
        exact ⟨by rw [HE.out]; rfl, rfl⟩
      · have hb : (L == l) = false := by simpa using e1
        by_cases e2 : L = -l
        · have e3 : l = -L := by omega
          have HE := hid (show Trl.valueOf s.R l = -1 by rw [e3]; exact t2)
          have hb2 : (L == -l) = true := by simpa using e2
          clear t1 t2 e3
          go_wp2
          go_ret
          exact ⟨by rw [HE.out]; rfl, rfl⟩
        · have hb2 : (L == -l) = false := by simpa using e2
          clear t1 t2
          go_wp2
          exact ⟨⟨i + 1, by omega, by go_num, hid (HN2.out e1 e2)⟩, by simp only [intOf]; omega⟩
    · have hge : ¬ (i : Int) < s.R.length := by omega
      have HE := hid (Trl.value_none HD.out.ok (l := l) (fun k hk => HN.out k (by omega)))
      go_wp2
      go_ret
      exact ⟨by rw [HE.out]; rfl, rfl⟩
theorem value40 {B db n : Nat} {s : Trl.S} {W : World} (H : Dtx B db n s W) (l : Int) (hl : I32 l) :
    Calls Try.prog 40 #[.pointer (some ⟨db, 0, none⟩), .int .i32 l] W fun e w' => e = .returned (.int .i64 (Trl.valueOf s.R l)) ∧ w' = W := by
  have h1 := hl.1
  have h2 := hl.2
  by_cases e0 : l = 0
  · exact value40_z H l e0
  · by_cases e1 : l = -2147483648
    · exact value40_m H l e1
    · exact value40_n H l (by omega) (by omega) e0
end Go.Proofs.Ytckpahdlcdgbpaa
