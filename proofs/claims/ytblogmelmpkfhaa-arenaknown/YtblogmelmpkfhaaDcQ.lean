/- The document's Put: the call. -/
import Derived.Test.YtblogmelmpkfhaaDcP
import Derived.Test.YtblogmelmpkfhaaWrk
namespace Go.Proofs.Ytblogmelmpkfhaa
open Go.RowKit Go.Maps
set_option linter.unusedVariables false

/-- What the document's Put leaves. -/
def PutD (n db lim : Nat) (W : World) (E : List En) (id : Int) (c : List Int) (red : Bool) (lbd : Int) (e : Ending) (w' : World) : Prop :=
  e = .returned (.tuple #[.int .i64 (Arn.putR (items E) lim id c lbd), .int .i64 (Arn.putE (items E) lim id c lbd)]) ∧ Fr pD n W w' ∧
    ∃ v E', Dc n db lim v E' w' ∧ items E' = Arn.put (items E) lim id c red lbd ∧ (E' = E ∨ ∃ x, E' = E ++ [x] ∧ ∀ b off, x.2.1 = some ⟨b, off, none⟩ → W.heap.size ≤ b)
theorem putD_err {n db lim : Nat} {v : Value} {E : List En} {W w' : World} {id : Int} {c : List Int} {red : Bool} {lbd : Int} (h : Dc n db lim v E W) (hb : Below W.heap.size W w') (er : Int) (h0 : er ≠ 0) (he : Arn.putE (items E) lim id c lbd = er) :
    PutD n db lim W E id c red lbd (.returned (.tuple #[.int .i64 0, .int .i64 er])) w' := by
  refine ⟨by rw [he, Arn.putR, he, if_neg h0], Fr.of_below hb, v, E, h.below hb, ?_, .inl rfl⟩
  rw [Arn.put, he, if_neg h0]
set_option maxRecDepth 100000 in
set_option maxHeartbeats 2000000 in
theorem put35_arg {n db lim : Nat} {v : Value} {E : List En} {W : World} (h : Dc n db lim v E W) (id : Int) (a : Option Addr) (k cap : Nat) (c : List Int) (red : Bool) (lbd : Int) (hbad : id < 1 ∨ 4611686018427387903 < id ∨ Arn.small lbd = false) :
    Calls Try.prog 35 #[.pointer (some ⟨db, 0, none⟩), .int .i64 id, .slice a k cap, .bool red, .int .i64 lbd] W fun e w' => PutD n db lim W E id c red lbd e w' := by
  have he : Arn.putE (items E) lim id c lbd = 2 := by unfold Arn.putE; rw [if_pos hbad]
  have HE := hid (fun (w' : World) (hb : Below W.heap.size W w') => putD_err (red := red) h hb 2 (by decide) he)
  have C := hid (fun w => small49 lbd w)
  generalize Arn.small lbd = b at *
  clear h he
  by_cases h1 : id < 1
  · clear hbad
    go_enter Try.func35, Try.ntmps35
    go_wp2_with (go_at_call 49; refine (C.out _).mono ?_; rintro e w4 ⟨rfl, hw4⟩; rw [hw4]; clear hw4)
    go_ret2
    exact HE.out _ (Below.refl _ _)
  · by_cases h2 : 4611686018427387903 < id
    · clear hbad
      go_enter Try.func35, Try.ntmps35
      go_wp2_with (go_at_call 49; refine (C.out _).mono ?_; rintro e w4 ⟨rfl, hw4⟩; rw [hw4]; clear hw4)
      go_ret2
      exact HE.out _ (Below.refl _ _)
    · obtain rfl : b = false := by rcases hbad with h | h | h; exact absurd h h1; exact absurd h h2; exact h
      clear hbad
      go_enter Try.func35, Try.ntmps35
      go_wp2_with (go_at_call 49; refine (C.out _).mono ?_; rintro e w4 ⟨rfl, hw4⟩; rw [hw4]; clear hw4)
      go_ret2
      exact HE.out _ (Below.refl _ _)
set_option maxRecDepth 100000 in
set_option maxHeartbeats 4000000 in
theorem put35_on {n db lim : Nat} {v : Value} {E : List En} {W : World} (h : Dc n db lim v E W) (id : Int) (a : Option Addr) (k cap : Nat) (c : List Int) (red : Bool) (lbd : Int) (hok : ¬ (id < 1 ∨ 4611686018427387903 < id ∨ Arn.small lbd = false))
    (hk : c.length = k) (hK : k ≤ 35184372088832) (hc : Lits W a c) :
    Calls Try.prog 35 #[.pointer (some ⟨db, 0, none⟩), .int .i64 id, .slice a k cap, .bool red, .int .i64 lbd] W fun e w' => PutD n db lim W E id c red lbd e w' := by
  have C := hid (fun w => small49 lbd w)
  have hb : Arn.small lbd = true := by
    cases hs : Arn.small lbd
    · exact absurd (.inr (.inr hs)) hok
    · rfl
  rw [hb] at C
  simp only [Arn.small, Bool.and_eq_true, decide_eq_true_eq] at hb
  have h1 : ¬ id < 1 := fun h => hok (.inl h)
  have h2 : ¬ 4611686018427387903 < id := fun h => hok (.inr (.inl h))
  have HD := hid h
  have HC := hid hc
  have HK := hid hk
  have HOK := hid hok
  have HB := hid hb
  have hsh : k = 0 ∨ ∃ b off, a = some ⟨b, off, none⟩ := by rw [← hk]; exact hc.shape
  clear h hc hk hok hb
  go_enter Try.func35, Try.ntmps35
  go_wp2_with (go_at_call 49; refine (C.out _).mono ?_; rintro e w4 ⟨rfl, hw4⟩; rw [hw4]; clear hw4)
  rcases hsh with h0 | ⟨bb, ob, rfl⟩
  · subst h0
    go_loop [12] (fun kv => kv = .int .i64 0) (fun _ => 0)
    case atStart => rfl
    case round =>
      obtain rfl := hrel
      have hnz : (0 : Int) ∉ c := by rw [List.eq_nil_of_length_eq_zero HK.out]; simp
      by_cases hf : lim < Arn.size (items E) + 4 + c.length
      · have HE := hid (fun (w' : World) (hb : Below W.heap.size W w') => putD_err (red := red) HD.out hb 90 (by decide) (show Arn.putE (items E) lim id c lbd = 90 by unfold Arn.putE; rw [if_neg HOK.out, if_neg hnz, if_pos hf]))
        have c0 := row_cell HD.out.blk 0
        have c2 := row_cell HD.out.blk 2
        have hlm := HD.out.lim
        have hft := HD.out.fit
        have hf' : (lim : Int) < (Arn.size (items E) : Nat) + 4 := by have := HK.out; omega
        generalize Arn.size (items E) = sz at *
        clear hnz
        go_wp2
        go_region
        go_wp2
        go_ret2
        exact HE.out _ (Below.refl _ _).drew
      · have hK2 : 0 ≤ 268435456 := by have := HK.out; have := HD.out.lim; omega
        obtain ⟨o', c', W1, hr1, hb1, hlr, hcap, hnew, _⟩ := own_copy (W := W.drew) (cap := cap) HK.out hK2 HC.out
        have he := putE_ok (M := items E) HOK.out hnz hf
        have hb1' : Below W.heap.size W W1 := (Below.refl _ _).drew.trans hb1
        have hD1 := HD.out.below hb1'
        have hxok : (Arn.newIt id c red lbd).ok := ⟨Nat.le_refl _, by show 1 ≤ id; omega, by show id ≤ _; omega, HB.out.1, HB.out.2, by show (0 : Int) ≤ 0; decide, by show (0 : Int) ≤ 65535; decide, hlr.1⟩
        have hD1d := hD1.below (Below.refl _ _).drew
        obtain ⟨g2, c3, B2, hr2, b1, f1, b2, f2, hfin⟩ := hD1d.push (Arn.newIt id c red lbd, o', c') hxok hlr (by show c.length ≤ c' ∧ _; rw [HK.out]; exact hcap) (by show Arn.size (items E) + (4 + c.length) ≤ lim; omega)
        have HFIN := hid (show ∀ s : Int, s = ((Arn.size (items E) : Nat) : Int) + 4 → PutD n db lim W E id c red lbd (.returned (.tuple #[.int .i64 (Arn.size (items E) : Nat), .int .i64 0])) ((B2.setCell ⟨db, 1, none⟩ (.slice (some ⟨g2, 0, none⟩) (E.length + 1) c3)).setCell ⟨db, 2, none⟩ (.int .i64 s)) from fun s hs => by
          obtain ⟨q1, q2⟩ := hfin s (by rw [hs]; show _ = ((Arn.size (items E) + (4 + c.length) : Nat) : Int); have := HK.out; omega)
          refine ⟨by rw [he, (put_ok (red := red) he).2], (Fr.of_below hb1').trans ((Fr.of_below (Below.refl _ _).drew).trans q2), _, _, q1, ?_, .inr ⟨_, rfl, fun b off e9 => (hnew b off e9).1⟩⟩
          rw [(put_ok (red := red) he).1]
          simp [items])
        have c0 := row_cell HD.out.blk 0
        have c2 := row_cell HD.out.blk 2
        have d1 := row_cell hD1.blk 1
        have d2 := row_cell hD1.blk 2
        have e1 := fun o9 => row_cell (hD1.below (below_box W1 o9)).blk 1
        have e2 := fun o9 => row_cell (hD1.below (below_box W1 o9)).blk 2
        have hlm := HD.out.lim
        have hft := HD.out.fit
        have hf' : ¬ (lim : Int) < (Arn.size (items E) : Nat) + 4 := by have := HK.out; omega
        have HR1 := hid hr1
        have HR2 := hid hr2
        have hEl := HD.out.len
        simp only [icell, Arn.newIt, HK.out] at HR2
        rw [show ((4 + 0 : Nat) : Int) = 4 by omega] at HR2
        obtain ⟨vo, vc, hvv⟩ := own_slc HD.out.own
        subst hvv
        generalize Arn.size (items E) = sz at *
        have hsz : sz ≤ 268435456 := by omega
        generalize E.length = EL at *
        clear hr1 hr2 hb1 hlr hcap hnew he hD1 hD1d hxok hfin hnz hf hb1'
        go_wp2
        go_region
        go_wp2_with (at_builtin; refine wpList_append_run rfl (.tmp 50) (.tmp 51) 30 30 rfl rfl rfl HR1.out ?_)
        go_region_law (refine step_append_run rfl (.tmp 57) (.tmp 70) 70 70 (by rfl) (by rfl) (by rfl) HR2.out ?_)
        all_goals
          go_wp2
          go_ret2
          exact HFIN.out _ (by first | rfl | omega)
  · go_loop [12] (fun kv => ∃ j : Nat, j ≤ k ∧ kv = .int .i64 j ∧ Hid ((0 : Int) ∉ c.take j)) (fun kv => k - (intOf kv).toNat)
    case atStart => exact ⟨0, Nat.zero_le _, rfl, hid (by simp)⟩
    case round =>
      obtain ⟨j, hj, rfl, HT⟩ := hrel
      by_cases hlt : j < k
      · have hlt' : (j : Int) < k := by omega
        obtain ⟨b2, o2, e2, _, hc2, _⟩ := HC.out.at (j := j) (by rw [HK.out]; exact hlt)
        cases e2
        by_cases hz : c.getD j 0 = 0
        · rw [hz] at hc2
          have HE := hid (putD_err (red := red) HD.out (Below.refl _ _) 4 (by decide) (show Arn.putE (items E) lim id c lbd = 4 by unfold Arn.putE; rw [if_neg HOK.out, if_pos (by rw [← hz]; exact Arn.getD_mem c j (by rw [HK.out]; exact hlt))]))
          clear hz
          go_wp2
          go_ret2
          exact HE.out
        · have HT' := hid (Arn.any_take c j (by rw [HK.out]; exact hlt) HT.out hz)
          have hzb : (c.getD j 0 == 0) = false := by simpa using hz
          generalize c.getD j 0 = lv at *
          go_wp2
          go_round
          case rel => exact ⟨j + 1, by omega, by go_num, HT'⟩
          case measure => simp [intOf]; omega
      · have hge : ¬ (j : Int) < k := by omega
        obtain rfl : j = k := by omega
        have hnz : (0 : Int) ∉ c := by have := HT.out; rwa [List.take_of_length_le (by rw [HK.out]; exact Nat.le_refl _)] at this
        by_cases hf : lim < Arn.size (items E) + 4 + c.length
        · have HE := hid (fun (w' : World) (hb : Below W.heap.size W w') => putD_err (red := red) HD.out hb 90 (by decide) (show Arn.putE (items E) lim id c lbd = 90 by unfold Arn.putE; rw [if_neg HOK.out, if_neg hnz, if_pos hf]))
          have c0 := row_cell HD.out.blk 0
          have c2 := row_cell HD.out.blk 2
          have hlm := HD.out.lim
          have hft := HD.out.fit
          have hf' : (lim : Int) < (Arn.size (items E) : Nat) + 4 + (j : Nat) := by have := HK.out; omega
          generalize Arn.size (items E) = sz at *
          clear hnz
          go_wp2
          go_region
          go_wp2
          go_ret2
          exact HE.out _ (Below.refl _ _).drew
        · have hK2 : j ≤ 268435456 := by have := HK.out; have := HD.out.lim; omega
          obtain ⟨o', c', W1, hr1, hb1, hlr, hcap, hnew, _⟩ := own_copy (W := W.drew) (cap := cap) HK.out hK2 HC.out
          have he := putE_ok (M := items E) HOK.out hnz hf
          have hb1' : Below W.heap.size W W1 := (Below.refl _ _).drew.trans hb1
          have hD1 := HD.out.below hb1'
          have hxok : (Arn.newIt id c red lbd).ok := ⟨Nat.le_refl _, by show 1 ≤ id; omega, by show id ≤ _; omega, HB.out.1, HB.out.2, by show (0 : Int) ≤ 0; decide, by show (0 : Int) ≤ 65535; decide, hlr.1⟩
          have hD1d := hD1.below (Below.refl _ _).drew
          obtain ⟨g2, c3, B2, hr2, b1, f1, b2, f2, hfin⟩ := hD1d.push (Arn.newIt id c red lbd, o', c') hxok hlr (by show c.length ≤ c' ∧ _; rw [HK.out]; exact hcap) (by show Arn.size (items E) + (4 + c.length) ≤ lim; omega)
          have HFIN := hid (show ∀ s : Int, s = ((Arn.size (items E) : Nat) : Int) + 4 + (j : Nat) → PutD n db lim W E id c red lbd (.returned (.tuple #[.int .i64 (Arn.size (items E) : Nat), .int .i64 0])) ((B2.setCell ⟨db, 1, none⟩ (.slice (some ⟨g2, 0, none⟩) (E.length + 1) c3)).setCell ⟨db, 2, none⟩ (.int .i64 s)) from fun s hs => by
            obtain ⟨q1, q2⟩ := hfin s (by rw [hs]; show _ = ((Arn.size (items E) + (4 + c.length) : Nat) : Int); have := HK.out; omega)
            refine ⟨by rw [he, (put_ok (red := red) he).2], (Fr.of_below hb1').trans ((Fr.of_below (Below.refl _ _).drew).trans q2), _, _, q1, ?_, .inr ⟨_, rfl, fun b off e9 => (hnew b off e9).1⟩⟩
            rw [(put_ok (red := red) he).1]
            simp [items])
          have c0 := row_cell HD.out.blk 0
          have c2 := row_cell HD.out.blk 2
          have d1 := row_cell hD1.blk 1
          have d2 := row_cell hD1.blk 2
          have e1 := fun o9 => row_cell (hD1.below (below_box W1 o9)).blk 1
          have e2 := fun o9 => row_cell (hD1.below (below_box W1 o9)).blk 2
          have hlm := HD.out.lim
          have hft := HD.out.fit
          have hf' : ¬ (lim : Int) < (Arn.size (items E) : Nat) + 4 + (j : Nat) := by have := HK.out; omega
          have HR1 := hid hr1
          have HR2 := hid hr2
          have hEl := HD.out.len
          simp only [icell, Arn.newIt, HK.out] at HR2
          rw [show ((4 + j : Nat) : Int) = 4 + (j : Nat) by omega] at HR2
          have hwr : IntKind.i64.wrap (4 + (j : Int)) = 4 + j := by rw [IntKind.wrap_i64]; omega
          obtain ⟨vo, vc, hvv⟩ := own_slc HD.out.own
          subst hvv
          generalize Arn.size (items E) = sz at *
          have hsz : sz ≤ 268435456 := by omega
          generalize E.length = EL at *
          clear hr1 hr2 hb1 hlr hcap hnew he hD1 hD1d hxok hfin hnz hf hb1'
          go_wp2
          go_region
          go_wp2_with (at_builtin; refine wpList_append_run rfl (.tmp 50) (.tmp 51) 30 30 rfl rfl rfl HR1.out ?_)
          go_region_law (refine step_append_run rfl (.tmp 57) (.tmp 70) 70 70 (by rfl) (by rfl) (by rfl) HR2.out ?_)
          all_goals
            go_wp2
            go_ret2
            exact HFIN.out _ (by first | rfl | omega)
theorem put35 {n db lim : Nat} {v : Value} {E : List En} {W : World} (h : Dc n db lim v E W) (id : Int) (a : Option Addr) (k cap : Nat) (c : List Int) (red : Bool) (lbd : Int) (hk : c.length = k) (hK : k ≤ 35184372088832) (hc : Lits W a c) :
    Calls Try.prog 35 #[.pointer (some ⟨db, 0, none⟩), .int .i64 id, .slice a k cap, .bool red, .int .i64 lbd] W fun e w' => PutD n db lim W E id c red lbd e w' := by
  by_cases h1 : id < 1 ∨ 4611686018427387903 < id ∨ Arn.small lbd = false
  · exact put35_arg h id a k cap c red lbd h1
  · exact put35_on h id a k cap c red lbd h1 hk hK hc
end Go.Proofs.Ytblogmelmpkfhaa
