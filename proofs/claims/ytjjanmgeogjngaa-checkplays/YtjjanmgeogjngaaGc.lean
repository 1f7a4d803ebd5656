/- The document's Normal. -/
import Derived.Test.YtjjanmgeogjngaaGb
import Derived.Test.YtjjanmgeogjngaaGa
import Derived.Laws.AppendOwnNone
import Derived.Test.YtjjanmgeogjngaaGe
/- The document's Normal. -/
namespace Go.Proofs.Ytjjanmgeogjngaa
open Go.RowKit
set_option linter.unusedVariables false
theorem Lits.news {w : World} {ad : Addr} {xs : List Int} (hx : Lits w (some ad) xs) : ∀ j u, (xs.map (Value.int .i32))[j]? = some u → w.cell? (ad.add j) = some u := by
  intro j u hj
  rw [List.getElem?_map] at hj
  cases hq : xs[j]? with
  | none => rw [hq] at hj; simp at hj
  | some y =>
    rw [hq] at hj
    simp at hj
    have hjl : j < xs.length := by
      rcases Nat.lt_or_ge j xs.length with h | h
      · exact h
      · rw [List.getElem?_eq_none h] at hq; cases hq
    obtain ⟨b, off, e, hc, _⟩ := hx.at hjl
    simp only [Option.some.injEq] at e
    subst e
    have hadd : (⟨b, off, none⟩ : Addr).add j = ⟨b, off + j, none⟩ := by unfold Addr.add; split <;> simp_all
    rw [hadd, hc, ← hj]
    simp [List.getD, hq]
theorem lits_one (xs : List Int) : ∀ u ∈ xs.map (Value.int .i32), u.oneCell' = true := by
  intro u hu
  obtain ⟨y, _, rfl⟩ := List.mem_map.1 hu
  rfl
theorem tup2 {a b c d : Value} (h1 : a = c) (h2 : b = d) : Ending.returned (.tuple #[a, b]) = .returned (.tuple #[c, d]) := by rw [h1, h2]
theorem lits_of_own {w : World} {base : Nat} {v : Value} {n : Nat} {ys : List Int} (hb : ∀ x ∈ ys, -2147483648 ≤ x ∧ x ≤ 2147483647) (h : w.ownsRow base 40 1 v n (ys.map (Value.int .i32))) :
    ∃ a cap, v = .slice a n cap ∧ ys.length = n ∧ n ≤ cap ∧ Lits w a ys ∧ (∀ g, v.ownBlock = some g → a = some ⟨g, 0, none⟩ ∧ base ≤ g ∧ g < w.heap.size) := by
  have hl : ys.length = n := by simpa using h.1
  rcases h.2 with ⟨rfl, rfl⟩ | ⟨g, cap, cur, rfl, hbg, hg, hn, hm, hs, ht⟩
  · exact ⟨none, 0, rfl, hl, Nat.le_refl _, ⟨hb, .inl (List.eq_nil_of_length_eq_zero hl)⟩, fun g hg => by cases hg⟩
  · have hlt : g < w.heap.size := (Array.getElem?_eq_some_iff.1 hg).1
    refine ⟨_, cap, rfl, hl, hn, ⟨hb, .inr ⟨g, 0, rfl, hlt, fun j hj => ?_⟩⟩, fun g' hg' => by simp [Value.ownBlock] at hg'; subst hg'; exact ⟨rfl, hbg, hlt⟩⟩
    have e1 : (cur.toList.take (n * 1))[j]? = (ys.map (Value.int .i32))[j]? := by rw [ht]
    rw [List.getElem?_take, if_pos (by omega), Array.getElem?_toList, List.getElem?_map, List.getElem?_eq_getElem (by omega)] at e1
    simp only [World.cell?, hg, Nat.zero_add]
    simp only [Option.isSome_none, Bool.false_eq_true, if_false]
    rw [e1]
    simp [List.getD, List.getElem?_eq_getElem hj]
theorem own_at {w : World} {base : Nat} {v : Value} {n : Nat} {ys : List Int} (hb : ∀ x ∈ ys, -2147483648 ≤ x ∧ x ≤ 2147483647) (h : w.ownsRow base 40 1 v n (ys.map (Value.int .i32))) :
    ∃ a cap, v = .slice a n cap ∧ Lits w a ys := by
  obtain ⟨a, cap, h1, _, _, h2, _⟩ := lits_of_own hb h
  exact ⟨a, cap, h1, h2⟩
theorem owns_base {w : World} {b0 b1 : Nat} {e : TypeId} {v : Value} {n : Nat} {xs : List Value} (h : w.ownsRow b1 e 1 v n xs) (hb : b0 ≤ b1) : w.ownsRow b0 e 1 v n xs := by
  refine ⟨h.1, ?_⟩
  rcases h.2 with h2 | ⟨g, cap, cur, hv, hg, r⟩
  · exact .inl h2
  · exact .inr ⟨g, cap, cur, hv, Nat.le_trans hb hg, r⟩

theorem own_at' {w : World} {base : Nat} {v : Value} {n : Nat} {ys : List Int} (hb : ∀ x ∈ ys, -2147483648 ≤ x ∧ x ≤ 2147483647) (h : w.ownsRow base 40 1 v n (ys.map (Value.int .i32))) (hv : v ≠ .slice none 0 0) :
    ∃ g cap, v = .slice (some ⟨g, 0, none⟩) n cap ∧ base ≤ g ∧ g < w.heap.size ∧ n ≤ cap ∧ cap ≤ maxLen ∧ (∀ j, j < ys.length → w.cell? ⟨g, j, none⟩ = some (.int .i32 (ys.getD j 0))) := by
  rcases h.2 with ⟨rfl, _⟩ | ⟨g, cap, cur, rfl, hg, hh, hn, hcm, _⟩
  · exact absurd rfl hv
  · obtain ⟨a, cap', e, hl, hc, hL, hbl⟩ := lits_of_own hb h
    have hlt : g < w.heap.size := (Array.getElem?_eq_some_iff.1 hh).1
    refine ⟨g, cap, rfl, hg, hlt, hn, hcm, fun j hj => ?_⟩
    simp only [Value.slice.injEq] at e
    obtain ⟨rfl, _, _⟩ := e
    obtain ⟨b, off, e2, hc2, _⟩ := hL.at hj
    simp only [Option.some.injEq, Addr.mk.injEq] at e2
    obtain ⟨rfl, rfl, _⟩ := e2
    rw [Nat.zero_add] at hc2
    exact hc2

theorem Lits.take {w : World} {a : Option Addr} {xs : List Int} (h : Lits w a xs) (j : Nat) : Lits w a (xs.take j) := by
  refine ⟨fun x hx => h.1 x (List.mem_of_mem_take hx), ?_⟩
  rcases h.2 with h | ⟨b, off, e, hl, hc⟩
  · left; rw [h]; simp
  · refine .inr ⟨b, off, e, hl, fun i hi => ?_⟩
    have hi' : i < j ∧ i < xs.length := by simp at hi; omega
    rw [hc i hi'.2]
    simp [List.getD, hi'.1]
theorem Lits.drop {w : World} {b off : Nat} {xs : List Int} (h : Lits w (some ⟨b, off, none⟩) xs) (j : Nat) : Lits w (some ⟨b, off + j, none⟩) (xs.drop j) := by
  refine ⟨fun x hx => h.1 x (List.mem_of_mem_drop hx), ?_⟩
  rcases h.2 with h | ⟨b', off', e, hl, hc⟩
  · left; rw [h]; simp
  · simp only [Option.some.injEq, Addr.mk.injEq] at e
    obtain ⟨rfl, rfl, _⟩ := e
    refine .inr ⟨b, off + j, rfl, hl, fun i hi => ?_⟩
    have hi' : j + i < xs.length := by simp at hi; omega
    rw [show off + j + i = off + (j + i) by omega, hc (j + i) hi']
    simp [List.getD]

set_option maxHeartbeats 8000000 in
set_option maxRecDepth 100000 in
theorem normal81 (a : Option Addr) (n cap : Nat) (xs : List Int) (w : World) (hn : xs.length = n) (hN : n ≤ 1099511627776) (hx : Lits w a xs) :
    Calls Try.prog 81 #[.slice a n cap] w fun e w' => ∃ v' ys, e = .returned (.tuple #[v', .bool (Cnf.both xs)]) ∧ Cnf.Nrm xs ys ∧ w'.ownsRow w.heap.size 40 1 v' ys.length (ys.map (Value.int .i32)) ∧ Below w.heap.size w w' ∧ ys.length ≤ n := by
  obtain ⟨i0, hi, hz0, hz1, hz2⟩ := info_parts info44
  have HX := hid hx
  have HN := hid hn
  have HBD := hid hx.1
  clear hx hn
  go_enter Try.func81, Try.ntmps81
  go_wp2
  go_loopw [4, 5, 6, 7, 8] (fun u f i _ _ wr => ∃ (k : Nat) (zs : List Int), k ≤ n ∧ i = .int .i64 k ∧ f = .bool (Cnf.bt xs k) ∧ wr.ownsRow w.heap.size 40 1 u zs.length (zs.map (Value.int .i32)) ∧ (zs = [] → u = .slice none 0 0) ∧ Cnf.Nrm (xs.take k) zs ∧ zs.length ≤ k ∧ Below w.heap.size w wr)
    (fun _ _ i _ _ _ => n - (intOf i).toNat)
  case atStart => exact ⟨0, [], Nat.zero_le _, rfl, rfl, World.ownsRow_nil _ _ _ _, fun _ => rfl, ⟨List.Pairwise.nil, fun x => Iff.rfl⟩, Nat.le_refl _, Below.refl _ _⟩
  case round =>
    obtain ⟨k, zs, hk, rfl, rfl, hO, hnil, hNk, hzk, hB⟩ := hrel
    obtain ⟨W1, rfl⟩ : ∃ W, W = wr := ⟨_, rfl⟩
    have HB := hid hB
    have HNk := hid hNk
    have HO := hid hO
    have HNil := hid hnil
    have HZB : Hid (∀ x ∈ zs, -2147483648 ≤ x ∧ x ≤ 2147483647) := fun x hx => HBD.out x (List.mem_of_mem_take ((hNk.2 x).1 hx))
    clear hB hNk hO hnil
    by_cases hlt : k < n
    · obtain ⟨b, off, rfl, hc, hx1, hx2⟩ := Lits.at (k := k) (HX.out.below HB.out) (by rw [HN.out]; exact hlt)
      obtain ⟨au, capu, rfl, hLu⟩ := own_at HZB.out HO.out
      have CH := hid (has52 au zs.length capu zs (xs.getD k 0) W1 rfl (by omega) hLu)
      clear hLu
      cases hhas : Cnf.has zs (xs.getD k 0)
      · rw [hhas] at CH
        have HS5 := hid (Cnf.bt_succ xs k (by rw [HN.out]; exact hlt))
        have HC := hid (has52 (some ⟨b, off, none⟩) n cap xs (-(xs.getD k 0)) W1 HN.out hN (HX.out.below HB.out))
        have HINS : Hid (∀ j, j ≤ zs.length → (∀ t, t < j → Cnf.LtL (zs.getD t 0) (xs.getD k 0)) → (j < zs.length → ¬ Cnf.LtL (zs.getD j 0) (xs.getD k 0)) → Cnf.Nrm (xs.take (k + 1)) (zs.take j ++ [xs.getD k 0] ++ zs.drop j)) := fun j h1 h2 h3 => Cnf.nrm_ins (by rw [HN.out]; exact hlt) HNk.out hhas h1 h2 h3
        clear hhas
        generalize xs.getD k 0 = x at hc hx1 hx2 CH HS5 HC HINS
        generalize Cnf.has xs (-x) = r2 at HC HS5
        generalize Cnf.bt xs k = b0 at HS5
        by_cases hz : zs = []
        · subst hz
          have eu := HNil.out rfl
          simp only [List.length_nil, Value.slice.injEq, true_and] at eu
          obtain ⟨rfl, rfl⟩ := eu
          have HFin : Hid (Cnf.Nrm (xs.take (k + 1)) [x]) := by
            have h := HINS.out 0 (Nat.zero_le _) (fun t ht => by omega) (fun h => by simp at h)
            show Cnf.Nrm _ _
            simpa using h
          clear HINS HNil
          simp only [List.length_nil] at CH
          cases b0
          · by_cases hx0 : 0 < x
            · have H5 : Hid (Cnf.bt xs (k + 1) = r2) := by show _ = _; rw [HS5.out]; simp [hx0]
              clear HS5
              go_wp2_with (first | (go_at_call_of 52 (Value.int .i32 x); refine CH.out.mono ?_; rintro e w' ⟨rfl, hw⟩; obtain rfl := hw.symm) | (go_at_call_of 52 (Value.int .i32 (-x)); refine HC.out.mono ?_; rintro e w' ⟨rfl, hw⟩; obtain rfl := hw.symm))
              go_loopw [7] (fun t wr2 => t = .int .i64 0 ∧ Drawn W1 wr2) (fun _ _ => 0)
              case atStart => exact ⟨rfl, Drawn.refl _⟩
              case round =>
                obtain ⟨rfl, HD⟩ := hrel
                rw [← HD.cell] at hc
                go_wp2_with fail
                go_quiet (fail)
                generalize hw2 : wr.drewN nq = W2
                have HD2 : Drawn W1 W2 := by rw [← hw2]; exact HD.drewN _
                have hc2 : W2.cell? ⟨b, off + k, none⟩ = some (.int .i32 x) := by rw [HD2.cell, ← HD.cell]; exact hc
                clear hw2 hc
                go_wp2_with (first
                  | (at_builtin; refine wpList_append_own_none rfl (.tmp 55) (.tmp 58) 39 rfl W2.heap.size 40 i0 1 Try.underlying39 hi _ 0 [] rfl (World.ownsRow_nil _ _ _ _) rfl ?_)
                  | (at_builtin; refine wpList_append_own _ rfl (.tmp 60) (.tmp 65) 39 rfl W2.heap.size 40 i0 (.int .i32 0) 1 4 Try.underlying39 hi hz0 hz1 hz2 rfl (by decide) _ _ _ rfl (World.ownsRow_nil _ _ _ _) ⟨W2.heap.size, 0, none⟩ 1 1 [.int .i32 x] rfl rfl ?d1 ?d2 ?d3 ?d4 ?d5 ?_))
                case d1 =>
                  intro i u hi'
                  match i, hi' with
                  | 0, hi' => simp at hi'; subst hi'; simp [Addr.add]
                case d2 => intro u hu; simp at hu; subst hu; rfl
                case d3 => unfold maxLen; omega
                case d4 => omega
                case d5 => simp
                intro v2 W4 hown4 hgrow4 hnil4
                have hb4 : Below W2.heap.size W2 W4 := ((Below.refl W2.heap.size W2).alloc (Nat.le_refl _) _).grown hgrow4 (by simp) (fun q hq => by cases hq)
                have HB5 := hid ((HD2.below HB.out).trans (hb4.mono (HD2.below HB.out).size))
                have HO4 := hid hown4
                have HO5 : Hid (W4.ownsRow w.heap.size 40 1 v2 [x].length ([x].map (Value.int .i32))) := owns_base (by simpa using hown4) (HD2.below HB.out).size
                clear hown4 hgrow4 hnil4 hb4 hc2
                go_wp2_with (first
                  | (at_builtin; refine wpList_append_own_none rfl (.tmp 67) (.tmp 70) 39 rfl W2.heap.size 40 i0 1 Try.underlying39 hi v2 _ _ rfl HO4.out rfl ?_))
                go_roundw
                case rel => exact ⟨k + 1, [x], by omega, by go_num, by rw [H5.out], HO5.out, fun h => absurd h (by simp), HFin.out, by simp, HB5.out⟩
                case measure => simp [intOf]; omega
            · have H5 : Hid (Cnf.bt xs (k + 1) = false) := by show _ = _; rw [HS5.out]; simp [hx0]
              clear HS5 HC
              go_wp2_with (go_at_call 52; refine CH.out.mono ?_; rintro e w' ⟨rfl, hw⟩; obtain rfl := hw.symm)
              go_loopw [7] (fun t wr2 => t = .int .i64 0 ∧ Drawn W1 wr2) (fun _ _ => 0)
              case atStart => exact ⟨rfl, Drawn.refl _⟩
              case round =>
                obtain ⟨rfl, HD⟩ := hrel
                rw [← HD.cell] at hc
                go_wp2_with fail
                go_quiet (fail)
                generalize hw2 : wr.drewN nq = W2
                have HD2 : Drawn W1 W2 := by rw [← hw2]; exact HD.drewN _
                have hc2 : W2.cell? ⟨b, off + k, none⟩ = some (.int .i32 x) := by rw [HD2.cell, ← HD.cell]; exact hc
                clear hw2 hc
                go_wp2_with (first
                  | (at_builtin; refine wpList_append_own_none rfl (.tmp 55) (.tmp 58) 39 rfl W2.heap.size 40 i0 1 Try.underlying39 hi _ 0 [] rfl (World.ownsRow_nil _ _ _ _) rfl ?_)
                  | (at_builtin; refine wpList_append_own _ rfl (.tmp 60) (.tmp 65) 39 rfl W2.heap.size 40 i0 (.int .i32 0) 1 4 Try.underlying39 hi hz0 hz1 hz2 rfl (by decide) _ _ _ rfl (World.ownsRow_nil _ _ _ _) ⟨W2.heap.size, 0, none⟩ 1 1 [.int .i32 x] rfl rfl ?d1 ?d2 ?d3 ?d4 ?d5 ?_))
                case d1 =>
                  intro i u hi'
                  match i, hi' with
                  | 0, hi' => simp at hi'; subst hi'; simp [Addr.add]
                case d2 => intro u hu; simp at hu; subst hu; rfl
                case d3 => unfold maxLen; omega
                case d4 => omega
                case d5 => simp
                intro v2 W4 hown4 hgrow4 hnil4
                have hb4 : Below W2.heap.size W2 W4 := ((Below.refl W2.heap.size W2).alloc (Nat.le_refl _) _).grown hgrow4 (by simp) (fun q hq => by cases hq)
                have HB5 := hid ((HD2.below HB.out).trans (hb4.mono (HD2.below HB.out).size))
                have HO4 := hid hown4
                have HO5 : Hid (W4.ownsRow w.heap.size 40 1 v2 [x].length ([x].map (Value.int .i32))) := owns_base (by simpa using hown4) (HD2.below HB.out).size
                clear hown4 hgrow4 hnil4 hb4 hc2
                go_wp2_with (first
                  | (at_builtin; refine wpList_append_own_none rfl (.tmp 67) (.tmp 70) 39 rfl W2.heap.size 40 i0 1 Try.underlying39 hi v2 _ _ rfl HO4.out rfl ?_))
                go_roundw
                case rel => exact ⟨k + 1, [x], by omega, by go_num, by rw [H5.out], HO5.out, fun h => absurd h (by simp), HFin.out, by simp, HB5.out⟩
                case measure => simp [intOf]; omega
          · have H5 : Hid (Cnf.bt xs (k + 1) = true) := by show _ = _; rw [HS5.out]; rfl
            clear HS5 HC
            go_wp2_with (go_at_call 52; refine CH.out.mono ?_; rintro e w' ⟨rfl, hw⟩; obtain rfl := hw.symm)
            go_loopw [7] (fun t wr2 => t = .int .i64 0 ∧ Drawn W1 wr2) (fun _ _ => 0)
            case atStart => exact ⟨rfl, Drawn.refl _⟩
            case round =>
              obtain ⟨rfl, HD⟩ := hrel
              rw [← HD.cell] at hc
              go_wp2_with fail
              go_quiet (fail)
              generalize hw2 : wr.drewN nq = W2
              have HD2 : Drawn W1 W2 := by rw [← hw2]; exact HD.drewN _
              have hc2 : W2.cell? ⟨b, off + k, none⟩ = some (.int .i32 x) := by rw [HD2.cell, ← HD.cell]; exact hc
              clear hw2 hc
              go_wp2_with (first
                | (at_builtin; refine wpList_append_own_none rfl (.tmp 55) (.tmp 58) 39 rfl W2.heap.size 40 i0 1 Try.underlying39 hi _ 0 [] rfl (World.ownsRow_nil _ _ _ _) rfl ?_)
                | (at_builtin; refine wpList_append_own _ rfl (.tmp 60) (.tmp 65) 39 rfl W2.heap.size 40 i0 (.int .i32 0) 1 4 Try.underlying39 hi hz0 hz1 hz2 rfl (by decide) _ _ _ rfl (World.ownsRow_nil _ _ _ _) ⟨W2.heap.size, 0, none⟩ 1 1 [.int .i32 x] rfl rfl ?d1 ?d2 ?d3 ?d4 ?d5 ?_))
              case d1 =>
                intro i u hi'
                match i, hi' with
                | 0, hi' => simp at hi'; subst hi'; simp [Addr.add]
              case d2 => intro u hu; simp at hu; subst hu; rfl
              case d3 => unfold maxLen; omega
              case d4 => omega
              case d5 => simp
              intro v2 W4 hown4 hgrow4 hnil4
              have hb4 : Below W2.heap.size W2 W4 := ((Below.refl W2.heap.size W2).alloc (Nat.le_refl _) _).grown hgrow4 (by simp) (fun q hq => by cases hq)
              have HB5 := hid ((HD2.below HB.out).trans (hb4.mono (HD2.below HB.out).size))
              have HO4 := hid hown4
              have HO5 : Hid (W4.ownsRow w.heap.size 40 1 v2 [x].length ([x].map (Value.int .i32))) := owns_base (by simpa using hown4) (HD2.below HB.out).size
              clear hown4 hgrow4 hnil4 hb4 hc2
              go_wp2_with (first
                | (at_builtin; refine wpList_append_own_none rfl (.tmp 67) (.tmp 70) 39 rfl W2.heap.size 40 i0 1 Try.underlying39 hi v2 _ _ rfl HO4.out rfl ?_))
              go_roundw
              case rel => exact ⟨k + 1, [x], by omega, by go_num, by rw [H5.out], HO5.out, fun h => absurd h (by simp), HFin.out, by simp, HB5.out⟩
              case measure => simp [intOf]; omega
        · have hv : (Value.slice au zs.length capu) ≠ .slice none 0 0 := by
            intro e
            simp only [Value.slice.injEq] at e
            exact hz (List.length_eq_zero_iff.1 e.2.1)
          obtain ⟨g, capg, ev, hg1, hg2, hg3, hg4, hcells⟩ := own_at' HZB.out HO.out hv
          simp only [Value.slice.injEq, true_and] at ev
          obtain ⟨rfl, rfl⟩ := ev
          have HCE := hid hcells
          have HLZ := hid (lits_of_own HZB.out HO.out)
          clear hcells hv HNil
          generalize hm : zs.length = m at *
          have HM := hid hm
          clear hm
          cases b0
          · by_cases hx0 : 0 < x
            · have H5 : Hid (Cnf.bt xs (k + 1) = r2) := by show _ = _; rw [HS5.out]; simp [hx0]
              clear HS5
              go_wp2_with (first | (go_at_call_of 52 (Value.int .i32 x); refine CH.out.mono ?_; rintro e w' ⟨rfl, hw⟩; obtain rfl := hw.symm) | (go_at_call_of 52 (Value.int .i32 (-x)); refine HC.out.mono ?_; rintro e w' ⟨rfl, hw⟩; obtain rfl := hw.symm))
              go_loopw [7] (fun t wr2 => ∃ j : Nat, j ≤ m ∧ t = .int .i64 j ∧ (∀ t, t < j → Cnf.LtL (zs.getD t 0) x) ∧ Drawn W1 wr2) (fun t _ => m - (intOf t).toNat)
              case atStart => exact ⟨0, Nat.zero_le _, rfl, fun t ht => by omega, Drawn.refl _⟩
              case round =>
                obtain ⟨j, hj, rfl, hlow, HD⟩ := hrel
                have HLow := hid hlow
                clear hlow
                rw [← HD.cell] at hc
                by_cases hjm : j < m
                · have hcy := HCE.out j hjm
                  have hyb := HZB.out _ (Cnf.getD_mem zs j (by rw [HM.out]; exact hjm))
                  rw [← HD.cell] at hcy
                  have HSt : Hid (Cnf.LtL (zs.getD j 0) x → ∀ t, t < j + 1 → Cnf.LtL (zs.getD t 0) x) := fun h t ht => by
                    rcases Nat.lt_or_eq_of_le (Nat.le_of_lt_succ ht) with h' | h'
                    · exact HLow.out t h'
                    · rw [h']; exact h
                  have HEx : Hid (¬ Cnf.LtL (zs.getD j 0) x → Cnf.Nrm (xs.take (k + 1)) (zs.take j ++ [x] ++ zs.drop j)) := fun h => HINS.out j (by omega) HLow.out (fun _ => h)
                  generalize zs.getD j 0 = y at hcy hyb HSt HEx
                  obtain ⟨hy1, hy2⟩ := hyb
                  have CB : Hid (∀ W, Calls Try.prog 91 #[.int .i32 y, .int .i32 x] W fun e w' => e = .returned (.bool (Cnf.ltB y x)) ∧ w' = W) := fun W => before91 y x W hy1 hy2 hx1 hx2
                  have hi1 : (j : Int) < (m : Int) := by omega
                  have hi2 : (k : Int) < (n : Int) := by omega
                  cases hlb : Cnf.ltB y x
                  · have HFin := hid (HEx.out (by rw [← Cnf.ltB_iff, hlb]; simp))
                    rw [hlb] at CB
                    clear hlb HSt HEx
                    go_wp2_with fail
                    go_quiet ((go_at_call 91; exact Calls.quiet_of_same (CB.out _)))
                    generalize hw2 : wr.drewN nq = W2
                    have HD2 : Drawn W1 W2 := by rw [← hw2]; exact HD.drewN _
                    clear hw2
                    obtain ⟨ax, cx, ex, _, _, hLx, _⟩ := HLZ.out
                    simp only [Value.slice.injEq] at ex
                    obtain ⟨rfl, _, rfl⟩ := ex
                    have hL2 := HD2.lits hLx
                    clear hLx
                    have hzs : j ≤ zs.length := by rw [HM.out]; exact hj
                    have HA1 := hid (And.intro (show ((zs.take j).map (Value.int .i32)).length = j * 1 by simp; omega) (And.intro (hL2.take j).news (lits_one (zs.take j))))
                    have hc2 : W2.cell? ⟨b, off + k, none⟩ = some (.int .i32 x) := by rw [HD2.cell, ← HD.cell]; exact hc
                    have HL2 := hid hL2
                    have hjc : (j : Int) ≤ (capu : Int) := by omega
                    have hjm' : (j : Int) ≤ (m : Int) := by omega
                    clear hL2 hc hcy
                    go_wp2_with (first
                      | (at_builtin; refine wpList_append_own _ rfl (.tmp 55) (.tmp 58) 39 rfl W2.heap.size 40 i0 (.int .i32 0) 1 4 Try.underlying39 hi hz0 hz1 hz2 rfl (by decide) _ _ _ rfl (World.ownsRow_nil _ _ _ _) ⟨g, 0, none⟩ j capu ((zs.take j).map (Value.int .i32)) rfl HA1.out.1 HA1.out.2.1 HA1.out.2.2 ?c3 ?c4 ?c5 ?_))
                    case c3 => unfold maxLen; omega
                    case c4 => omega
                    case c5 => exact Nat.le_refl _
                    intro v1 W3 hown3 hgrow3 hnil3
                    have hb3 : Below W2.heap.size W2 W3 := (Below.refl _ _).grown hgrow3 (Nat.le_refl _) (fun k hk => by cases hk)
                    have hc3 : W3.cell? ⟨b, off + k, none⟩ = some (.int .i32 x) := by rw [hb3.cell (p := ⟨b, off + k, none⟩) (World.block_lt_of_cell? W2 _ hc2)]; exact hc2
                    have HO3 := hid hown3
                    have HB3 := hid hb3
                    have hs3 := hb3.size
                    clear hown3 hgrow3 hnil3 hb3 hc2 HA1
                    go_wp2_with (first
                      | (at_builtin; refine wpList_append_own _ rfl (.tmp 60) (.tmp 65) 39 rfl W2.heap.size 40 i0 (.int .i32 0) 1 4 Try.underlying39 hi hz0 hz1 hz2 rfl (by decide) _ _ _ rfl (HO3.out.alloc _) ⟨W3.heap.size, 0, none⟩ 1 1 [.int .i32 x] rfl rfl ?d1 ?d2 ?d3 ?d4 ?d5 ?_))
                    case d1 =>
                      intro i u hi'
                      match i, hi' with
                      | 0, hi' => simp at hi'; subst hi'; simp [Addr.add]
                    case d2 => intro u hu; simp at hu; subst hu; rfl
                    case d3 => unfold maxLen; omega
                    case d4 => omega
                    case d5 => simp; omega
                    intro v2 W4 hown4 hgrow4 hnil4
                    have hb4 : Below W2.heap.size W2 W4 := (HB3.out.alloc hs3 _).grown hgrow4 (by simp; omega) (fun q hq => (HO3.out.lt q hq).1)
                    have HB4 := hid hb4
                    have HO4 := hid hown4
                    have HA3 := hid (And.intro (show ((zs.drop j).map (Value.int .i32)).length = (m - j) * 1 by simp [HM.out]) (And.intro (by have h := (Lits.news (Lits.drop (HL2.out.below hb4) j)); rw [Nat.zero_add] at h; exact h) (lits_one (zs.drop j))))
                    have hs4 := hb4.size
                    clear hb4 hown4 hgrow4 hnil4 hc3
                    go_wp2_with (first
                      | (at_builtin; refine wpList_append_own _ rfl (.tmp 67) (.tmp 70) 39 rfl W2.heap.size 40 i0 (.int .i32 0) 1 4 Try.underlying39 hi hz0 hz1 hz2 rfl (by decide) _ _ _ rfl HO4.out ⟨g, j, none⟩ (m - j) (capu - j) ((zs.drop j).map (Value.int .i32)) rfl HA3.out.1 HA3.out.2.1 HA3.out.2.2 ?e3 ?e4 ?e5 ?_))
                    case e3 => unfold maxLen; omega
                    case e4 => omega
                    case e5 => omega
                    intro v3 W5 hown5 hgrow5 hnil5
                    have HB5 := hid (((HD2.below HB.out).trans ((HB4.out.grown hgrow5 hs4 (fun q hq => (HO4.out.lt q hq).1)).mono (HD2.below HB.out).size)))
                    have HO5 : Hid (W5.ownsRow w.heap.size 40 1 v3 (zs.take j ++ [x] ++ zs.drop j).length ((zs.take j ++ [x] ++ zs.drop j).map (Value.int .i32))) := by
                      have e1 : (zs.take j ++ [x] ++ zs.drop j).length = j + 1 + (m - j) := by simp [HM.out]; omega
                      have e2 : (zs.take j ++ [x] ++ zs.drop j).map (Value.int .i32) = List.take j (zs.map (Value.int .i32)) ++ Value.int .i32 x :: List.drop j (zs.map (Value.int .i32)) := by simp
                      show W5.ownsRow _ _ _ _ _ _
                      rw [e1, e2]
                      exact owns_base hown5 (HD2.below HB.out).size
                    clear hown5 hgrow5 hnil5 HA3
                    go_wp2
                    go_roundw
                    case rel => exact ⟨k + 1, zs.take j ++ [x] ++ zs.drop j, by omega, by go_num, by rw [H5.out], HO5.out, fun h => absurd h (by simp), HFin.out, by simp [HM.out]; omega, HB5.out⟩
                    case measure => simp [intOf]; omega
                  · have HFin := hid (HSt.out ((Cnf.ltB_iff _ _).1 hlb))
                    rw [hlb] at CB
                    clear hlb HSt HEx
                    go_wp2_with fail
                    go_quiet ((go_at_call 91; exact Calls.quiet_of_same (CB.out _)))
                    go_wp2_with fail
                    go_roundw
                    case rel => exact ⟨j + 1, by omega, by go_num, HFin.out, HD.drewN _⟩
                    case measure => simp [intOf]; omega
                · have hjeq : j = m := by omega
                  have HFin := hid (HINS.out j (by omega) HLow.out (fun h => absurd h (by omega)))
                  have hd : decide ((j : Int) < (m : Int)) = false := by simp; omega
                  clear hjeq
                  by_cases hcj : capu = j
                  · obtain rfl := hcj.symm
                    go_wp2_with fail
                    go_quiet (fail)
                    generalize hw2 : wr.drewN nq = W2
                    have HD2 : Drawn W1 W2 := by rw [← hw2]; exact HD.drewN _
                    clear hw2
                    obtain ⟨ax, cx, ex, _, _, hLx, _⟩ := HLZ.out
                    simp only [Value.slice.injEq] at ex
                    obtain ⟨rfl, _, rfl⟩ := ex
                    have hL2 := HD2.lits hLx
                    clear hLx
                    have hzs : j ≤ zs.length := by rw [HM.out]; exact hj
                    have HA1 := hid (And.intro (show ((zs.take j).map (Value.int .i32)).length = j * 1 by simp; omega) (And.intro (hL2.take j).news (lits_one (zs.take j))))
                    have hc2 : W2.cell? ⟨b, off + k, none⟩ = some (.int .i32 x) := by rw [HD2.cell, ← HD.cell]; exact hc
                    have HL2 := hid hL2
                    have hjm' : (j : Int) ≤ (m : Int) := by omega
                    clear hL2 hc hd
                    go_wp2_with (first
                      | (at_builtin; refine wpList_append_own _ rfl (.tmp 55) (.tmp 58) 39 rfl W2.heap.size 40 i0 (.int .i32 0) 1 4 Try.underlying39 hi hz0 hz1 hz2 rfl (by decide) _ _ _ rfl (World.ownsRow_nil _ _ _ _) ⟨g, 0, none⟩ j j ((zs.take j).map (Value.int .i32)) rfl HA1.out.1 HA1.out.2.1 HA1.out.2.2 ?c3 ?c4 ?c5 ?_))
                    case c3 => unfold maxLen; omega
                    case c4 => omega
                    case c5 => exact Nat.le_refl _
                    intro v1 W3 hown3 hgrow3 hnil3
                    have hb3 : Below W2.heap.size W2 W3 := (Below.refl _ _).grown hgrow3 (Nat.le_refl _) (fun k hk => by cases hk)
                    have hc3 : W3.cell? ⟨b, off + k, none⟩ = some (.int .i32 x) := by rw [hb3.cell (p := ⟨b, off + k, none⟩) (World.block_lt_of_cell? W2 _ hc2)]; exact hc2
                    have HO3 := hid hown3
                    have HB3 := hid hb3
                    have hs3 := hb3.size
                    clear hown3 hgrow3 hnil3 hb3 hc2 HA1
                    go_wp2_with (first
                      | (at_builtin; refine wpList_append_own _ rfl (.tmp 60) (.tmp 65) 39 rfl W2.heap.size 40 i0 (.int .i32 0) 1 4 Try.underlying39 hi hz0 hz1 hz2 rfl (by decide) _ _ _ rfl (HO3.out.alloc _) ⟨W3.heap.size, 0, none⟩ 1 1 [.int .i32 x] rfl rfl ?d1 ?d2 ?d3 ?d4 ?d5 ?_))
                    case d1 =>
                      intro i u hi'
                      match i, hi' with
                      | 0, hi' => simp at hi'; subst hi'; simp [Addr.add]
                    case d2 => intro u hu; simp at hu; subst hu; rfl
                    case d3 => unfold maxLen; omega
                    case d4 => omega
                    case d5 => simp; omega
                    intro v2 W4 hown4 hgrow4 hnil4
                    have hb4 : Below W2.heap.size W2 W4 := (HB3.out.alloc hs3 _).grown hgrow4 (by simp; omega) (fun q hq => (HO3.out.lt q hq).1)
                    have HB4 := hid hb4
                    have HO4 := hid hown4
                    have hs4 := hb4.size
                    clear hb4 hown4 hgrow4 hnil4 hc3
                    go_wp2_with (first
                      | (at_builtin; refine wpList_append_own _ rfl (.tmp 67) (.tmp 70) 39 rfl W2.heap.size 40 i0 (.int .i32 0) 1 4 Try.underlying39 hi hz0 hz1 hz2 rfl (by decide) _ _ _ rfl HO4.out ⟨g, 0, none⟩ 0 0 [] rfl rfl (fun i u hu => by simp at hu) (fun u hu => by simp at hu) ?e3 ?e4 ?e5 ?_))
                    case e3 => unfold maxLen; omega
                    case e4 => omega
                    case e5 => omega
                    intro v3 W5 hown5 hgrow5 hnil5
                    have HB5 := hid (((HD2.below HB.out).trans ((HB4.out.grown hgrow5 hs4 (fun q hq => (HO4.out.lt q hq).1)).mono (HD2.below HB.out).size)))
                    have HO5 : Hid (W5.ownsRow w.heap.size 40 1 v3 (zs.take j ++ [x] ++ zs.drop j).length ((zs.take j ++ [x] ++ zs.drop j).map (Value.int .i32))) := by
                      have e0 : zs.drop j = [] := List.drop_of_length_le (by rw [HM.out]; omega)
                      have e1 : (zs.take j ++ [x] ++ zs.drop j).length = j + 1 := by rw [e0]; simp; omega
                      have e2 : (zs.take j ++ [x] ++ zs.drop j).map (Value.int .i32) = List.take j (zs.map (Value.int .i32)) ++ [Value.int .i32 x] := by rw [e0]; simp
                      show W5.ownsRow _ _ _ _ _ _
                      rw [e1, e2]
                      exact owns_base hown5 (HD2.below HB.out).size
                    clear hown5 hgrow5 hnil5
                    go_wp2
                    go_roundw
                    case rel => exact ⟨k + 1, zs.take j ++ [x] ++ zs.drop j, by omega, by go_num, by rw [H5.out], HO5.out, fun h => absurd h (by simp), HFin.out, by simp [HM.out]; omega, HB5.out⟩
                    case measure => simp [intOf]; omega
                  · go_wp2_with fail
                    go_quiet (fail)
                    generalize hw2 : wr.drewN nq = W2
                    have HD2 : Drawn W1 W2 := by rw [← hw2]; exact HD.drewN _
                    clear hw2
                    obtain ⟨ax, cx, ex, _, _, hLx, _⟩ := HLZ.out
                    simp only [Value.slice.injEq] at ex
                    obtain ⟨rfl, _, rfl⟩ := ex
                    have hL2 := HD2.lits hLx
                    clear hLx
                    have hzs : j ≤ zs.length := by rw [HM.out]; exact hj
                    have HA1 := hid (And.intro (show ((zs.take j).map (Value.int .i32)).length = j * 1 by simp; omega) (And.intro (hL2.take j).news (lits_one (zs.take j))))
                    have hc2 : W2.cell? ⟨b, off + k, none⟩ = some (.int .i32 x) := by rw [HD2.cell, ← HD.cell]; exact hc
                    have HL2 := hid hL2
                    have hjc : (j : Int) ≤ (capu : Int) := by omega
                    have hjm' : (j : Int) ≤ (m : Int) := by omega
                    clear hL2 hc hd
                    go_wp2_with (first
                      | (at_builtin; refine wpList_append_own _ rfl (.tmp 55) (.tmp 58) 39 rfl W2.heap.size 40 i0 (.int .i32 0) 1 4 Try.underlying39 hi hz0 hz1 hz2 rfl (by decide) _ _ _ rfl (World.ownsRow_nil _ _ _ _) ⟨g, 0, none⟩ j capu ((zs.take j).map (Value.int .i32)) rfl HA1.out.1 HA1.out.2.1 HA1.out.2.2 ?c3 ?c4 ?c5 ?_))
                    case c3 => unfold maxLen; omega
                    case c4 => omega
                    case c5 => exact Nat.le_refl _
                    intro v1 W3 hown3 hgrow3 hnil3
                    have hb3 : Below W2.heap.size W2 W3 := (Below.refl _ _).grown hgrow3 (Nat.le_refl _) (fun k hk => by cases hk)
                    have hc3 : W3.cell? ⟨b, off + k, none⟩ = some (.int .i32 x) := by rw [hb3.cell (p := ⟨b, off + k, none⟩) (World.block_lt_of_cell? W2 _ hc2)]; exact hc2
                    have HO3 := hid hown3
                    have HB3 := hid hb3
                    have hs3 := hb3.size
                    clear hown3 hgrow3 hnil3 hb3 hc2 HA1
                    go_wp2_with (first
                      | (at_builtin; refine wpList_append_own _ rfl (.tmp 60) (.tmp 65) 39 rfl W2.heap.size 40 i0 (.int .i32 0) 1 4 Try.underlying39 hi hz0 hz1 hz2 rfl (by decide) _ _ _ rfl (HO3.out.alloc _) ⟨W3.heap.size, 0, none⟩ 1 1 [.int .i32 x] rfl rfl ?d1 ?d2 ?d3 ?d4 ?d5 ?_))
                    case d1 =>
                      intro i u hi'
                      match i, hi' with
                      | 0, hi' => simp at hi'; subst hi'; simp [Addr.add]
                    case d2 => intro u hu; simp at hu; subst hu; rfl
                    case d3 => unfold maxLen; omega
                    case d4 => omega
                    case d5 => simp; omega
                    intro v2 W4 hown4 hgrow4 hnil4
                    have hb4 : Below W2.heap.size W2 W4 := (HB3.out.alloc hs3 _).grown hgrow4 (by simp; omega) (fun q hq => (HO3.out.lt q hq).1)
                    have HB4 := hid hb4
                    have HO4 := hid hown4
                    have HA3 := hid (And.intro (show ((zs.drop j).map (Value.int .i32)).length = (m - j) * 1 by simp [HM.out]) (And.intro (by have h := (Lits.news (Lits.drop (HL2.out.below hb4) j)); rw [Nat.zero_add] at h; exact h) (lits_one (zs.drop j))))
                    have hs4 := hb4.size
                    clear hb4 hown4 hgrow4 hnil4 hc3
                    go_wp2_with (first
                      | (at_builtin; refine wpList_append_own _ rfl (.tmp 67) (.tmp 70) 39 rfl W2.heap.size 40 i0 (.int .i32 0) 1 4 Try.underlying39 hi hz0 hz1 hz2 rfl (by decide) _ _ _ rfl HO4.out ⟨g, j, none⟩ (m - j) (capu - j) ((zs.drop j).map (Value.int .i32)) rfl HA3.out.1 HA3.out.2.1 HA3.out.2.2 ?e3 ?e4 ?e5 ?_))
                    case e3 => unfold maxLen; omega
                    case e4 => omega
                    case e5 => omega
                    intro v3 W5 hown5 hgrow5 hnil5
                    have HB5 := hid (((HD2.below HB.out).trans ((HB4.out.grown hgrow5 hs4 (fun q hq => (HO4.out.lt q hq).1)).mono (HD2.below HB.out).size)))
                    have HO5 : Hid (W5.ownsRow w.heap.size 40 1 v3 (zs.take j ++ [x] ++ zs.drop j).length ((zs.take j ++ [x] ++ zs.drop j).map (Value.int .i32))) := by
                      have e1 : (zs.take j ++ [x] ++ zs.drop j).length = j + 1 + (m - j) := by simp [HM.out]; omega
                      have e2 : (zs.take j ++ [x] ++ zs.drop j).map (Value.int .i32) = List.take j (zs.map (Value.int .i32)) ++ Value.int .i32 x :: List.drop j (zs.map (Value.int .i32)) := by simp
                      show W5.ownsRow _ _ _ _ _ _
                      rw [e1, e2]
                      exact owns_base hown5 (HD2.below HB.out).size
                    clear hown5 hgrow5 hnil5 HA3
                    go_wp2
                    go_roundw
                    case rel => exact ⟨k + 1, zs.take j ++ [x] ++ zs.drop j, by omega, by go_num, by rw [H5.out], HO5.out, fun h => absurd h (by simp), HFin.out, by simp [HM.out]; omega, HB5.out⟩
                    case measure => simp [intOf]; omega
            · have H5 : Hid (Cnf.bt xs (k + 1) = false) := by show _ = _; rw [HS5.out]; simp [hx0]
              clear HS5 HC
              go_wp2_with (go_at_call 52; refine CH.out.mono ?_; rintro e w' ⟨rfl, hw⟩; obtain rfl := hw.symm)
              go_loopw [7] (fun t wr2 => ∃ j : Nat, j ≤ m ∧ t = .int .i64 j ∧ (∀ t, t < j → Cnf.LtL (zs.getD t 0) x) ∧ Drawn W1 wr2) (fun t _ => m - (intOf t).toNat)
              case atStart => exact ⟨0, Nat.zero_le _, rfl, fun t ht => by omega, Drawn.refl _⟩
              case round =>
                obtain ⟨j, hj, rfl, hlow, HD⟩ := hrel
                have HLow := hid hlow
                clear hlow
                rw [← HD.cell] at hc
                by_cases hjm : j < m
                · have hcy := HCE.out j hjm
                  have hyb := HZB.out _ (Cnf.getD_mem zs j (by rw [HM.out]; exact hjm))
                  rw [← HD.cell] at hcy
                  have HSt : Hid (Cnf.LtL (zs.getD j 0) x → ∀ t, t < j + 1 → Cnf.LtL (zs.getD t 0) x) := fun h t ht => by
                    rcases Nat.lt_or_eq_of_le (Nat.le_of_lt_succ ht) with h' | h'
                    · exact HLow.out t h'
                    · rw [h']; exact h
                  have HEx : Hid (¬ Cnf.LtL (zs.getD j 0) x → Cnf.Nrm (xs.take (k + 1)) (zs.take j ++ [x] ++ zs.drop j)) := fun h => HINS.out j (by omega) HLow.out (fun _ => h)
                  generalize zs.getD j 0 = y at hcy hyb HSt HEx
                  obtain ⟨hy1, hy2⟩ := hyb
                  have CB : Hid (∀ W, Calls Try.prog 91 #[.int .i32 y, .int .i32 x] W fun e w' => e = .returned (.bool (Cnf.ltB y x)) ∧ w' = W) := fun W => before91 y x W hy1 hy2 hx1 hx2
                  have hi1 : (j : Int) < (m : Int) := by omega
                  have hi2 : (k : Int) < (n : Int) := by omega
                  cases hlb : Cnf.ltB y x
                  · have HFin := hid (HEx.out (by rw [← Cnf.ltB_iff, hlb]; simp))
                    rw [hlb] at CB
                    clear hlb HSt HEx
                    go_wp2_with fail
                    go_quiet ((go_at_call 91; exact Calls.quiet_of_same (CB.out _)))
                    generalize hw2 : wr.drewN nq = W2
                    have HD2 : Drawn W1 W2 := by rw [← hw2]; exact HD.drewN _
                    clear hw2
                    obtain ⟨ax, cx, ex, _, _, hLx, _⟩ := HLZ.out
                    simp only [Value.slice.injEq] at ex
                    obtain ⟨rfl, _, rfl⟩ := ex
                    have hL2 := HD2.lits hLx
                    clear hLx
                    have hzs : j ≤ zs.length := by rw [HM.out]; exact hj
                    have HA1 := hid (And.intro (show ((zs.take j).map (Value.int .i32)).length = j * 1 by simp; omega) (And.intro (hL2.take j).news (lits_one (zs.take j))))
                    have hc2 : W2.cell? ⟨b, off + k, none⟩ = some (.int .i32 x) := by rw [HD2.cell, ← HD.cell]; exact hc
                    have HL2 := hid hL2
                    have hjc : (j : Int) ≤ (capu : Int) := by omega
                    have hjm' : (j : Int) ≤ (m : Int) := by omega
                    clear hL2 hc hcy
                    go_wp2_with (first
                      | (at_builtin; refine wpList_append_own _ rfl (.tmp 55) (.tmp 58) 39 rfl W2.heap.size 40 i0 (.int .i32 0) 1 4 Try.underlying39 hi hz0 hz1 hz2 rfl (by decide) _ _ _ rfl (World.ownsRow_nil _ _ _ _) ⟨g, 0, none⟩ j capu ((zs.take j).map (Value.int .i32)) rfl HA1.out.1 HA1.out.2.1 HA1.out.2.2 ?c3 ?c4 ?c5 ?_))
                    case c3 => unfold maxLen; omega
                    case c4 => omega
                    case c5 => exact Nat.le_refl _
                    intro v1 W3 hown3 hgrow3 hnil3
                    have hb3 : Below W2.heap.size W2 W3 := (Below.refl _ _).grown hgrow3 (Nat.le_refl _) (fun k hk => by cases hk)
                    have hc3 : W3.cell? ⟨b, off + k, none⟩ = some (.int .i32 x) := by rw [hb3.cell (p := ⟨b, off + k, none⟩) (World.block_lt_of_cell? W2 _ hc2)]; exact hc2
                    have HO3 := hid hown3
                    have HB3 := hid hb3
                    have hs3 := hb3.size
                    clear hown3 hgrow3 hnil3 hb3 hc2 HA1
                    go_wp2_with (first
                      | (at_builtin; refine wpList_append_own _ rfl (.tmp 60) (.tmp 65) 39 rfl W2.heap.size 40 i0 (.int .i32 0) 1 4 Try.underlying39 hi hz0 hz1 hz2 rfl (by decide) _ _ _ rfl (HO3.out.alloc _) ⟨W3.heap.size, 0, none⟩ 1 1 [.int .i32 x] rfl rfl ?d1 ?d2 ?d3 ?d4 ?d5 ?_))
                    case d1 =>
                      intro i u hi'
                      match i, hi' with
                      | 0, hi' => simp at hi'; subst hi'; simp [Addr.add]
                    case d2 => intro u hu; simp at hu; subst hu; rfl
                    case d3 => unfold maxLen; omega
                    case d4 => omega
                    case d5 => simp; omega
                    intro v2 W4 hown4 hgrow4 hnil4
                    have hb4 : Below W2.heap.size W2 W4 := (HB3.out.alloc hs3 _).grown hgrow4 (by simp; omega) (fun q hq => (HO3.out.lt q hq).1)
                    have HB4 := hid hb4
                    have HO4 := hid hown4
                    have HA3 := hid (And.intro (show ((zs.drop j).map (Value.int .i32)).length = (m - j) * 1 by simp [HM.out]) (And.intro (by have h := (Lits.news (Lits.drop (HL2.out.below hb4) j)); rw [Nat.zero_add] at h; exact h) (lits_one (zs.drop j))))
                    have hs4 := hb4.size
                    clear hb4 hown4 hgrow4 hnil4 hc3
                    go_wp2_with (first
                      | (at_builtin; refine wpList_append_own _ rfl (.tmp 67) (.tmp 70) 39 rfl W2.heap.size 40 i0 (.int .i32 0) 1 4 Try.underlying39 hi hz0 hz1 hz2 rfl (by decide) _ _ _ rfl HO4.out ⟨g, j, none⟩ (m - j) (capu - j) ((zs.drop j).map (Value.int .i32)) rfl HA3.out.1 HA3.out.2.1 HA3.out.2.2 ?e3 ?e4 ?e5 ?_))
                    case e3 => unfold maxLen; omega
                    case e4 => omega
                    case e5 => omega
                    intro v3 W5 hown5 hgrow5 hnil5
                    have HB5 := hid (((HD2.below HB.out).trans ((HB4.out.grown hgrow5 hs4 (fun q hq => (HO4.out.lt q hq).1)).mono (HD2.below HB.out).size)))
                    have HO5 : Hid (W5.ownsRow w.heap.size 40 1 v3 (zs.take j ++ [x] ++ zs.drop j).length ((zs.take j ++ [x] ++ zs.drop j).map (Value.int .i32))) := by
                      have e1 : (zs.take j ++ [x] ++ zs.drop j).length = j + 1 + (m - j) := by simp [HM.out]; omega
                      have e2 : (zs.take j ++ [x] ++ zs.drop j).map (Value.int .i32) = List.take j (zs.map (Value.int .i32)) ++ Value.int .i32 x :: List.drop j (zs.map (Value.int .i32)) := by simp
                      show W5.ownsRow _ _ _ _ _ _
                      rw [e1, e2]
                      exact owns_base hown5 (HD2.below HB.out).size
                    clear hown5 hgrow5 hnil5 HA3
                    go_wp2
                    go_roundw
                    case rel => exact ⟨k + 1, zs.take j ++ [x] ++ zs.drop j, by omega, by go_num, by rw [H5.out], HO5.out, fun h => absurd h (by simp), HFin.out, by simp [HM.out]; omega, HB5.out⟩
                    case measure => simp [intOf]; omega
                  · have HFin := hid (HSt.out ((Cnf.ltB_iff _ _).1 hlb))
                    rw [hlb] at CB
                    clear hlb HSt HEx
                    go_wp2_with fail
                    go_quiet ((go_at_call 91; exact Calls.quiet_of_same (CB.out _)))
                    go_wp2_with fail
                    go_roundw
                    case rel => exact ⟨j + 1, by omega, by go_num, HFin.out, HD.drewN _⟩
                    case measure => simp [intOf]; omega
                · have hjeq : j = m := by omega
                  have HFin := hid (HINS.out j (by omega) HLow.out (fun h => absurd h (by omega)))
                  have hd : decide ((j : Int) < (m : Int)) = false := by simp; omega
                  clear hjeq
                  by_cases hcj : capu = j
                  · obtain rfl := hcj.symm
                    go_wp2_with fail
                    go_quiet (fail)
                    generalize hw2 : wr.drewN nq = W2
                    have HD2 : Drawn W1 W2 := by rw [← hw2]; exact HD.drewN _
                    clear hw2
                    obtain ⟨ax, cx, ex, _, _, hLx, _⟩ := HLZ.out
                    simp only [Value.slice.injEq] at ex
                    obtain ⟨rfl, _, rfl⟩ := ex
                    have hL2 := HD2.lits hLx
                    clear hLx
                    have hzs : j ≤ zs.length := by rw [HM.out]; exact hj
                    have HA1 := hid (And.intro (show ((zs.take j).map (Value.int .i32)).length = j * 1 by simp; omega) (And.intro (hL2.take j).news (lits_one (zs.take j))))
                    have hc2 : W2.cell? ⟨b, off + k, none⟩ = some (.int .i32 x) := by rw [HD2.cell, ← HD.cell]; exact hc
                    have HL2 := hid hL2
                    have hjm' : (j : Int) ≤ (m : Int) := by omega
                    clear hL2 hc hd
                    go_wp2_with (first
                      | (at_builtin; refine wpList_append_own _ rfl (.tmp 55) (.tmp 58) 39 rfl W2.heap.size 40 i0 (.int .i32 0) 1 4 Try.underlying39 hi hz0 hz1 hz2 rfl (by decide) _ _ _ rfl (World.ownsRow_nil _ _ _ _) ⟨g, 0, none⟩ j j ((zs.take j).map (Value.int .i32)) rfl HA1.out.1 HA1.out.2.1 HA1.out.2.2 ?c3 ?c4 ?c5 ?_))
                    case c3 => unfold maxLen; omega
                    case c4 => omega
                    case c5 => exact Nat.le_refl _
                    intro v1 W3 hown3 hgrow3 hnil3
                    have hb3 : Below W2.heap.size W2 W3 := (Below.refl _ _).grown hgrow3 (Nat.le_refl _) (fun k hk => by cases hk)
                    have hc3 : W3.cell? ⟨b, off + k, none⟩ = some (.int .i32 x) := by rw [hb3.cell (p := ⟨b, off + k, none⟩) (World.block_lt_of_cell? W2 _ hc2)]; exact hc2
                    have HO3 := hid hown3
                    have HB3 := hid hb3
                    have hs3 := hb3.size
                    clear hown3 hgrow3 hnil3 hb3 hc2 HA1
                    go_wp2_with (first
                      | (at_builtin; refine wpList_append_own _ rfl (.tmp 60) (.tmp 65) 39 rfl W2.heap.size 40 i0 (.int .i32 0) 1 4 Try.underlying39 hi hz0 hz1 hz2 rfl (by decide) _ _ _ rfl (HO3.out.alloc _) ⟨W3.heap.size, 0, none⟩ 1 1 [.int .i32 x] rfl rfl ?d1 ?d2 ?d3 ?d4 ?d5 ?_))
                    case d1 =>
                      intro i u hi'
                      match i, hi' with
                      | 0, hi' => simp at hi'; subst hi'; simp [Addr.add]
                    case d2 => intro u hu; simp at hu; subst hu; rfl
                    case d3 => unfold maxLen; omega
                    case d4 => omega
                    case d5 => simp; omega
                    intro v2 W4 hown4 hgrow4 hnil4
                    have hb4 : Below W2.heap.size W2 W4 := (HB3.out.alloc hs3 _).grown hgrow4 (by simp; omega) (fun q hq => (HO3.out.lt q hq).1)
                    have HB4 := hid hb4
                    have HO4 := hid hown4
                    have hs4 := hb4.size
                    clear hb4 hown4 hgrow4 hnil4 hc3
                    go_wp2_with (first
                      | (at_builtin; refine wpList_append_own _ rfl (.tmp 67) (.tmp 70) 39 rfl W2.heap.size 40 i0 (.int .i32 0) 1 4 Try.underlying39 hi hz0 hz1 hz2 rfl (by decide) _ _ _ rfl HO4.out ⟨g, 0, none⟩ 0 0 [] rfl rfl (fun i u hu => by simp at hu) (fun u hu => by simp at hu) ?e3 ?e4 ?e5 ?_))
                    case e3 => unfold maxLen; omega
                    case e4 => omega
                    case e5 => omega
                    intro v3 W5 hown5 hgrow5 hnil5
                    have HB5 := hid (((HD2.below HB.out).trans ((HB4.out.grown hgrow5 hs4 (fun q hq => (HO4.out.lt q hq).1)).mono (HD2.below HB.out).size)))
                    have HO5 : Hid (W5.ownsRow w.heap.size 40 1 v3 (zs.take j ++ [x] ++ zs.drop j).length ((zs.take j ++ [x] ++ zs.drop j).map (Value.int .i32))) := by
                      have e0 : zs.drop j = [] := List.drop_of_length_le (by rw [HM.out]; omega)
                      have e1 : (zs.take j ++ [x] ++ zs.drop j).length = j + 1 := by rw [e0]; simp; omega
                      have e2 : (zs.take j ++ [x] ++ zs.drop j).map (Value.int .i32) = List.take j (zs.map (Value.int .i32)) ++ [Value.int .i32 x] := by rw [e0]; simp
                      show W5.ownsRow _ _ _ _ _ _
                      rw [e1, e2]
                      exact owns_base hown5 (HD2.below HB.out).size
                    clear hown5 hgrow5 hnil5
                    go_wp2
                    go_roundw
                    case rel => exact ⟨k + 1, zs.take j ++ [x] ++ zs.drop j, by omega, by go_num, by rw [H5.out], HO5.out, fun h => absurd h (by simp), HFin.out, by simp [HM.out]; omega, HB5.out⟩
                    case measure => simp [intOf]; omega
                  · go_wp2_with fail
                    go_quiet (fail)
                    generalize hw2 : wr.drewN nq = W2
                    have HD2 : Drawn W1 W2 := by rw [← hw2]; exact HD.drewN _
                    clear hw2
                    obtain ⟨ax, cx, ex, _, _, hLx, _⟩ := HLZ.out
                    simp only [Value.slice.injEq] at ex
                    obtain ⟨rfl, _, rfl⟩ := ex
                    have hL2 := HD2.lits hLx
                    clear hLx
                    have hzs : j ≤ zs.length := by rw [HM.out]; exact hj
                    have HA1 := hid (And.intro (show ((zs.take j).map (Value.int .i32)).length = j * 1 by simp; omega) (And.intro (hL2.take j).news (lits_one (zs.take j))))
                    have hc2 : W2.cell? ⟨b, off + k, none⟩ = some (.int .i32 x) := by rw [HD2.cell, ← HD.cell]; exact hc
                    have HL2 := hid hL2
                    have hjc : (j : Int) ≤ (capu : Int) := by omega
                    have hjm' : (j : Int) ≤ (m : Int) := by omega
                    clear hL2 hc hd
                    go_wp2_with (first
                      | (at_builtin; refine wpList_append_own _ rfl (.tmp 55) (.tmp 58) 39 rfl W2.heap.size 40 i0 (.int .i32 0) 1 4 Try.underlying39 hi hz0 hz1 hz2 rfl (by decide) _ _ _ rfl (World.ownsRow_nil _ _ _ _) ⟨g, 0, none⟩ j capu ((zs.take j).map (Value.int .i32)) rfl HA1.out.1 HA1.out.2.1 HA1.out.2.2 ?c3 ?c4 ?c5 ?_))
                    case c3 => unfold maxLen; omega
                    case c4 => omega
                    case c5 => exact Nat.le_refl _
                    intro v1 W3 hown3 hgrow3 hnil3
                    have hb3 : Below W2.heap.size W2 W3 := (Below.refl _ _).grown hgrow3 (Nat.le_refl _) (fun k hk => by cases hk)
                    have hc3 : W3.cell? ⟨b, off + k, none⟩ = some (.int .i32 x) := by rw [hb3.cell (p := ⟨b, off + k, none⟩) (World.block_lt_of_cell? W2 _ hc2)]; exact hc2
                    have HO3 := hid hown3
                    have HB3 := hid hb3
                    have hs3 := hb3.size
                    clear hown3 hgrow3 hnil3 hb3 hc2 HA1
                    go_wp2_with (first
                      | (at_builtin; refine wpList_append_own _ rfl (.tmp 60) (.tmp 65) 39 rfl W2.heap.size 40 i0 (.int .i32 0) 1 4 Try.underlying39 hi hz0 hz1 hz2 rfl (by decide) _ _ _ rfl (HO3.out.alloc _) ⟨W3.heap.size, 0, none⟩ 1 1 [.int .i32 x] rfl rfl ?d1 ?d2 ?d3 ?d4 ?d5 ?_))
                    case d1 =>
                      intro i u hi'
                      match i, hi' with
                      | 0, hi' => simp at hi'; subst hi'; simp [Addr.add]
                    case d2 => intro u hu; simp at hu; subst hu; rfl
                    case d3 => unfold maxLen; omega
                    case d4 => omega
                    case d5 => simp; omega
                    intro v2 W4 hown4 hgrow4 hnil4
                    have hb4 : Below W2.heap.size W2 W4 := (HB3.out.alloc hs3 _).grown hgrow4 (by simp; omega) (fun q hq => (HO3.out.lt q hq).1)
                    have HB4 := hid hb4
                    have HO4 := hid hown4
                    have HA3 := hid (And.intro (show ((zs.drop j).map (Value.int .i32)).length = (m - j) * 1 by simp [HM.out]) (And.intro (by have h := (Lits.news (Lits.drop (HL2.out.below hb4) j)); rw [Nat.zero_add] at h; exact h) (lits_one (zs.drop j))))
                    have hs4 := hb4.size
                    clear hb4 hown4 hgrow4 hnil4 hc3
                    go_wp2_with (first
                      | (at_builtin; refine wpList_append_own _ rfl (.tmp 67) (.tmp 70) 39 rfl W2.heap.size 40 i0 (.int .i32 0) 1 4 Try.underlying39 hi hz0 hz1 hz2 rfl (by decide) _ _ _ rfl HO4.out ⟨g, j, none⟩ (m - j) (capu - j) ((zs.drop j).map (Value.int .i32)) rfl HA3.out.1 HA3.out.2.1 HA3.out.2.2 ?e3 ?e4 ?e5 ?_))
                    case e3 => unfold maxLen; omega
                    case e4 => omega
                    case e5 => omega
                    intro v3 W5 hown5 hgrow5 hnil5
                    have HB5 := hid (((HD2.below HB.out).trans ((HB4.out.grown hgrow5 hs4 (fun q hq => (HO4.out.lt q hq).1)).mono (HD2.below HB.out).size)))
                    have HO5 : Hid (W5.ownsRow w.heap.size 40 1 v3 (zs.take j ++ [x] ++ zs.drop j).length ((zs.take j ++ [x] ++ zs.drop j).map (Value.int .i32))) := by
                      have e1 : (zs.take j ++ [x] ++ zs.drop j).length = j + 1 + (m - j) := by simp [HM.out]; omega
                      have e2 : (zs.take j ++ [x] ++ zs.drop j).map (Value.int .i32) = List.take j (zs.map (Value.int .i32)) ++ Value.int .i32 x :: List.drop j (zs.map (Value.int .i32)) := by simp
                      show W5.ownsRow _ _ _ _ _ _
                      rw [e1, e2]
                      exact owns_base hown5 (HD2.below HB.out).size
                    clear hown5 hgrow5 hnil5 HA3
                    go_wp2
                    go_roundw
                    case rel => exact ⟨k + 1, zs.take j ++ [x] ++ zs.drop j, by omega, by go_num, by rw [H5.out], HO5.out, fun h => absurd h (by simp), HFin.out, by simp [HM.out]; omega, HB5.out⟩
                    case measure => simp [intOf]; omega
          · have H5 : Hid (Cnf.bt xs (k + 1) = true) := by show _ = _; rw [HS5.out]; rfl
            clear HS5 HC
            go_wp2_with (go_at_call 52; refine CH.out.mono ?_; rintro e w' ⟨rfl, hw⟩; obtain rfl := hw.symm)
            go_loopw [7] (fun t wr2 => ∃ j : Nat, j ≤ m ∧ t = .int .i64 j ∧ (∀ t, t < j → Cnf.LtL (zs.getD t 0) x) ∧ Drawn W1 wr2) (fun t _ => m - (intOf t).toNat)
            case atStart => exact ⟨0, Nat.zero_le _, rfl, fun t ht => by omega, Drawn.refl _⟩
            case round =>
              obtain ⟨j, hj, rfl, hlow, HD⟩ := hrel
              have HLow := hid hlow
              clear hlow
              rw [← HD.cell] at hc
              by_cases hjm : j < m
              · have hcy := HCE.out j hjm
                have hyb := HZB.out _ (Cnf.getD_mem zs j (by rw [HM.out]; exact hjm))
                rw [← HD.cell] at hcy
                have HSt : Hid (Cnf.LtL (zs.getD j 0) x → ∀ t, t < j + 1 → Cnf.LtL (zs.getD t 0) x) := fun h t ht => by
                  rcases Nat.lt_or_eq_of_le (Nat.le_of_lt_succ ht) with h' | h'
                  · exact HLow.out t h'
                  · rw [h']; exact h
                have HEx : Hid (¬ Cnf.LtL (zs.getD j 0) x → Cnf.Nrm (xs.take (k + 1)) (zs.take j ++ [x] ++ zs.drop j)) := fun h => HINS.out j (by omega) HLow.out (fun _ => h)
                generalize zs.getD j 0 = y at hcy hyb HSt HEx
                obtain ⟨hy1, hy2⟩ := hyb
                have CB : Hid (∀ W, Calls Try.prog 91 #[.int .i32 y, .int .i32 x] W fun e w' => e = .returned (.bool (Cnf.ltB y x)) ∧ w' = W) := fun W => before91 y x W hy1 hy2 hx1 hx2
                have hi1 : (j : Int) < (m : Int) := by omega
                have hi2 : (k : Int) < (n : Int) := by omega
                cases hlb : Cnf.ltB y x
                · have HFin := hid (HEx.out (by rw [← Cnf.ltB_iff, hlb]; simp))
                  rw [hlb] at CB
                  clear hlb HSt HEx
                  go_wp2_with fail
                  go_quiet ((go_at_call 91; exact Calls.quiet_of_same (CB.out _)))
                  generalize hw2 : wr.drewN nq = W2
                  have HD2 : Drawn W1 W2 := by rw [← hw2]; exact HD.drewN _
                  clear hw2
                  obtain ⟨ax, cx, ex, _, _, hLx, _⟩ := HLZ.out
                  simp only [Value.slice.injEq] at ex
                  obtain ⟨rfl, _, rfl⟩ := ex
                  have hL2 := HD2.lits hLx
                  clear hLx
                  have hzs : j ≤ zs.length := by rw [HM.out]; exact hj
                  have HA1 := hid (And.intro (show ((zs.take j).map (Value.int .i32)).length = j * 1 by simp; omega) (And.intro (hL2.take j).news (lits_one (zs.take j))))
                  have hc2 : W2.cell? ⟨b, off + k, none⟩ = some (.int .i32 x) := by rw [HD2.cell, ← HD.cell]; exact hc
                  have HL2 := hid hL2
                  have hjc : (j : Int) ≤ (capu : Int) := by omega
                  have hjm' : (j : Int) ≤ (m : Int) := by omega
                  clear hL2 hc hcy
                  go_wp2_with (first
                    | (at_builtin; refine wpList_append_own _ rfl (.tmp 55) (.tmp 58) 39 rfl W2.heap.size 40 i0 (.int .i32 0) 1 4 Try.underlying39 hi hz0 hz1 hz2 rfl (by decide) _ _ _ rfl (World.ownsRow_nil _ _ _ _) ⟨g, 0, none⟩ j capu ((zs.take j).map (Value.int .i32)) rfl HA1.out.1 HA1.out.2.1 HA1.out.2.2 ?c3 ?c4 ?c5 ?_))
                  case c3 => unfold maxLen; omega
                  case c4 => omega
                  case c5 => exact Nat.le_refl _
                  intro v1 W3 hown3 hgrow3 hnil3
                  have hb3 : Below W2.heap.size W2 W3 := (Below.refl _ _).grown hgrow3 (Nat.le_refl _) (fun k hk => by cases hk)
                  have hc3 : W3.cell? ⟨b, off + k, none⟩ = some (.int .i32 x) := by rw [hb3.cell (p := ⟨b, off + k, none⟩) (World.block_lt_of_cell? W2 _ hc2)]; exact hc2
                  have HO3 := hid hown3
                  have HB3 := hid hb3
                  have hs3 := hb3.size
                  clear hown3 hgrow3 hnil3 hb3 hc2 HA1
                  go_wp2_with (first
                    | (at_builtin; refine wpList_append_own _ rfl (.tmp 60) (.tmp 65) 39 rfl W2.heap.size 40 i0 (.int .i32 0) 1 4 Try.underlying39 hi hz0 hz1 hz2 rfl (by decide) _ _ _ rfl (HO3.out.alloc _) ⟨W3.heap.size, 0, none⟩ 1 1 [.int .i32 x] rfl rfl ?d1 ?d2 ?d3 ?d4 ?d5 ?_))
                  case d1 =>
                    intro i u hi'
                    match i, hi' with
                    | 0, hi' => simp at hi'; subst hi'; simp [Addr.add]
                  case d2 => intro u hu; simp at hu; subst hu; rfl
                  case d3 => unfold maxLen; omega
                  case d4 => omega
                  case d5 => simp; omega
                  intro v2 W4 hown4 hgrow4 hnil4
                  have hb4 : Below W2.heap.size W2 W4 := (HB3.out.alloc hs3 _).grown hgrow4 (by simp; omega) (fun q hq => (HO3.out.lt q hq).1)
                  have HB4 := hid hb4
                  have HO4 := hid hown4
                  have HA3 := hid (And.intro (show ((zs.drop j).map (Value.int .i32)).length = (m - j) * 1 by simp [HM.out]) (And.intro (by have h := (Lits.news (Lits.drop (HL2.out.below hb4) j)); rw [Nat.zero_add] at h; exact h) (lits_one (zs.drop j))))
                  have hs4 := hb4.size
                  clear hb4 hown4 hgrow4 hnil4 hc3
                  go_wp2_with (first
                    | (at_builtin; refine wpList_append_own _ rfl (.tmp 67) (.tmp 70) 39 rfl W2.heap.size 40 i0 (.int .i32 0) 1 4 Try.underlying39 hi hz0 hz1 hz2 rfl (by decide) _ _ _ rfl HO4.out ⟨g, j, none⟩ (m - j) (capu - j) ((zs.drop j).map (Value.int .i32)) rfl HA3.out.1 HA3.out.2.1 HA3.out.2.2 ?e3 ?e4 ?e5 ?_))
                  case e3 => unfold maxLen; omega
                  case e4 => omega
                  case e5 => omega
                  intro v3 W5 hown5 hgrow5 hnil5
                  have HB5 := hid (((HD2.below HB.out).trans ((HB4.out.grown hgrow5 hs4 (fun q hq => (HO4.out.lt q hq).1)).mono (HD2.below HB.out).size)))
                  have HO5 : Hid (W5.ownsRow w.heap.size 40 1 v3 (zs.take j ++ [x] ++ zs.drop j).length ((zs.take j ++ [x] ++ zs.drop j).map (Value.int .i32))) := by
                    have e1 : (zs.take j ++ [x] ++ zs.drop j).length = j + 1 + (m - j) := by simp [HM.out]; omega
                    have e2 : (zs.take j ++ [x] ++ zs.drop j).map (Value.int .i32) = List.take j (zs.map (Value.int .i32)) ++ Value.int .i32 x :: List.drop j (zs.map (Value.int .i32)) := by simp
                    show W5.ownsRow _ _ _ _ _ _
                    rw [e1, e2]
                    exact owns_base hown5 (HD2.below HB.out).size
                  clear hown5 hgrow5 hnil5 HA3
                  go_wp2
                  go_roundw
                  case rel => exact ⟨k + 1, zs.take j ++ [x] ++ zs.drop j, by omega, by go_num, by rw [H5.out], HO5.out, fun h => absurd h (by simp), HFin.out, by simp [HM.out]; omega, HB5.out⟩
                  case measure => simp [intOf]; omega
                · have HFin := hid (HSt.out ((Cnf.ltB_iff _ _).1 hlb))
                  rw [hlb] at CB
                  clear hlb HSt HEx
                  go_wp2_with fail
                  go_quiet ((go_at_call 91; exact Calls.quiet_of_same (CB.out _)))
                  go_wp2_with fail
                  go_roundw
                  case rel => exact ⟨j + 1, by omega, by go_num, HFin.out, HD.drewN _⟩
                  case measure => simp [intOf]; omega
              · have hjeq : j = m := by omega
                have HFin := hid (HINS.out j (by omega) HLow.out (fun h => absurd h (by omega)))
                have hd : decide ((j : Int) < (m : Int)) = false := by simp; omega
                clear hjeq
                by_cases hcj : capu = j
                · obtain rfl := hcj.symm
                  go_wp2_with fail
                  go_quiet (fail)
                  generalize hw2 : wr.drewN nq = W2
                  have HD2 : Drawn W1 W2 := by rw [← hw2]; exact HD.drewN _
                  clear hw2
                  obtain ⟨ax, cx, ex, _, _, hLx, _⟩ := HLZ.out
                  simp only [Value.slice.injEq] at ex
                  obtain ⟨rfl, _, rfl⟩ := ex
                  have hL2 := HD2.lits hLx
                  clear hLx
                  have hzs : j ≤ zs.length := by rw [HM.out]; exact hj
                  have HA1 := hid (And.intro (show ((zs.take j).map (Value.int .i32)).length = j * 1 by simp; omega) (And.intro (hL2.take j).news (lits_one (zs.take j))))
                  have hc2 : W2.cell? ⟨b, off + k, none⟩ = some (.int .i32 x) := by rw [HD2.cell, ← HD.cell]; exact hc
                  have HL2 := hid hL2
                  have hjm' : (j : Int) ≤ (m : Int) := by omega
                  clear hL2 hc hd
                  go_wp2_with (first
                    | (at_builtin; refine wpList_append_own _ rfl (.tmp 55) (.tmp 58) 39 rfl W2.heap.size 40 i0 (.int .i32 0) 1 4 Try.underlying39 hi hz0 hz1 hz2 rfl (by decide) _ _ _ rfl (World.ownsRow_nil _ _ _ _) ⟨g, 0, none⟩ j j ((zs.take j).map (Value.int .i32)) rfl HA1.out.1 HA1.out.2.1 HA1.out.2.2 ?c3 ?c4 ?c5 ?_))
                  case c3 => unfold maxLen; omega
                  case c4 => omega
                  case c5 => exact Nat.le_refl _
                  intro v1 W3 hown3 hgrow3 hnil3
                  have hb3 : Below W2.heap.size W2 W3 := (Below.refl _ _).grown hgrow3 (Nat.le_refl _) (fun k hk => by cases hk)
                  have hc3 : W3.cell? ⟨b, off + k, none⟩ = some (.int .i32 x) := by rw [hb3.cell (p := ⟨b, off + k, none⟩) (World.block_lt_of_cell? W2 _ hc2)]; exact hc2
                  have HO3 := hid hown3
                  have HB3 := hid hb3
                  have hs3 := hb3.size
                  clear hown3 hgrow3 hnil3 hb3 hc2 HA1
                  go_wp2_with (first
                    | (at_builtin; refine wpList_append_own _ rfl (.tmp 60) (.tmp 65) 39 rfl W2.heap.size 40 i0 (.int .i32 0) 1 4 Try.underlying39 hi hz0 hz1 hz2 rfl (by decide) _ _ _ rfl (HO3.out.alloc _) ⟨W3.heap.size, 0, none⟩ 1 1 [.int .i32 x] rfl rfl ?d1 ?d2 ?d3 ?d4 ?d5 ?_))
                  case d1 =>
                    intro i u hi'
                    match i, hi' with
                    | 0, hi' => simp at hi'; subst hi'; simp [Addr.add]
                  case d2 => intro u hu; simp at hu; subst hu; rfl
                  case d3 => unfold maxLen; omega
                  case d4 => omega
                  case d5 => simp; omega
                  intro v2 W4 hown4 hgrow4 hnil4
                  have hb4 : Below W2.heap.size W2 W4 := (HB3.out.alloc hs3 _).grown hgrow4 (by simp; omega) (fun q hq => (HO3.out.lt q hq).1)
                  have HB4 := hid hb4
                  have HO4 := hid hown4
                  have hs4 := hb4.size
                  clear hb4 hown4 hgrow4 hnil4 hc3
                  go_wp2_with (first
                    | (at_builtin; refine wpList_append_own _ rfl (.tmp 67) (.tmp 70) 39 rfl W2.heap.size 40 i0 (.int .i32 0) 1 4 Try.underlying39 hi hz0 hz1 hz2 rfl (by decide) _ _ _ rfl HO4.out ⟨g, 0, none⟩ 0 0 [] rfl rfl (fun i u hu => by simp at hu) (fun u hu => by simp at hu) ?e3 ?e4 ?e5 ?_))
                  case e3 => unfold maxLen; omega
                  case e4 => omega
                  case e5 => omega
                  intro v3 W5 hown5 hgrow5 hnil5
                  have HB5 := hid (((HD2.below HB.out).trans ((HB4.out.grown hgrow5 hs4 (fun q hq => (HO4.out.lt q hq).1)).mono (HD2.below HB.out).size)))
                  have HO5 : Hid (W5.ownsRow w.heap.size 40 1 v3 (zs.take j ++ [x] ++ zs.drop j).length ((zs.take j ++ [x] ++ zs.drop j).map (Value.int .i32))) := by
                    have e0 : zs.drop j = [] := List.drop_of_length_le (by rw [HM.out]; omega)
                    have e1 : (zs.take j ++ [x] ++ zs.drop j).length = j + 1 := by rw [e0]; simp; omega
                    have e2 : (zs.take j ++ [x] ++ zs.drop j).map (Value.int .i32) = List.take j (zs.map (Value.int .i32)) ++ [Value.int .i32 x] := by rw [e0]; simp
                    show W5.ownsRow _ _ _ _ _ _
                    rw [e1, e2]
                    exact owns_base hown5 (HD2.below HB.out).size
                  clear hown5 hgrow5 hnil5
                  go_wp2
                  go_roundw
                  case rel => exact ⟨k + 1, zs.take j ++ [x] ++ zs.drop j, by omega, by go_num, by rw [H5.out], HO5.out, fun h => absurd h (by simp), HFin.out, by simp [HM.out]; omega, HB5.out⟩
                  case measure => simp [intOf]; omega
                · go_wp2_with fail
                  go_quiet (fail)
                  generalize hw2 : wr.drewN nq = W2
                  have HD2 : Drawn W1 W2 := by rw [← hw2]; exact HD.drewN _
                  clear hw2
                  obtain ⟨ax, cx, ex, _, _, hLx, _⟩ := HLZ.out
                  simp only [Value.slice.injEq] at ex
                  obtain ⟨rfl, _, rfl⟩ := ex
                  have hL2 := HD2.lits hLx
                  clear hLx
                  have hzs : j ≤ zs.length := by rw [HM.out]; exact hj
                  have HA1 := hid (And.intro (show ((zs.take j).map (Value.int .i32)).length = j * 1 by simp; omega) (And.intro (hL2.take j).news (lits_one (zs.take j))))
                  have hc2 : W2.cell? ⟨b, off + k, none⟩ = some (.int .i32 x) := by rw [HD2.cell, ← HD.cell]; exact hc
                  have HL2 := hid hL2
                  have hjc : (j : Int) ≤ (capu : Int) := by omega
                  have hjm' : (j : Int) ≤ (m : Int) := by omega
                  clear hL2 hc hd
                  go_wp2_with (first
                    | (at_builtin; refine wpList_append_own _ rfl (.tmp 55) (.tmp 58) 39 rfl W2.heap.size 40 i0 (.int .i32 0) 1 4 Try.underlying39 hi hz0 hz1 hz2 rfl (by decide) _ _ _ rfl (World.ownsRow_nil _ _ _ _) ⟨g, 0, none⟩ j capu ((zs.take j).map (Value.int .i32)) rfl HA1.out.1 HA1.out.2.1 HA1.out.2.2 ?c3 ?c4 ?c5 ?_))
                  case c3 => unfold maxLen; omega
                  case c4 => omega
                  case c5 => exact Nat.le_refl _
                  intro v1 W3 hown3 hgrow3 hnil3
                  have hb3 : Below W2.heap.size W2 W3 := (Below.refl _ _).grown hgrow3 (Nat.le_refl _) (fun k hk => by cases hk)
                  have hc3 : W3.cell? ⟨b, off + k, none⟩ = some (.int .i32 x) := by rw [hb3.cell (p := ⟨b, off + k, none⟩) (World.block_lt_of_cell? W2 _ hc2)]; exact hc2
                  have HO3 := hid hown3
                  have HB3 := hid hb3
                  have hs3 := hb3.size
                  clear hown3 hgrow3 hnil3 hb3 hc2 HA1
                  go_wp2_with (first
                    | (at_builtin; refine wpList_append_own _ rfl (.tmp 60) (.tmp 65) 39 rfl W2.heap.size 40 i0 (.int .i32 0) 1 4 Try.underlying39 hi hz0 hz1 hz2 rfl (by decide) _ _ _ rfl (HO3.out.alloc _) ⟨W3.heap.size, 0, none⟩ 1 1 [.int .i32 x] rfl rfl ?d1 ?d2 ?d3 ?d4 ?d5 ?_))
                  case d1 =>
                    intro i u hi'
                    match i, hi' with
                    | 0, hi' => simp at hi'; subst hi'; simp [Addr.add]
                  case d2 => intro u hu; simp at hu; subst hu; rfl
                  case d3 => unfold maxLen; omega
                  case d4 => omega
                  case d5 => simp; omega
                  intro v2 W4 hown4 hgrow4 hnil4
                  have hb4 : Below W2.heap.size W2 W4 := (HB3.out.alloc hs3 _).grown hgrow4 (by simp; omega) (fun q hq => (HO3.out.lt q hq).1)
                  have HB4 := hid hb4
                  have HO4 := hid hown4
                  have HA3 := hid (And.intro (show ((zs.drop j).map (Value.int .i32)).length = (m - j) * 1 by simp [HM.out]) (And.intro (by have h := (Lits.news (Lits.drop (HL2.out.below hb4) j)); rw [Nat.zero_add] at h; exact h) (lits_one (zs.drop j))))
                  have hs4 := hb4.size
                  clear hb4 hown4 hgrow4 hnil4 hc3
                  go_wp2_with (first
                    | (at_builtin; refine wpList_append_own _ rfl (.tmp 67) (.tmp 70) 39 rfl W2.heap.size 40 i0 (.int .i32 0) 1 4 Try.underlying39 hi hz0 hz1 hz2 rfl (by decide) _ _ _ rfl HO4.out ⟨g, j, none⟩ (m - j) (capu - j) ((zs.drop j).map (Value.int .i32)) rfl HA3.out.1 HA3.out.2.1 HA3.out.2.2 ?e3 ?e4 ?e5 ?_))
                  case e3 => unfold maxLen; omega
                  case e4 => omega
                  case e5 => omega
                  intro v3 W5 hown5 hgrow5 hnil5
                  have HB5 := hid (((HD2.below HB.out).trans ((HB4.out.grown hgrow5 hs4 (fun q hq => (HO4.out.lt q hq).1)).mono (HD2.below HB.out).size)))
                  have HO5 : Hid (W5.ownsRow w.heap.size 40 1 v3 (zs.take j ++ [x] ++ zs.drop j).length ((zs.take j ++ [x] ++ zs.drop j).map (Value.int .i32))) := by
                    have e1 : (zs.take j ++ [x] ++ zs.drop j).length = j + 1 + (m - j) := by simp [HM.out]; omega
                    have e2 : (zs.take j ++ [x] ++ zs.drop j).map (Value.int .i32) = List.take j (zs.map (Value.int .i32)) ++ Value.int .i32 x :: List.drop j (zs.map (Value.int .i32)) := by simp
                    show W5.ownsRow _ _ _ _ _ _
                    rw [e1, e2]
                    exact owns_base hown5 (HD2.below HB.out).size
                  clear hown5 hgrow5 hnil5 HA3
                  go_wp2
                  go_roundw
                  case rel => exact ⟨k + 1, zs.take j ++ [x] ++ zs.drop j, by omega, by go_num, by rw [H5.out], HO5.out, fun h => absurd h (by simp), HFin.out, by simp [HM.out]; omega, HB5.out⟩
                  case measure => simp [intOf]; omega
      · rw [hhas] at CH
        have F1 := hid (Cnf.nrm_dup (by rw [HN.out]; exact hlt) HNk.out hhas)
        have F2 := hid (Cnf.bt_dup (by rw [HN.out]; exact hlt) HNk.out hhas)
        clear hhas
        generalize xs.getD k 0 = x at hc hx1 hx2 CH
        generalize hm : zs.length = m at *
        have HM := hid hm
        clear hm
        go_wp2_with (go_at_call 52; refine CH.out.mono ?_; rintro e w' ⟨rfl, rfl⟩)
        go_roundw
        case rel => exact ⟨k + 1, zs, by omega, by go_num, by rw [F2.out], by rw [HM.out]; exact HO.out, HNil.out, F1.out, by rw [HM.out]; omega, HB.out⟩
        case measure => simp [intOf]; omega
    · go_wp2
      go_ret2
      have e : xs.take k = xs := List.take_of_length_le (by rw [HN.out]; omega)
      have hkn : k = xs.length := by rw [HN.out]; omega
      refine ⟨u4, zs, tup2 rfl (by rw [← Cnf.bt_all, ← hkn]; rfl), by have h := HNk.out; rw [e] at h; exact h, HO.out, HB.out, by omega⟩

end Go.Proofs.Ytjjanmgeogjngaa

/- Small functions of the document's checker, and of the statements. -/
namespace Go.Proofs.Ytjjanmgeogjngaa
open Go.RowKit
set_option linter.unusedVariables false

/-- How many hints stand ahead of the first one that is not above 0. -/
def HeadOut (n : Nat) (hs : List Int) (e : Ending) : Prop := ∃ k, k ≤ n ∧ e = .returned (.int .i64 (k : Nat)) ∧ (∀ j, j < k → 0 < hs.getD j 0) ∧ (k = n ∨ ¬ 0 < hs.getD k 0)
set_option maxHeartbeats 2000000 in
theorem head65 (a : Option Addr) (n c : Nat) (hs : List Int) (w : World) (hn : hs.length = n) (hb : n ≤ 35184372088832) (hx : Hnts w a hs) :
    Calls Try.prog 65 #[.slice a n c] w fun e w' => HeadOut n hs e ∧ w' = w := by
  have HX := hid hx
  have HN := hid hn
  clear hx hn
  go_enter Try.func65, Try.ntmps65
  go_wp2
  go_loop [3] (fun i => ∃ k : Nat, i = .int .i64 k ∧ k ≤ n ∧ Hid (∀ j, j < k → 0 < hs.getD j 0)) (fun i => n - (intOf i).toNat)
  case atStart => exact ⟨0, rfl, Nat.zero_le _, hid (fun j hj => absurd hj (Nat.not_lt_zero j))⟩
  case round =>
    obtain ⟨k, rfl, hk, HI⟩ := hrel
    by_cases hlt : k < n
    · have hlt' : (k : Int) < n := by omega
      obtain ⟨b, off, rfl, _, hc, h1, h2⟩ := Row.at HX.out (j := k) (by rw [HN.out]; exact hlt)
      by_cases hpos : 0 < hs.getD k 0
      · have HK : Hid (∀ j, j < k + 1 → 0 < hs.getD j 0) := fun j hj => by
          by_cases e : j = k
          · subst e; exact hpos
          · exact HI.out j (by omega)
        generalize hs.getD k 0 = x at hc h1 h2 hpos
        go_wp2
        go_round
        case rel => exact ⟨k + 1, by go_num, by omega, HK⟩
        case measure => simp [intOf]; omega
      · have HF : Hid (HeadOut n hs (.returned (.int .i64 (k : Nat)))) := ⟨k, hk, rfl, HI.out, .inr hpos⟩
        generalize hs.getD k 0 = x at hc h1 h2 hpos
        go_wp2
        go_ret
        exact ⟨HF.out, rfl⟩
    · have hge : ¬ (k : Int) < n := by omega
      have HF : Hid (HeadOut n hs (.returned (.int .i64 (k : Nat)))) := ⟨k, hk, rfl, HI.out, .inl (by omega)⟩
      go_wp2
      go_ret
      exact ⟨HF.out, rfl⟩

set_option maxHeartbeats 2000000 in
theorem both64 (a : Option Addr) (n c : Nat) (xs : List Int) (w : World) (hn : xs.length = n) (hN : n ≤ 1099511627776) (hx : Lits w a xs) :
    Calls Try.prog 64 #[.slice a n c] w fun e w' => e = .returned (.bool (Cnf.both xs)) ∧ Below w.heap.size w w' := by
  have C := hid (normal81 a n c xs w hn hN hx)
  clear hx hn
  go_enter Try.func64, Try.ntmps64
  go_wp2_with (go_at_call 81; refine C.out.mono ?_; clear C; rintro e w' ⟨v, ys, rfl, _, _, hB, _⟩; have HB := hid hB; clear hB)
  go_ret
  exact ⟨rfl, HB.out⟩
end Go.Proofs.Ytjjanmgeogjngaa

/- Are two rows of literals the same? -/
namespace Ckr
theorem take_eq (xs ys : List Int) (k : Nat) (h1 : k < xs.length) (h2 : k < ys.length) (h : xs.take k = ys.take k) (e : xs.getD k 0 = ys.getD k 0) : xs.take (k + 1) = ys.take (k + 1) := by
  rw [Lra.take_snoc xs k h1, Lra.take_snoc ys k h2, h, e]
end Ckr
namespace Go.Proofs.Ytjjanmgeogjngaa
open Go.RowKit
set_option linter.unusedVariables false

set_option maxRecDepth 100000 in
set_option maxHeartbeats 2000000 in
theorem row15 (a b : Option Addr) (n ca m cb : Nat) (xs ys : List Int) (w : World) (hn : xs.length = n) (hm : ys.length = m) (hN : n ≤ 35184372088832) (hx : Lits w a xs) (hy : Lits w b ys) :
    Calls Try.prog 15 #[.slice a n ca, .slice b m cb] w fun e w' => e = .returned (.bool (decide (xs = ys))) ∧ Drawn w w' := by
  have HX := hid hx
  have HY := hid hy
  have HN := hid hn
  have HM := hid hm
  clear hx hy hn hm
  by_cases hnm : n = m
  · subst hnm
    go_enter Try.func15, Try.ntmps15
    go_wp2
    go_loopw [5] (fun i wr => ∃ k : Nat, i = .int .i64 k ∧ k ≤ n ∧ Hid (xs.take k = ys.take k) ∧ Hid (Drawn w wr)) (fun i _ => n - (intOf i).toNat)
    case atStart => exact ⟨0, rfl, Nat.zero_le _, hid (by simp), hid (Drawn.refl w)⟩
    case round =>
      obtain ⟨k, rfl, hk, HI, HD⟩ := hrel
      by_cases hlt : k < n
      · have hlt' : (k : Int) < n := by omega
        obtain ⟨b1, o1, rfl, _, hc1, _, _⟩ := Row.at (HD.out.lits HX.out) (j := k) (by rw [HN.out]; exact hlt)
        obtain ⟨b2, o2, rfl, _, hc2, _, _⟩ := Row.at (HD.out.lits HY.out) (j := k) (by rw [HM.out]; exact hlt)
        have HT := hid (fun e => Ckr.take_eq xs ys k (by rw [HN.out]; exact hlt) (by rw [HM.out]; exact hlt) HI.out e)
        have HZ := hid (fun (e : ¬ xs.getD k 0 = ys.getD k 0) => show decide (xs = ys) = false by
          rw [decide_eq_false_iff_not]; intro h; rw [h] at e; exact e rfl)
        generalize xs.getD k 0 = x at hc1 HT HZ
        generalize ys.getD k 0 = y at hc2 HT HZ
        by_cases e : x = y
        · have HK := hid (HT.out e)
          have e' : (x == y) = true := by simpa using e
          have e'' : (x != y) = false := by simpa using e
          clear HT HZ e
          go_wp2_with fail
          go_quiet (fail)
          go_wp2_with fail
          go_roundw
          case rel => exact ⟨k + 1, by go_num, by omega, HK, hid (HD.out.drewN _)⟩
          case measure => simp [intOf]; omega
        · have HK := hid (HZ.out e)
          have e' : (x == y) = false := by simpa using e
          have e'' : (x != y) = true := by simpa using e
          clear HT HZ e
          go_wp2_with fail
          go_quiet (fail)
          go_wp2_with fail
          go_ret
          exact ⟨by rw [HK.out]; rfl, HD.out.drewN _⟩
      · have hge : ¬ (k : Int) < n := by omega
        have HK := hid (show decide (xs = ys) = true by
          rw [decide_eq_true_eq]
          have h := HI.out
          rwa [List.take_of_length_le (by rw [HN.out]; omega), List.take_of_length_le (by rw [HM.out]; omega)] at h)
        go_wp2
        go_ret
        exact ⟨by rw [HK.out]; rfl, HD.out⟩
  · have HK := hid (show decide (xs = ys) = false by
      rw [decide_eq_false_iff_not]; intro h; apply hnm; rw [← HN.out, ← HM.out, h])
    have e' : ((n : Int) == (m : Int)) = false := by simp; omega
    have e'' : ((n : Int) != (m : Int)) = true := by simp; omega
    go_enter Try.func15, Try.ntmps15
    go_wp2
    go_ret
    exact ⟨by rw [HK.out]; rfl, Drawn.refl w⟩
end Go.Proofs.Ytjjanmgeogjngaa

