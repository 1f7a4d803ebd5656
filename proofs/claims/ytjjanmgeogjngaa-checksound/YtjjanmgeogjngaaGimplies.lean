/- A clause that follows without groups is true wherever all clauses that stand are: the call. -/
import Derived.Test.YtjjanmgeogjngaaGh
import Derived.Test.YtjjanmgeogjngaaRows
import Derived.ShutString
import Derived.ChangeMaps5
import Derived.Below
/- A clause that follows without groups is true wherever all clauses that stand are: the call. -/
namespace Go.Proofs.Ytjjanmgeogjngaa
open Go.RowKit
set_option linter.unusedVariables false

theorem one_step {W : World} {g : Nat} {s : Lra.Stp} {a1 a2 : Option Addr} {c1 c2 : Nat} (h : W.heap[g]? = some (.cells #[.int .u8 s.kind, .int .i64 s.id, .slice a1 s.lits.length c1, .slice a2 s.hints.length c2] 44 (0, 0))) (hs : StpV W a1 a2 s) (hc : s.hints.length ≤ c2 ∧ c2 ≤ maxLen) : StepsC W (some ⟨g, 0, none⟩) [s] := by
  refine .inr ⟨g, 0, rfl, fun j hj => ?_⟩
  match j, hj with
  | 0, _ => exact ⟨a1, c1, a2, c2, ⟨row_cell h 0, row_cell h 1, row_cell h 2, row_cell h 3, hs⟩, hc⟩
def TrueOut (w : World) (e : Ending) (w' : World) : Prop := e = .returned (.bool true) ∧ Below w.heap.size w w'

set_option maxRecDepth 100000 in
set_option maxHeartbeats 8000000 in
theorem law6 (vars : Int) (a : Option Addr) (n c : Nat) (cs : List (List Int)) (al : Option Addr) (nl cl : Nat) (l : List Int) (ah : Option Addr) (nh ch : Nat) (hs : List Int) (w : World) (hn : cs.length = n) (hb : n ≤ 8796093022208) (hc : Cls w a cs) (hnl : l.length = nl) (hbl : nl ≤ 35184372088832) (hl : Lits w al l) (hnh : hs.length = nh) (hbh : nh ≤ 35184372088832) (hcap : nh ≤ ch ∧ ch ≤ maxLen) (hh : Hnts w ah hs) :
    Calls Try.prog 6 #[.agg #[.int .i64 vars, .slice a n c], .slice al nl cl, .slice ah nh ch] w fun e w' => TrueOut w e w' := by
  have hB := below_box w (.cells #[.int .i64 vars, .slice a n c] 24)
  have hx := heap_alloc_new w (.cells #[.int .i64 vars, .slice a n c] 24)
  generalize hW1 : w.alloc (.cells #[.int .i64 vars, .slice a n c] 24) = W1 at hB hx
  have x0 : W1.cell? ⟨w.heap.size, 0, none⟩ = some (.int .i64 vars) := row_cell hx 0
  have x1 : W1.cell? ⟨w.heap.size, 1, none⟩ = some (.slice a n c) := row_cell hx 1
  have HX := hid (Array.getElem?_eq_some_iff.1 hx).1
  have HC := hid (hc.below hB)
  have HL := hid (hl.below hB)
  have HH := hid (hh.below hB)
  have HN := hid hn
  have HB := hid hB
  have HNL := hid hnl
  have HNH := hid hnh
  have HCap := hid hcap
  have C28 := hid (add28 ((n : Int) + 1) al nl cl ah nh ch W1)
  have C10 := hid works10
  clear hc hl hn hB hx hnl hnh hh hcap
  go_enter Try.func6, Try.ntmps6
  go_wp2_with fail
  go_at_call 28
  refine C28.out.mono ?_
  clear C28
  rintro e W2 ⟨rfl, hB2⟩
  have hB3 := below_box W2 (.cells #[.int .u8 1, .int .i64 ((n : Int) + 1), .slice al nl cl, .slice ah nh ch] 44)
  have hx3 := heap_alloc_new W2 (.cells #[.int .u8 1, .int .i64 ((n : Int) + 1), .slice al nl cl, .slice ah nh ch] 44)
  generalize hW3 : W2.alloc (.cells #[.int .u8 1, .int .i64 ((n : Int) + 1), .slice al nl cl, .slice ah nh ch] 44) = W3 at hB3 hx3
  have HB3 := hid (hB2.trans (hB3.mono hB2.size))
  have y0 := (HB3.out.cell (p := ⟨w.heap.size, 0, none⟩) HX.out).trans x0
  have y1 := (HB3.out.cell (p := ⟨w.heap.size, 1, none⟩) HX.out).trans x1
  have HX3 := hid hx3
  have hvs : StpV W3 al ah ⟨1, (n : Int) + 1, l, hs⟩ := ⟨HL.out.below HB3.out, HH.out.below HB3.out, by simp only; omega, by simp only; omega, by rw [HNL.out, HNH.out]; omega⟩
  have HVS := hid hvs
  have HSC : Hid (StepsC W3 (some ⟨W2.heap.size, 0, none⟩) [⟨1, (n : Int) + 1, l, hs⟩]) := one_step (s := ⟨1, (n : Int) + 1, l, hs⟩) (by simp only [HNL.out, HNH.out]; exact hx3) hvs (by simp only [HNH.out]; exact HCap.out)
  have C9 := hid (large9 vars a n c cs (some ⟨W2.heap.size, 0, none⟩) 1 1 [⟨1, (n : Int) + 1, l, hs⟩] W3 HN.out (by omega) (HC.out.below HB3.out) rfl (by omega) HSC.out.steps)
  clear hB2 hB3 hx3 hvs
  go_wp2_with fail
  clear hW3
  go_at_call 9
  refine C9.out.mono ?_
  clear C9
  rintro e W4 ⟨⟨b, rfl, hfine⟩, hB4⟩
  have HB4 := hid (HB3.out.trans (hB4.mono HB3.out.size))
  have HB34 := hid hB4
  have z0 := (hB4.cell (p := ⟨w.heap.size, 0, none⟩) (Nat.lt_of_lt_of_le HX.out HB3.out.size)).trans y0
  have z1 := (hB4.cell (p := ⟨w.heap.size, 1, none⟩) (Nat.lt_of_lt_of_le HX.out HB3.out.size)).trans y1
  have HDone := hid (fun W5 (h : Below W1.heap.size W1 W5) W6 (h6 : Below W5.heap.size W5 W6) => show TrueOut w (.returned (.bool true)) W6 from ⟨rfl, (HB.out.trans (h.mono HB.out.size)).trans (h6.mono (Nat.le_trans HB.out.size h.size))⟩)
  have HFine := hid hfine
  clear hfine hB4 y0 y1
  cases b with
  | true =>
    go_wp2_with (go_at_call 10; refine (C10.out _).mono ?_; rintro e W6 ⟨rfl, h6⟩; have OUT := hid (HDone.out W4 HB4.out W6 h6); clear h6)
    go_ret
    exact OUT.out
  | false =>
    obtain ⟨f1, f2, f3⟩ := HFine.out rfl
    rw [HN.out] at f1 f2
    have HF3 := hid (show nl ≤ 1500 ∧ nh ≤ 1500 by simp [Lra.items, HNL.out, HNH.out] at f3; omega)
    have HF2 := hid f2
    clear HFine f3 f2
    by_cases hv8 : (8 : Int) < vars
    · go_wp2_with (go_at_call 10; refine (C10.out _).mono ?_; rintro e W6 ⟨rfl, h6⟩; have OUT := hid (HDone.out W4 HB4.out W6 h6); clear h6)
      go_ret
      exact OUT.out
    · by_cases hn60 : (60 : Int) < n
      · go_wp2_with (go_at_call 10; refine (C10.out _).mono ?_; rintro e W6 ⟨rfl, h6⟩; have OUT := hid (HDone.out W4 HB4.out W6 h6); clear h6)
        go_ret
        exact OUT.out
      · have C26 := hid (plain26 ah nh ch hs W4 HNH.out (by omega) (HH.out.below HB4.out))
        cases hpl : hs.all Lra.above with
        | false =>
          rw [hpl] at C26
          go_wp2_with (first
            | (go_at_call 26; refine C26.out.mono ?_; clear C26; rintro e W5 ⟨rfl, hW⟩; rw [hW]; clear hW)
            | (go_at_call 10; refine (C10.out _).mono ?_; rintro e W6 ⟨rfl, h6⟩; have OUT := hid (HDone.out _ HB4.out W6 h6); clear h6))
          go_ret
          exact OUT.out
        | true =>
          rw [hpl] at C26
          have HPL := hid hpl
          clear hpl
          by_cases hr : Cnf.right vars cs = 0
          · have C13 := hid (new13 vars a n c cs W4 HN.out (HC.out.below HB4.out) hr)
            go_wp2_with (first
              | (go_at_call 26; refine C26.out.mono ?_; clear C26; rintro e W5 ⟨rfl, hW⟩; rw [hW]; clear hW))
            go_at_call 13
            refine C13.out.mono ?_
            clear C13
            rintro e W5 ⟨cb, bm, t5, r5, rfl, hC5, hB5⟩
            obtain ⟨v0, _, _, _, _⟩ := right_zero hr
            obtain ⟨u, rfl⟩ : ∃ u : Nat, vars = u := ⟨vars.toNat, by omega⟩
            have HB5 := hid (HB4.out.trans (hB5.mono HB4.out.size))
            have HB45 := hid hB5
            have HB35 := hid (HB34.out.trans (hB5.mono HB34.out.size))
            have hx5 : W5.heap[W2.heap.size]? = some (.cells #[.int .u8 1, .int .i64 ((n : Int) + 1), .slice al nl cl, .slice ah nh ch] 44 (0, 0)) := (HB35.out.block _ (Array.getElem?_eq_some_iff.1 HX3.out).1).trans HX3.out
            have q0 : W5.cell? ⟨W2.heap.size, 0, none⟩ = some (.int .u8 1) := row_cell hx5 0
            have q1 : W5.cell? ⟨W2.heap.size, 1, none⟩ = some (.int .i64 ((n : Int) + 1)) := row_cell hx5 1
            have q2 : W5.cell? ⟨W2.heap.size, 2, none⟩ = some (.slice al nl cl) := row_cell hx5 2
            have q3 : W5.cell? ⟨W2.heap.size, 3, none⟩ = some (.slice ah nh ch) := row_cell hx5 3
            have u0 := (HB45.out.cell (p := ⟨w.heap.size, 0, none⟩) (Nat.lt_of_lt_of_le HX.out HB4.out.size)).trans z0
            have u1 := (HB45.out.cell (p := ⟨w.heap.size, 1, none⟩) (Nat.lt_of_lt_of_le HX.out HB4.out.size)).trans z1
            have C16 := hid (step16 W4.heap.size cb bm t5 r5 cs.length W5 (Ckr.new cs) ⟨1, (n : Int) + 1, l, hs⟩ al cl ah ch hC5 (by rw [HN.out]; unfold maxLen; omega) (Ck.argS hC5 (HVS.out.below HB34.out) hB5 (by simp only [HNH.out]; exact HCap.out) (by simp only [HNL.out, HNH.out]; have := HF3.out; omega)))
            unfold sval at C16
            simp only [HNL.out, HNH.out] at C16
            have HFacts := hid hC5.facts
            have HImp := hid (fun (h : (Ckr.stepP (Ckr.new cs) ⟨1, (n : Int) + 1, l, hs⟩).1 = 0) => fun hf j => Ckr.implies hr h HPL.out hf (m := Tru.model u j) (by rw [Tru.model_len]))
            have HLit : Hid ((Ckr.stepP (Ckr.new cs) ⟨1, (n : Int) + 1, l, hs⟩).1 = 0 → ∀ x ∈ l, -1048576 ≤ x ∧ x ≤ 1048576) := by
              intro h x hx
              unfold Ckr.stepP at h
              cases hmay : Lra.may ⟨1, (n : Int) + 1, l, hs⟩ with
              | false => rw [hmay] at h; cases h
              | true =>
                unfold Lra.may at hmay
                simp only [if_pos, Bool.and_eq_true] at hmay
                have := List.all_eq_true.1 hmay.2.1 x hx
                simp [Lra.literal] at this
                omega
            have HCB := hid (clause_bnd (w := w) (a := a) (right_zero hr).2.2.2.1)
            generalize Ckr.stepP (Ckr.new cs) ⟨1, (n : Int) + 1, l, hs⟩ = st at C16 HImp HLit
            obtain ⟨q, S2⟩ := st
            simp only at HImp HLit
            unfold StepOut at C16
            simp only at C16
            clear hC5 hB5 hx5 hr z0 z1
            by_cases hq : q = 0
            · have hq' : (q != 0) = false := by simpa using hq
              have HI2 := hid (HImp.out hq)
              have HL2 := hid (HLit.out hq)
              clear HImp HLit hq
              go_wp2_with (go_at_call 16; refine C16.out.mono ?_; clear C16; rintro e W6 ⟨rfl, t6, r6, k6, _, _, hF6, _, _⟩
                           have hB6 : Below W4.heap.size W5 W6 := hF6.below HFacts.out.1 HFacts.out.2.1 (fun g h => (HFacts.out.2.2.1 g h).1) (fun g h => (HFacts.out.2.2.2.1 g h).1) HFacts.out.2.2.2.2
                           have HB6 := hid (HB4.out.trans ((HB45.out.trans hB6).mono HB4.out.size))
                           clear hF6 hB6)
              have hu8 : u ≤ 8 := by omega
              obtain ⟨hpw, hp2⟩ := pow16 u (by omega)
              have hpw2 := hpw
              rw [Nat.min_eq_left (by omega)] at hpw2
              generalize hP : 2 ^ u = P at hpw hp2 hpw2
              have hnl3 := HF3.out.1
              clear hP hv8 hn60 HB34 HB45 HB35 HFacts q0 q1 q2 q3 u0 u1 HX3 HVS HSC HF3 HF2
              go_loopw [10] (fun i wr => ∃ j : Nat, j ≤ P ∧ i = .int .i64 j ∧ Hid (Below W1.heap.size W1 wr)) (fun i _ => P - (intOf i).toNat)
              case atStart => exact ⟨0, Nat.zero_le _, rfl, HB6⟩
              case round =>
                obtain ⟨j, hj, rfl, HBr⟩ := hrel
                have u0 := (HBr.out.cell (p := ⟨w.heap.size, 0, none⟩) HX.out).trans x0
                have u1 := (HBr.out.cell (p := ⟨w.heap.size, 1, none⟩) HX.out).trans x1
                by_cases hlt : j < P
                · have hlt' : (j : Int) < P := by omega
                  have C29 := hid (model29 j u wr (by omega) (by omega))
                  have HAll := hid (fun W7 am capm (hB7 : Below wr.heap.size wr W7) (hm : Bools W7 am (Tru.model u j)) => show
                      (Calls Try.prog 30 #[.agg #[.int .i64 u, .slice a n c], .slice am u capm] W7 fun e w' => e = .returned (.bool (Cnf.holds cs (Tru.model u j))) ∧ Below W7.heap.size W7 w') ∧ W7.cell? ⟨w.heap.size, 0, none⟩ = some (.int .i64 u) ∧ W7.cell? ⟨w.heap.size, 1, none⟩ = some (.slice a n c) ∧ Below W1.heap.size W1 W7 from by
                    have hB17 : Below W1.heap.size W1 W7 := HBr.out.trans (hB7.mono HBr.out.size)
                    exact ⟨holds30 u a am n c u capm cs (Tru.model u j) W7 HN.out hb (Tru.model_len u j) (by omega) HCB.out (HC.out.below hB17) hm, (hB17.cell (p := ⟨w.heap.size, 0, none⟩) HX.out).trans x0, (hB17.cell (p := ⟨w.heap.size, 1, none⟩) HX.out).trans x1, hB17⟩)
                  have HVal := hid (fun W8 am capm (hB8 : Below W1.heap.size W1 W8) (hm : Bools W8 am (Tru.model u j)) => show
                      (Calls Try.prog 31 #[.slice al nl cl, .slice am u capm] W8 fun e w' => e = .returned (.bool (Cnf.val l (Tru.model u j))) ∧ w' = W8) ∧ (Calls Try.prog 32 #[.slice al nl cl, .int .i64 u] W8 fun e w' => e = .returned (.bool (l.all (Lra.below u))) ∧ w' = W8) ∧ (Calls Try.prog 33 #[.agg #[.int .i64 u, .slice a n c], .slice al nl cl] W8 fun e w' => e = .returned (.bool (Ckr.freshB cs l)) ∧ Below W8.heap.size W8 w') ∧ W8.cell? ⟨w.heap.size, 0, none⟩ = some (.int .i64 u) ∧ W8.cell? ⟨w.heap.size, 1, none⟩ = some (.slice a n c) from
                    ⟨value31 al am nl cl u capm l (Tru.model u j) W8 HNL.out (by omega) (Tru.model_len u j) (by omega) (HL.out.below hB8) hm, over32 u al nl cl l W8 HNL.out (by omega) (HL.out.below hB8), fresh33 u a n c cs al nl cl l W8 HN.out (by omega) (HC.out.below hB8) HCB.out HNL.out (by omega) (HL.out.below hB8) HL2.out, (hB8.cell (p := ⟨w.heap.size, 0, none⟩) HX.out).trans x0, (hB8.cell (p := ⟨w.heap.size, 1, none⟩) HX.out).trans x1⟩)
                  have HI3 := hid (fun hf ho hh => HI2.out hf j ho hh)
                  generalize Cnf.holds cs (Tru.model u j) = bh at HAll HI3
                  generalize Cnf.val l (Tru.model u j) = bv at HVal HI3
                  generalize l.all (Lra.below u) = bo at HVal HI3
                  generalize Ckr.freshB cs l = bf at HVal HI3
                  have key : bh = false ∨ (bh = true ∧ bv = true) ∨ (bh = true ∧ bv = false ∧ bo = false) ∨ (bh = true ∧ bv = false ∧ bo = true ∧ bf = true) := by
                    cases bh with
                    | false => exact .inl rfl
                    | true =>
                      cases bv with
                      | true => exact .inr (.inl ⟨rfl, rfl⟩)
                      | false =>
                        cases bo with
                        | false => exact .inr (.inr (.inl ⟨rfl, rfl, rfl⟩))
                        | true =>
                          cases bf with
                          | true => exact .inr (.inr (.inr ⟨rfl, rfl, rfl, rfl⟩))
                          | false => exact absurd (HI3.out rfl rfl rfl) (by decide)
                  clear HI3
                  rcases key with rfl | ⟨rfl, rfl⟩ | ⟨rfl, rfl, rfl⟩ | ⟨rfl, rfl, rfl, rfl⟩
                  all_goals
                    go_wp2_with (first
                      | (go_at_call 29; refine C29.out.mono ?_; clear C29; rintro e W7 ⟨⟨am, capm, rfl, hm⟩, hB7⟩
                         obtain ⟨hC30, s0, s1, hB17⟩ := HAll.out W7 am capm hB7 hm
                         have C30 := hid hC30
                         have HM := hid hm
                         have HB17 := hid hB17
                         clear hC30 hm hB7 hB17)
                      | (go_at_call 30; refine C30.out.mono ?_; clear C30; rintro e W8 ⟨rfl, hB8⟩
                         have HB18 := hid (HB17.out.trans (hB8.mono HB17.out.size))
                         obtain ⟨c31, c32, c33, t0, t1⟩ := HVal.out W8 am capm HB18.out (HM.out.below hB8)
                         have C31 := hid c31
                         have C32 := hid c32
                         have C33 := hid c33
                         clear c31 c32 c33 hB8)
                      | (go_at_call 31; refine C31.out.mono ?_; clear C31; rintro e W9 ⟨rfl, hW⟩; rw [hW]; clear hW)
                      | (go_at_call 32; refine C32.out.mono ?_; clear C32; rintro e W9 ⟨rfl, hW⟩; rw [hW]; clear hW)
                      | (go_at_call 33; refine C33.out.mono ?_; clear C33; rintro e W9 ⟨rfl, hB9⟩; have HB19 := hid (HB18.out.trans (hB9.mono HB18.out.size)); clear hB9))
                    go_roundw
                    case rel => exact ⟨j + 1, by omega, by go_num, by first | exact HB19 | exact HB18⟩
                    case measure => simp [intOf]; omega
                · have hlt' : ¬ (j : Int) < P := by omega
                  go_wp2_with (go_at_call 10; refine (C10.out _).mono ?_; rintro e W7 ⟨rfl, h7⟩; have OUT := hid (HDone.out _ HBr.out W7 h7); clear h7)
                  go_ret
                  exact OUT.out
            · have hq' : (q != 0) = true := by simpa using hq
              clear HImp HLit hq
              go_wp2_with (first
                | (go_at_call 16; refine C16.out.mono ?_; clear C16; rintro e W6 ⟨rfl, t6, r6, k6, _, _, hF6, _, _⟩
                   have hB6 : Below W4.heap.size W5 W6 := hF6.below HFacts.out.1 HFacts.out.2.1 (fun g h => (HFacts.out.2.2.1 g h).1) (fun g h => (HFacts.out.2.2.2.1 g h).1) HFacts.out.2.2.2.2
                   have HB6 := hid (HB4.out.trans ((HB45.out.trans hB6).mono HB4.out.size))
                   clear hF6 hB6)
                | (go_at_call 10; refine (C10.out _).mono ?_; rintro e W7 ⟨rfl, h7⟩; have OUT := hid (HDone.out _ HB6.out W7 h7); clear h7))
              go_ret
              exact OUT.out
          · have C13 := hid (new13_err vars a n c cs W4 HN.out (HC.out.below HB4.out) hr)
            have hr1 : (Cnf.right vars cs == 0) = false := by simpa using hr
            have hr2 : (Cnf.right vars cs != 0) = true := by simpa using hr
            generalize Cnf.right vars cs = q at C13 hr1 hr2
            clear hr
            go_wp2_with (first
              | (go_at_call 26; refine C26.out.mono ?_; clear C26; rintro e W5 ⟨rfl, hW⟩; rw [hW]; clear hW)
              | (go_at_call 13; refine C13.out.mono ?_; clear C13; rintro e W5 ⟨rfl, hB5⟩; have HB5 := hid (HB4.out.trans (hB5.mono HB4.out.size)); clear hB5)
              | (go_at_call 10; refine (C10.out _).mono ?_; rintro e W6 ⟨rfl, h6⟩; have OUT := hid (HDone.out _ HB5.out W6 h6); clear h6))
            go_ret
            exact OUT.out
end Go.Proofs.Ytjjanmgeogjngaa

/- For every formula, clause and row of hints the law CheckImplies returns true, and the arguments stay as they were. No condition. -/
namespace Go.Proofs.Ytjjanmgeogjngaa.checkImplies
open Go.ChangeShapes Go.WideShapes Go.ChangeAt Go.ChangeMaps Go.RowKit Go.Joins
set_option linter.unusedVariables false

set_option maxRecDepth 100000 in
theorem lifted (os : Os) (started : os.Started) (H : Type) (enc : TypeId × Value → H) :
    ReturnsInHanded {} Try.checked os 6 .any (Rows.checkImpliesSpec.pre6 enc Try.prog Try.f6 Rows.checkImpliesRow.domain false) (Rows.checkImpliesSpec.post enc Try.prog Try.f6 false true false false) := by
  refine returnsInHanded_of_change_sized (C := Try.checked) own started (by kernel_rfl) Try.func6
    (ChangeSpec.witness6 (enc := enc) (C := Try.checked) false ⟨#[], #[.agg #[.int .i64 0, .slice none 0 0], .slice none 0 0, .slice none 0 0], []⟩ 8 (by kernel_rfl) (by kernel_rfl) (by kernel_rfl) (by kernel_rfl)) ?_
  intro W base args ds gs before hval0 hW hcnd0 hsz0 hholds
  have hval : ∀ (j : Nat) t v, Try.f6.params[j]? = some t → args[j]? = some v → Value.okWide Try.prog W .any base t v := hval0
  have hsz : (DataW.weightsEach Try.prog (Try.f6.params.toList ++ Rows.checkImpliesSpec.plain.varTypes Try.prog) (ds ++ gs)).all (· ≤ reachBytes) = true := hsz0
  have hW' := hW
  obtain ⟨p, q, hA0, hV, rfl, hfz, hnd⟩ := hW
  have hA : DataW.TrodAll enc Try.prog W 0 (fun _ => true) true Try.f6.params.toList args.toList ds p := hA0
  rw [Try.params6] at hA hval hsz
  obtain ⟨v0, vs0, d0, ds0, p0, q0, hargs, rfl, rfl, h0, r0⟩ := trodAll_cons hA
  obtain ⟨v1, vs1, d1, ds1, p1, q1, rfl, rfl, rfl, h1, r1⟩ := trodAll_cons r0
  obtain ⟨v2, vs2, d2, ds2, p2, q2, rfl, rfl, rfl, h2, r2⟩ := trodAll_cons r1
  obtain ⟨rfl, rfl, rfl⟩ := trodAll_nil r2
  obtain rfl : args = #[v0, v1, v2] := by cases args; simp_all
  obtain ⟨rfl, rfl⟩ := trodVars_none hV
  have k0 := h0
  have lt0 : ∀ x ∈ p0, x.block < W.heap.size := by obtain ⟨m, hm⟩ := k0; exact DataW.trod_lt m _ _ _ hm
  obtain ⟨c00, c01, y00, y01, m0, rfl, rfl, rfl, hy00, hy01⟩ := open_agg2 Try.underlying24 (by kernel_rfl) cellsF (hval 0 24 v0 rfl rfl) h0
  obtain ⟨vars0, e00, e01, wv0⟩ := DataW.trod_int Try.underlying3 hy00
  simp only [List.cons.injEq, and_true] at e00
  subst e00
  have hws0 : ∀ x ∈ y01.1.weights Try.prog 22, x ≤ reachBytes := by
    intro x hx
    have hm2 : x ∈ (DataW.agg [y00.1, y01.1] : DataW H).weights Try.prog 24 := by
      simp only [DataW.weights, Try.underlying24]
      exact DataW.weights_mem_each (j := 1) rfl rfl x hx
    have := List.all_eq_true.1 hsz _ (DataW.weights_mem_each (j := 0) (t := 24) (d := .agg [y00.1, y01.1]) rfl rfl x hm2)
    simpa using this
  obtain ⟨a0, len0, cap0, z0, rfl, hl0, w0, hn0⟩ := cls_open hy01 hws0
  have k1 := h1
  have lt1 : ∀ x ∈ p1, x.block < W.heap.size := by obtain ⟨m, hm⟩ := k1; exact DataW.trod_lt m _ _ _ hm
  obtain ⟨a1, len1, cap1, rfl⟩ := okWide_slice Try.underlying39 (hval 1 39 v1 rfl rfl)
  have hws1 : ∀ x ∈ d1.weights Try.prog 39, x ≤ reachBytes := by
    intro x hx
    have := List.all_eq_true.1 hsz _ (DataW.weights_mem_each (j := 1) (t := 39) (d := d1) rfl rfl x hx)
    simpa using this
  obtain ⟨z1, hl1, w1, hb1, hc1, hm1⟩ := row_open (lo := -2147483648) (hi := 2147483647) Try.underlying39 Try.underlying40 (by kernel_rfl) (of_decide_eq_true (by kernel_rfl)) (fun n hn => by have := bounds_i32 hn; omega) h1 hws1
  have k2 := h2
  have lt2 : ∀ x ∈ p2, x.block < W.heap.size := by obtain ⟨m, hm⟩ := k2; exact DataW.trod_lt m _ _ _ hm
  obtain ⟨a2, len2, cap2, rfl⟩ := okWide_slice Try.underlying42 (hval 2 42 v2 rfl rfl)
  have hws2 : ∀ x ∈ d2.weights Try.prog 42, x ≤ reachBytes := by
    intro x hx
    have := List.all_eq_true.1 hsz _ (DataW.weights_mem_each (j := 2) (t := 42) (d := d2) rfl rfl x hx)
    simpa using this
  obtain ⟨z2, hl2, w2, hb2, hc2, hm2⟩ := row_open (lo := -9223372036854775808) (hi := 9223372036854775807) Try.underlying42 Try.underlying2 (by kernel_rfl) (of_decide_eq_true (by kernel_rfl)) (fun n hn => by have := bounds_i64 hn; omega) h2 hws2
  clear hA0 hval0
  refine ((law6 vars0 a0 len0 cap0 z0 a1 len1 cap1 z1 a2 len2 cap2 z2 W hl0 hn0 w0 hl1 hb1 w1 hl2 hb2 ⟨hc2, hm2⟩ w2 : Calls Try.prog 6 _ W fun e w' => e = .returned (.bool true) ∧ Below W.heap.size W w')).mono fun e W' ⟨he, bel⟩ => ?_
  subst he
  exact ⟨_, rfl, _, _, _, [], _, [], hW', trodAll_mk1 (shut_bool Try.underlying4 _), (trodAll_cons_mk (Below.trod laidOut (by kernel_rfl) (of_decide_eq_true (by kernel_rfl)) k0 bel lt0) (trodAll_cons_mk (Below.trod laidOut (by kernel_rfl) (of_decide_eq_true (by kernel_rfl)) k1 bel lt1) (trodAll_cons_mk (Below.trod laidOut (by kernel_rfl) (of_decide_eq_true (by kernel_rfl)) k2 bel lt2) trodAll_mk0))), rfl, bel.frame _, fun h => by cases h⟩

theorem over : Rows.checkImpliesRow.holds Try.pinned (OpenSpec.ofChange Rows.checkImpliesSpec) :=
  OpenClaim.holds_of_wide 6 Try.f6 rfl rfl rfl rfl rfl rfl rfl ⟨rfl, rfl, rfl, rfl, rfl⟩ rfl rfl rfl rfl rfl (by kernel_rfl) Try.func6 (by kernel_rfl)
    (of_decide_eq_true (by kernel_rfl)) (by unfold Func.isWrapper; first | (rw [if_pos (by decide +kernel)]; kernel_rfl) | (rw [if_neg (by decide +kernel)]; exact ⟨rfl, rfl⟩))
    (fun os started H enc _ => lifted os started H enc)

end Go.Proofs.Ytjjanmgeogjngaa.checkImplies
namespace Go.Proofs.Ytjjanmgeogjngaa
open Go

/-- The given statement. -/
theorem checkImplies_holds : Rows.CheckImpliesSaid := checkImplies.over
end Go.Proofs.Ytjjanmgeogjngaa

