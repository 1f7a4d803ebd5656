/- Weaken. -/
import Derived.Test.YthpebfojkpnojaaGreatJbn
import Derived.Test.YthpebfojkpnojaaGreatJbf
import Derived.Test.YthpebfojkpnojaaGreatJap
import Derived.Test.YthpebfojkpnojaaGreatJbo
import Derived.Test.YthpebfojkpnojaaGreatJbk
import Derived.Test.YthpebfojkpnojaaGreatJah
/- Weaken. -/
namespace Bas
theorem weakenE_eq {s : S} {id : Int} {ws : List Int} {e : E} (he : look s.live id = some e) : weakenE s id ws = if e.red then 7 else if has s.vars ws then (if Go.Proofs.YthpebfojkpnojaaGreat.turnsB ws e.lits then (if full s then 3 else 0) else 2) else 4 := by
  unfold weakenE Go.Proofs.YthpebfojkpnojaaGreat.turnsB
  rw [he]
  cases ws with
  | nil => simp
  | cons l ls => rfl
end Bas
namespace Go.Proofs.YthpebfojkpnojaaGreat
open Go.RowKit Go.Maps
set_option linter.unusedVariables false
set_option linter.unusedSimpArgs false
set_option maxRecDepth 100000
set_option maxHeartbeats 16000000 in
theorem weaken11 {M : Nat → Prop} {bb K : Nat} {s : Bas.S} {W : World} (h : Bs M bb K s W) (hg : Bas.Good s) (hL : s.last ≤ 100000000) (hlit : ∀ e ∈ s.live, e.lits.length ≤ 100000000) (hru : s.rules.length ≤ 1000000000) (hst : s.stack.length ≤ 1000000000) (id : Int) (hi : I64 id)
    (a : Option Addr) (n c : Nat) (ws : List Int) (hn : ws.length = n) (hN : n ≤ 16777216) (hl : LI M W a ws) :
    Calls Tryz.prog 47 #[.pointer (some ⟨bb, 0, none⟩), .int .i64 id, .slice a n c] W fun en w' => ErrOut M bb K (Bas.weakenE s id ws) (Bas.weakenS s id ws) W en w' := by
  have BAD := hid (fun (r : Int) (hr : Bas.weakenE s id ws = r) (h0 : r ≠ 0) X (hX : Below W.heap.size W X) => show ErrOut M bb K (Bas.weakenE s id ws) (Bas.weakenS s id ws) W (.returned (.int .i64 r)) X from by
    have e2 : Bas.weakenS s id ws = s := by unfold Bas.weakenS; rw [hr, if_neg h0]
    rw [hr, e2]
    exact ⟨rfl, M, h.below hX, Fm.of_below hX, Mn.refl _ _⟩)
  obtain ⟨M0, hM0⟩ : ∃ M0 : Nat → Prop, M0 = fun g => M g ∧ g < W.heap.size := ⟨_, rfl⟩
  have hc := h.cap
  rw [← hM0] at hc
  have hM0l : ∀ g, M0 g → M g ∧ g < W.heap.size := fun g hg => by rw [hM0] at hg; exact hg
  have hc' := hc
  obtain ⟨hv, bm, br, k, k2, f, g, rv, sv, tv, R, Z, rw', ids, iv, hb, m1, m2, m3, hne2, ⟨a1, a2, a3⟩, _⟩ := hc'
  have x3 : W.cell? ⟨bb, 3, none⟩ = some (.map (some bm)) := row_cell hb 3
  have hlk := a1.look hi
  have hE := a3 id hi
  cases he : Bas.look s.live id with
  | none =>
    rw [he] at hE
    simp only [EntAt] at hE
    rw [hE] at hlk
    simp only [Option.getD_none, Option.isSome_none] at hlk
    have OUT := hid (BAD.out 5 (by simp [Bas.weakenE, he]) (by decide))
    clear h hg hc a1 a3 hb hE he BAD hM0 hM0l hlit hru hl
    go_enter Tryz.func47, Tryz.ntmps47
    go_wp2_with fail
    go_ret
    exact OUT.out _ (below_box W _)
  | some e =>
    rw [he] at hE
    obtain ⟨a9, c9, hf, hli, hcc⟩ := hE
    have hme := Bas.look_mem he
    have hle := hlit e hme.1
    rw [hf] at hlk
    simp only [Option.getD_some, Option.isSome_some, entV, hme.2] at hlk
    have hWE := Bas.weakenE_eq (ws := ws) he
    have HXX := hid (fun X (hX : Below (W.alloc (.cells #[.int .i64 id, .slice a9 e.lits.length c9, .bool e.red] 83)).heap.size (W.alloc (.cells #[.int .i64 id, .slice a9 e.lits.length c9, .bool e.red] 83)) X) => show X.heap[W.heap.size]? = some (.cells #[.int .i64 id, .slice a9 e.lits.length c9, .bool e.red] 83 (0, 0)) ∧ Below W.heap.size W X from
      ⟨(hX.block W.heap.size (by simp)).trans (heap_alloc_new W _), (below_box W _).trans (hX.mono (by simp))⟩)
    cases her : e.red with
    | true =>
      rw [her] at hWE hlk HXX
      have OUT := hid (BAD.out 7 (by rw [hWE]; rfl) (by decide))
      clear h hg hc a1 a3 hb he BAD hM0 hM0l hlit hru hl hf hme hli hWE HXX
      generalize e.lits.length = el at *
      go_enter Tryz.func47, Tryz.ntmps47
      go_wp2_with fail
      go_ret
      exact OUT.out _ (below_box W _)
    | false =>
      rw [her] at hWE hlk HXX
      have C29 := hid (fun X (hX : Below W.heap.size W X) => has29 (hc.below hX) a n c ws hn (by omega) (hl.1.below hX))
      cases hhs : Bas.has s.vars ws with
      | false =>
        rw [hhs] at hWE C29
        have OUT := hid (BAD.out 4 (by rw [hWE]; rfl) (by decide))
        clear h hg hc a1 a3 hb he BAD hM0 hM0l hlit hru hl hf hme hli hWE HXX
        generalize e.lits.length = el at *
        go_enter Tryz.func47, Tryz.ntmps47
        go_wp2_with (go_at_call 67; go_loud (refine (C29.out _ (below_box W _)).mono ?_; clear C29; rintro e w4 ⟨rfl, hw4⟩; rw [hw4]; clear hw4))
        go_ret
        exact OUT.out _ (below_box W _)
      | true =>
        rw [hhs] at hWE C29
        have hz0 : ∀ x ∈ ws, x ≠ 0 := fun x hx => (Bas.has_spec hhs x hx).1
        have C38 := hid (fun X (hX : Below W.heap.size W X) => turns38 a n c ws a9 e.lits.length c9 e.lits X hz0 hn rfl (by omega) (by omega) (hl.1.below hX) (hli.1.below hX))
        have y1 : (W.alloc (.cells #[.int .i64 id, .slice a9 e.lits.length c9, .bool false] 83)).cell? ⟨W.heap.size, 1, none⟩ = some (.slice a9 e.lits.length c9) := row_cell (HXX.out _ (Below.refl _ _)).1 1
        cases htn : turnsB ws e.lits with
        | false =>
          rw [htn] at hWE C38
          have OUT := hid (BAD.out 2 (by rw [hWE]; rfl) (by decide))
          clear h hg hc a1 a3 hb he BAD hM0 hM0l hlit hru hl hf hme hli hWE hz0
          generalize e.lits.length = el at *
          go_enter Tryz.func47, Tryz.ntmps47
          go_wp2_with (first | (go_at_call 67; go_loud (refine (C29.out _ (below_box W _)).mono ?_; clear C29; rintro e4 w4 ⟨rfl, hw4⟩; rw [hw4]; clear hw4)) | (go_at_call 92; go_loud (refine (C38.out _ (below_box W _)).mono ?_; clear C38; rintro e3 w3 ⟨rfl, hb3⟩; have HB3 := hid (HXX.out _ hb3); clear hb3)))
          go_ret
          exact OUT.out _ HB3.out.2
        | true =>
          rw [htn] at hWE C38
          have C28 := hid (fun X (hX : Below W.heap.size W X) => full28 (hc.below hX))
          cases hfl : Bas.full s with
          | true =>
            rw [hfl] at hWE C28
            have OUT := hid (BAD.out 3 (by rw [hWE]; rfl) (by decide))
            clear h hg hc a1 a3 hb he BAD hM0 hM0l hlit hru hl hf hme hli hWE hz0
            generalize e.lits.length = el at *
            go_enter Tryz.func47, Tryz.ntmps47
            go_wp2_with (first | (go_at_call 67; go_loud (refine (C29.out _ (below_box W _)).mono ?_; clear C29; rintro e4 w4 ⟨rfl, hw4⟩; rw [hw4]; clear hw4)) | (go_at_call 92; go_loud (refine (C38.out _ (below_box W _)).mono ?_; clear C38; rintro e3 w3 ⟨rfl, hb3⟩; have HB3 := hid (HXX.out _ hb3); clear hb3)) | (go_at_call 66; go_loud (refine (C28.out _ HB3.out.2).mono ?_; clear C28; rintro e4 w4 ⟨rfl, hw4⟩; rw [hw4]; clear hw4)))
            go_ret
            exact OUT.out _ HB3.out.2
          | false =>
            rw [hfl] at hWE C28
            have hE0 : Bas.weakenE s id ws = 0 := by rw [hWE]; rfl
            have hS : Bas.weakenS s id ws = { s with live := Bas.delL s.live id, rules := s.rules ++ [⟨5, id, 0, false, ws, []⟩], stack := s.stack ++ [(ws, e.lits)] } := by
              unfold Bas.weakenS
              rw [if_pos hE0]
              simp [Bas.litsOf, he]
            rw [hE0, hS]
            have C31 := hid (fun X (hX : Below W.heap.size W X) => clone31 a n c ws X hn hN (hl.1.below hX))
            have HWR := hid hl.1.1
            have HWN := hid hn
            have HLI := hid hli
            have HC := hid hc
            have HM0 := hid hM0l
            have HNX := hid (And.intro hL (And.intro hru (And.intro hst hle)))
            clear h hg hc a1 a3 hb he BAD hM0 hM0l hlit hru hl hf hme hli hWE hz0 hE0 hS
            go_enter Tryz.func47, Tryz.ntmps47
            go_wp2_with (first
              | (go_at_call 67; go_loud (refine (C29.out _ (below_box W _)).mono ?_; clear C29; rintro e4 w4 ⟨rfl, hw4⟩; rw [hw4]; clear hw4))
              | (go_at_call 92; go_loud (refine (C38.out _ (below_box W _)).mono ?_; clear C38; rintro e3 w3 ⟨rfl, hb3⟩; have HB3 := hid (HXX.out _ hb3); clear hb3))
              | (go_at_call 66; go_loud (refine (C28.out _ HB3.out.2).mono ?_; clear C28; rintro e4 w4 ⟨rfl, hw4⟩; rw [hw4]; clear hw4))
              | (go_at_call 35; go_loud (refine (C31.out _ HB3.out.2).mono ?_; clear C31; rintro e5 w5 ⟨o, kc, rfl, ho, hb5⟩
                                         have hO := own_RI (M1 := M0) ho HWN.out HWR.out (fun g hg => Nat.lt_of_lt_of_le (HM0.out g hg).2 HB3.out.2.size)
                                         have HO := hid hO
                                         have HB5 := hid (HB3.out.2.trans (hb5.mono HB3.out.2.size))
                                         have HX5 := hid ((hb5.block W.heap.size (lt_of_blk HB3.out.1)).trans HB3.out.1)
                                         clear ho hb5 hO)))
            obtain ⟨hL, hru, hst, hle⟩ := HNX.out
            have hB5 : Bs M0 bb K s w5 := HC.out.below HB5.out
            have hL5 : LI M0 w5 a9 e.lits := HLI.out.below HB5.out
            obtain ⟨g, cc, B, vo, vc, q7, hr, y7, y7f, hbb, hq9, hBV, hFV, hNV⟩ := hB5.stacked ws e.lits o kc a9 c9 HO.out.1 hL5 hst w5.drew (Below.refl _ _).drew
            rw [HWN.out] at hr
            have x7 : w5.drew.cell? ⟨bb, 7, none⟩ = some (.slice vo s.stack.length vc) := q7
            have hx5 := HX5.out
            have x1 : w5.drew.cell? ⟨W.heap.size, 1, none⟩ = some (.slice a9 e.lits.length c9) := row_cell (show w5.drew.heap[W.heap.size]? = _ from hx5) 1
            have hba : Below w5.heap.size w5.drew (w5.drew.alloc (.cells #[.slice o n kc, .slice a9 e.lits.length c9] 95)) := below_box w5.drew _
            have x7a := (hba.cell (p := ⟨bb, 7, none⟩) (cell_lt x7)).trans x7
            have x1a := (hba.cell (p := ⟨W.heap.size, 1, none⟩) (cell_lt x1)).trans x1
            have x7b : (w5.alloc (.cells #[.slice o n kc, .slice a9 e.lits.length c9] 95)).drew.cell? ⟨bb, 7, none⟩ = some (.slice vo s.stack.length vc) := x7a
            have x1b : (w5.alloc (.cells #[.slice o n kc, .slice a9 e.lits.length c9] 95)).drew.cell? ⟨W.heap.size, 1, none⟩ = some (.slice a9 e.lits.length c9) := x1a
            have HR := hid hr
            have HR2 := hid (show (Builtin.append_ #[74, 74] 74 #[.slice vo s.stack.length vc, .slice (some ⟨w5.heap.size, 0, none⟩) 1 1]).run Tryz.prog (w5.alloc (.cells #[.slice o n kc, .slice a9 e.lits.length c9] 95)).drew = .ok (.slice (some ⟨g, 0, none⟩) (s.stack.length + 1) cc) B from hr)
            have HBV := hid hBV
            have HFV := hid hFV
            have HNV := hid hNV
            have HV1 := hid (hFV.block W.heap.size (lt_of_blk hx5) (fun hm => Nat.lt_irrefl _ (HM0.out _ hm).2))
            obtain ⟨V, hV⟩ : ∃ V, B.setCell ⟨bb, 7, none⟩ (.slice (some ⟨g, 0, none⟩) (s.stack.length + 1) cc) = V := ⟨_, rfl⟩
            rw [hV] at HBV HFV HV1
            have hxV := HV1.out.trans hx5
            have v0 : V.cell? ⟨W.heap.size, 0, none⟩ = some (.int .i64 id) := row_cell hxV 0
            have v1 : V.cell? ⟨W.heap.size, 1, none⟩ = some (.slice a9 e.lits.length c9) := row_cell hxV 1
            have v2 : V.cell? ⟨W.heap.size, 2, none⟩ = some (.bool false) := row_cell hxV 2
            have C36 := hid (leave36 HBV.out hL id hi false a9 e.lits.length c9 e.lits rfl hle (hL5.fm HFV.out HNV.out))
            have C33 := hid (fun (X : World) (M1 : Nat → Prop) (h1 : Bs M1 bb K { s with live := Bas.delL s.live id, stack := s.stack ++ [(ws, e.lits)] } X) (hlo : LI M1 X o ws) => note33 h1 ⟨5, id, 0, false, ws, []⟩ o kc none 0 ⟨by show (0 : Int) ≤ 5; decide, by show (5 : Int) < 256; decide⟩ hlo ⟨Row.nil _ _ _ _ _, fun _ _ e => by cases e⟩ hru)
            simp only [ruleV, HWN.out] at C33
            have HLO := hid (HO.out.1.fm HFV.out HNV.out)
            have FIN := hid (fun (X X' : World) (M1 : Nat → Prop) (hF : Fm (fun q => M0 q ∨ q = g) V X) (hM1 : Mn V (fun q => M0 q ∨ q = g) M1) (ho : NoteOut M1 bb K { s with live := Bas.delL s.live id, rules := s.rules ++ [⟨5, id, 0, false, ws, []⟩], stack := s.stack ++ [(ws, e.lits)] } X (.returned (.tuple #[])) X') => show ErrOut M bb K 0 { s with live := Bas.delL s.live id, rules := s.rules ++ [⟨5, id, 0, false, ws, []⟩], stack := s.stack ++ [(ws, e.lits)] } W (.returned (.int .i64 0)) X' from by
              obtain ⟨_, M', o1, o2, o3⟩ := ho
              have f1 : Fm M0 W V := (Fm.of_below HB5.out).trans HFV.out (Mn.refl _ _)
              have n1 : Mn W M0 (fun q => M0 q ∨ q = g) := (Mn.refl W M0).trans HNV.out HB5.out.size
              have f2 := f1.trans hF n1
              have n2 := n1.trans hM1 f1.size
              have f3 := f2.trans o2 n2
              have n3 := n2.trans o3 f2.size
              exact ⟨rfl, M', o1, ⟨f3.os, f3.tape, f3.output, f3.size, fun q hq hnm => f3.block q hq (fun hm => hnm (HM0.out q hm).1)⟩, fun q hq => by
                rcases n3 q hq with h9 | h9
                · exact .inl (HM0.out q h9).1
                · exact .inr h9⟩)
            have HVV := hid hV
            clear hr hba hB5 hL5 q7 hq9 hBV hFV hNV hxV hx5 HV1 HB5 HX5 HLI HC HWR HWN HNX hL hru hst hle HO HM0 HXX y1 hlk x3
            generalize e.lits.length = el at *
            generalize s.stack.length = sl at *
            go_region_law (first | refine step_append_run rfl (.tmp 47) (.tmp 52) 74 74 (by rfl) (by rfl) (by rfl) HR.out ?_ | refine step_append_run rfl (.tmp 47) (.tmp 52) 74 74 (by rfl) (by rfl) (by rfl) HR2.out ?_)
            all_goals
              go_wp2_with (first
                | (go_at_call 78; go_loud (refine C36.out.mono ?_; clear C36; rintro e7 w7 ⟨rfl, M7, hB7, hF7, hN7⟩; have HB7 := hid hB7; have HF7 := hid (And.intro hF7 hN7); have HL7 := hid (HLO.out.fm hF7 hN7); clear hB7 hF7 hN7))
                | (go_at_call 69; go_loud (refine (C33.out _ _ HB7.out HL7.out).mono ?_; clear C33; rintro e8 w8 ho8; have hen := ho8.1; subst hen; have HO8 := hid (FIN.out _ _ _ HF7.out.1 HF7.out.2 ho8); clear ho8)))
              go_ret
              exact HO8.out
end Go.Proofs.YthpebfojkpnojaaGreat

/- The base's other calls, of a base of blocks of its own. -/
namespace Go.Proofs.YthpebfojkpnojaaGreat
open Go.RowKit Go.Maps
set_option linter.unusedVariables false
set_option linter.unusedSimpArgs false
set_option maxRecDepth 100000
theorem Bst.keepA {w : World} {bb B : Nat} {s : Bas.S} {X : World} (h : Bst w bb B s X) (hB : B ≤ 1000000000) (hn : s.rules.length ≤ 1000000000) (id : Int) (hi : I64 id) :
    Calls Tryz.prog 22 #[.pointer (some ⟨bb, 0, none⟩), .int .i64 id] X fun en w' => en = .returned (.int .i64 (Bas.keepE s id)) ∧ Bst w bb (B + 1) (Bas.keepS s id) w' := by
  obtain ⟨M, K, h1, h2, h3, h4⟩ := h
  refine (keep8 h1 (by unfold maxLen; omega) hn id hi).mono ?_
  rintro en w' ⟨e, M', q1, q2, q3⟩
  exact ⟨e, Bst.step (B := B) h3 h4 (Below.refl _ _) q1 (by omega) q2 q3⟩
theorem Bst.dropA {w : World} {bb B : Nat} {s : Bas.S} {X : World} (h : Bst w bb B s X) (hg : Bas.Good s) (hB : B ≤ 1000000000) (hL : s.last ≤ 100000000) (hlit : ∀ e ∈ s.live, e.lits.length ≤ 100000000) (hn : s.rules.length ≤ 1000000000) (id by_ : Int) (hi : I64 id) (hj : I64 by_) :
    Calls Tryz.prog 24 #[.pointer (some ⟨bb, 0, none⟩), .int .i64 id, .int .i64 by_] X fun en w' => en = .returned (.int .i64 (Bas.dropE s id by_)) ∧ Bst w bb (B + 1) (Bas.dropS s id by_) w' := by
  obtain ⟨M, K, h1, h2, h3, h4⟩ := h
  refine (drop10 h1 hg (by unfold maxLen; omega) hL hlit hn id by_ hi hj).mono ?_
  rintro en w' ⟨e, M', q1, q2, q3⟩
  exact ⟨e, Bst.step (B := B) h3 h4 (Below.refl _ _) q1 (by omega) q2 q3⟩
theorem Bst.weaken {w : World} {bb B : Nat} {s : Bas.S} {V X : World} (h : Bst w bb B s V) (hX : Below V.heap.size V X) (hg : Bas.Good s) (hL : s.last ≤ 100000000) (hlit : ∀ e ∈ s.live, e.lits.length ≤ 100000000) (hru : s.rules.length ≤ 1000000000) (hst : s.stack.length ≤ 1000000000) (id : Int) (hi : I64 id)
    (a : Option Addr) (n c : Nat) (ws : List Int) (hn : ws.length = n) (hN : n ≤ 16777216) (hl : Lits X a ws) (hla : ∀ b off, a = some ⟨b, off, none⟩ → V.heap.size ≤ b) :
    Calls Tryz.prog 47 #[.pointer (some ⟨bb, 0, none⟩), .int .i64 id, .slice a n c] X fun en w' => en = .returned (.int .i64 (Bas.weakenE s id ws)) ∧ Bst w bb B (Bas.weakenS s id ws) w' := by
  obtain ⟨M, K, h1, h2, h3, h4⟩ := h
  refine (weaken11 (h1.below hX) hg hL hlit hru hst id hi a n c ws hn hN ⟨hl, fun b off e _ hm => ?_⟩).mono ?_
  · have := hla b off e; have := (h3 b hm).2; omega
  · rintro en w' ⟨e, M', q1, q2, q3⟩
    exact ⟨e, Bst.step (B := B) h3 h4 hX q1 h2 q2 q3⟩
theorem Bst.get {w : World} {bb B : Nat} {s : Bas.S} {X : World} (h : Bst w bb B s X) (id : Int) (hi : I64 id) (hn : ∀ e, Bas.look s.live id = some e → e.lits.length ≤ 16777216) :
    Calls Tryz.prog 52 #[.pointer (some ⟨bb, 0, none⟩), .int .i64 id] X fun en w' => GetOut X ((Bas.look s.live id).getD ⟨0, [], false⟩) (Bas.look s.live id).isSome en w' ∧ Bst w bb B s w' := by
  have h' := h
  obtain ⟨M, K, h1, h2, h3, h4⟩ := h
  refine (get6 h1 id hi hn).mono ?_
  rintro en w' ⟨o, k, e, q1, q2⟩
  exact ⟨⟨o, k, e, q1, q2⟩, h'.below q2⟩
theorem Bst.lastC {w : World} {bb B : Nat} {s : Bas.S} {X : World} (h : Bst w bb B s X) : Calls Tryz.prog 61 #[.pointer (some ⟨bb, 0, none⟩)] X fun e w' => e = .returned (.int .i64 s.last) ∧ w' = X := by
  obtain ⟨M, K, h1, h2, h3, h4⟩ := h
  exact last13 h1
end Go.Proofs.YthpebfojkpnojaaGreat

