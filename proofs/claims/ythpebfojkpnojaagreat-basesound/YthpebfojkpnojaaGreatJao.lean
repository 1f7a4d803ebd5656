/- enter: a clause is live under the next id. -/
import Derived.Test.YthpebfojkpnojaaGreatJan
/- enter: a clause is live under the next id. -/
namespace Go.Proofs.YthpebfojkpnojaaGreat
open Go.RowKit Go.Maps
set_option linter.unusedVariables false
set_option linter.unusedSimpArgs false
set_option maxRecDepth 100000
theorem Bx.more {M : Nat → Prop} {bb K K' : Nat} {s : Bas.S} {L : List Bas.E} {W : World} (h : Bx M bb K s L W) (hk : K ≤ K') : Bx M bb K' s L W := by
  obtain ⟨hv, bm, br, k, k2, f, g, rv, sv, tv, R, Z, rw', ids, iv, hb, m1, m2, m3, hne, ⟨a1, a2, a3⟩, ⟨b1, b2, b3⟩, c⟩ := h
  exact ⟨hv, bm, br, k, k2, f, g, rv, sv, tv, R, Z, rw', ids, iv, hb, m1, m2, m3, hne, ⟨a1, Nat.le_trans a2 hk, a3⟩, ⟨b1, Nat.le_trans b2 hk, b3⟩, c⟩
theorem Bx.below {M : Nat → Prop} {bb K : Nat} {s : Bas.S} {L : List Bas.E} {W W' : World} (h : Bx M bb K s L W) (hl : Below W.heap.size W W') : Bx M bb K s L W' := by
  obtain ⟨hv, bm, br, k, k2, f, g, rv, sv, tv, R, Z, rw', ids, iv, hb, m1, m2, m3, hne, ⟨a1, a2, a3⟩, ⟨b1, b2, b3, b4⟩, ⟨c1, c2, c3⟩, ⟨d1, d2, d3⟩, e1⟩ := h
  have ho : ∀ {e : TypeId} {size : Nat} {v : Value} {n : Nat} {xs : List Value}, OwnM M W e size v n xs → OwnM M W' e size v n xs := fun h => ⟨own_below h.1 hl, h.2⟩
  refine ⟨hv, bm, br, k, k2, f, g, rv, sv, tv, R, Z, rw', ids, iv, (hl.block bb (lt_of_blk hb)).trans hb, m1, m2, m3, hne, ⟨a1.same (hl.block bm a1.lt), a2, fun id hi => (a3 id hi).keep hl.size (fun g hg _ => hl.block g hg)⟩, ⟨b1.same (hl.block br b1.lt), b2, fun l v hlv => ?_, b4⟩, ⟨ho c1, c2, fun q hq => ⟨(c3 q hq).1.below hl, (c3 q hq).2.below hl⟩⟩, ⟨ho d1, d2, fun q hq => ⟨(d3 q hq).1.below hl, (d3 q hq).2.below hl⟩⟩, ho e1⟩
  obtain ⟨q1, q2, ⟨go, la, q3, q4⟩, q5, q6, q7⟩ := b3 l v hlv
  exact ⟨q1, q2, ⟨go, la, (hl.block _ (lt_of_blk q3)).trans q3, q4⟩, ho q5, q6, q7⟩
theorem Bx.dr {M : Nat → Prop} {bb K : Nat} {s : Bas.S} {L : List Bas.E} {W : World} (h : Bx M bb K s L W) (q : Nat) : Bx M bb K s L (W.drewN q) := h.below (drN W q)
/-- Where a literal's row is found, or made. -/
theorem Bx.step {M : Nat → Prop} {bb K : Nat} {s : Bas.S} {L : List Bas.E} {id : Int} {t : List Int} {red : Bool} {W : World} (h : Bx M bb K s (L ++ [⟨id, t, red⟩]) W) (hK : K < maxLen) (hsl : s.last = id) (h0 : 0 < id) (hid1 : id ≤ 100000000) (hL : ∀ e ∈ L, e.id < id) (x : Int) (hx : I32 x) :
    ∃ br v ok, W.cell? ⟨bb, 4, none⟩ = some (.map (some br)) ∧ (Instr.lookup 72 (.map (some br)) (.int .i32 x) true).run Tryz.prog W = .ok (.tuple #[v, .bool ok]) W ∧
      ∃ Wc M1 rb o n c, (ok = true ∧ Wc = W ∧ v = .pointer (some ⟨rb, 0, none⟩) ∨ ok = false ∧ rb = W.heap.size ∧ (Instr.mapUpdate 72 (.map (some br)) (.int .i32 x) (.pointer (some ⟨W.heap.size, 0, none⟩))).run Tryz.prog (W.alloc (.cells #[.slice none 0 0, .int .i64 0, .int .i64 0] 88)) = .ok () Wc) ∧
        Fm M W Wc ∧ Mn W M M1 ∧ (Wc.cell? ⟨rb, 0, none⟩ = some (.slice o n c) ∧ Wc.frozen? ⟨rb, 0, none⟩ = false ∧ n ≤ 100000000 ∧ n ≤ c ∧ rb < Wc.heap.size) ∧ Wc.cell? ⟨bb, 2, none⟩ = some (.int .i64 id) ∧ InRow M1 bb (K + 1) s id (L ++ [⟨id, t ++ [x], red⟩]) Wc rb o n c := by
  obtain ⟨br, v, ok, x4, hlk⟩ := h.rows x hx
  refine ⟨br, v, ok, x4, hlk, ?_⟩
  cases ok with
  | true =>
    obtain ⟨rb, o, n, c, hv, hc, hI⟩ := (h.more (Nat.le_succ K)).inRow hsl h0 hid1 hL x hx br v x4 hlk
    exact ⟨W, M, rb, o, n, c, .inl ⟨rfl, rfl, hv⟩, Fm.refl _ _, Mn.refl _ _, hc, by rw [h.last, hsl], hI⟩
  | false =>
    obtain ⟨W2, hup, hlk2, x42, hF, M1, hMn, hB⟩ := h.fresh hK x hx br x4 ⟨v, hlk⟩
    obtain ⟨rb, o, n, c, hv, hc, hI⟩ := hB.inRow hsl h0 hid1 hL x hx br _ x42 hlk2
    obtain rfl : W.heap.size = rb := by simpa using hv
    exact ⟨W2, M1, _, o, n, c, .inr ⟨rfl, rfl, hup⟩, hF, hMn, hc, by rw [hB.last, hsl], hI⟩
set_option maxHeartbeats 8000000 in
theorem enter32 {M : Nat → Prop} {bb K : Nat} {s : Bas.S} {W : World} (h : Bs M bb K s W) (h0 : 0 ≤ s.last) (hL : s.last < 100000000) (hg : ∀ e ∈ s.live, e.id ≤ s.last) (red : Bool) (a : Option Addr) (n c : Nat) (lits : List Int) (hn : lits.length = n) (hN : n ≤ 100000000) (hK : K + 1 + n < maxLen) (hl : LI M W a lits) (hc : lits.length ≤ c ∧ c ≤ maxLen) :
    Calls Tryz.prog 34 #[.pointer (some ⟨bb, 0, none⟩), .slice a n c, .bool red] W fun en w' => NoteOut M bb (K + 1 + n) (Bas.entered s lits red) W en w' := by
  obtain ⟨bm, x2, x2f, x3, hfin⟩ := h.enterX (by omega) h0 hL hg lits red a c hl hc
  rw [hn] at hfin
  obtain ⟨W1, hW1⟩ : ∃ W1, W.setCell ⟨bb, 2, none⟩ (.int .i64 (s.last + 1)) = W1 := ⟨_, rfl⟩
  obtain ⟨y2, y3, W2, hup, hB2, hF2⟩ := hfin W1 hW1
  have HB2 := hid hB2
  have HF2 := hid hF2
  have hsl : (Bas.entered s lits red).last = s.last + 1 := rfl
  have hLv : (Bas.entered s lits red).live = s.live ++ [⟨s.last + 1, lits, red⟩] := rfl
  have HLI := hid hl
  have HN := hid hn
  have HK := hid hK
  have sh : Hid (n = 0) ∨ ∃ b off, a = some ⟨b, off, none⟩ := by
    rcases hl.1.2 with h | ⟨b, off, e, _⟩
    · left; rw [h] at hn; exact hn.symm
    · exact .inr ⟨b, off, e⟩
  have hlw : wrap64 (s.last + 1) = s.last + 1 := by unfold wrap64; omega
  have h1 : 0 < s.last + 1 := by omega
  have h2 : s.last + 1 ≤ 100000000 := by omega
  have HG := hid (show ∀ e ∈ s.live, e.id < s.last + 1 from fun e he => by have := hg e he; omega)
  have y2d : W1.drew.cell? ⟨bb, 2, none⟩ = some (.int .i64 (s.last + 1)) := y2
  have y3d : W1.drew.cell? ⟨bb, 3, none⟩ = some (.map (some bm)) := y3
  have hsum : (s.last : Int) + 1 = s.last + 1 := rfl
  clear h hg hfin hB2 hF2 hl hn hc hK
  generalize Bas.entered s lits red = s1 at *
  generalize s.live = L at *
  generalize hid2 : s.last + 1 = id at *
  generalize s.last = la at *
  rcases sh with Z | ⟨b, off, rfl⟩
  all_goals
    go_enter Tryz.func34, Tryz.ntmps34
    go_wp2_with fail
    go_region
  all_goals
    go_wp2_with fail
    clear hup y2 y3 y2d y3d x2f x3
    go_loopw [7, 8, 9, 10, 35] (fun lv rv fv nv iv wr => ∃ (k2 : Nat) (M' : Nat → Prop), k2 ≤ n ∧ iv = .int .i64 k2 ∧ Hid (Bx M' bb (K + 1 + k2) s1 (L ++ [⟨id, lits.take k2, red⟩]) wr) ∧ Hid (Fm M W wr ∧ Mn W M M')) (fun _ _ _ _ iv _ => n - (intOf iv).toNat)
    case atStart => exact ⟨0, M, Nat.zero_le _, rfl, HB2, hid ⟨HF2.out, Mn.refl _ _⟩⟩
    case round =>
      obtain ⟨k2, M', hk2, rfl, HB, HF⟩ := hrel
      by_cases hlt : k2 < n
      · first
        | (exfalso; have := Z.out; omega)
        | (have hlt' : (k2 : Int) < n := by omega
           have hkx : k2 < lits.length := by rw [HN.out]; exact hlt
           obtain ⟨b3, off3, e3, _, hc, hlo, hhi⟩ := Row.at (HLI.out.fm HF.out.1 HF.out.2).1 hkx
           cases e3
           have htk : lits.take (k2 + 1) = lits.take k2 ++ [lits.getD k2 0] := by rw [List.take_succ_eq_append_getElem hkx]; simp [List.getD, hkx]
           obtain ⟨br, v, ok, x4, hlk, Wc, M1, rb, o, m, cc, hcase, hF, hMn, ⟨r0, r0f, hm, hmc, hrl⟩, x2c, hI⟩ := HB.out.step (by have := HK.out; omega) hsl h1 h2 HG.out (lits.getD k2 0) ⟨hlo, hhi⟩
           rw [← htk] at hI
           clear htk
           generalize lits.getD k2 0 = l at *
           have HFc := hid (show Fm M W Wc ∧ Mn W M M1 from ⟨HF.out.1.trans hF HF.out.2, HF.out.2.trans hMn HF.out.1.size⟩)
           clear hF hMn
           have x4a : (wr.alloc (.cells #[.slice none 0 0, .int .i64 0, .int .i64 0] 88)).cell? ⟨bb, 4, none⟩ = some (.map (some br)) := ((below_box wr (.cells #[.slice none 0 0, .int .i64 0, .int .i64 0] 88)).cell (p := ⟨bb, 4, none⟩) (cell_lt x4)).trans x4
           rcases hI with ⟨hp, ⟨b2, off2, rfl, yc⟩, hBy⟩ | ⟨hno, hap⟩
           · have HBy := hid hBy
             have hm0 : ((m : Int) == 0) = false := by simp; omega
             have hp' : (0 : Int) < m := by omega
             have hie : (id != id) = false := by simp
             clear hBy
             rcases hcase with ⟨rfl, e1, rfl⟩ | ⟨rfl, e1, hup2⟩
             all_goals
               subst e1
               go_wp2_with fail
               go_quiet (fail)
               go_wp2
               go_roundw
               case rel => exact ⟨k2 + 1, M1, by omega, by go_num, hid (HBy.out.below (drN _ _)), hid ⟨HFc.out.1.trans (Fm.of_below (M := M1) (drN _ _)) HFc.out.2, HFc.out.2⟩⟩
               case measure => simp [intOf]; omega
           · have HAP := hid hap
             have HX := hid (show rb < Wc.heap.size ∧ bb < Wc.heap.size from ⟨hrl, cell_lt x2c⟩)
             clear hap
             rcases hno with rfl | ⟨hp, b2, off2, y, rfl, yc, hne⟩
             · rcases hcase with ⟨rfl, e1, rfl⟩ | ⟨rfl, e1, hup2⟩
               all_goals
                 subst e1
                 go_wp2_with fail
                 go_quiet (fail)
                 obtain ⟨g', c', B, hr, z0, z0f, hfin4⟩ := HAP.out (Wc.drewN nq).drew ((drN _ _).drew)
                 obtain ⟨M4, hB4, hF4, hN4⟩ := hfin4 _ rfl
                 have HB4 := hid hB4
                 have HF4 := hid (show Fm M W _ ∧ Mn W M M4 from ⟨HFc.out.1.trans hF4 HFc.out.2, HFc.out.2.trans hN4 HFc.out.1.size⟩)
                 have r0w : (Wc.drewN nq).cell? _ = _ := r0
                 have x2w : (Wc.drewN nq).cell? _ = _ := x2c
                 have hal := below_box (Wc.drewN nq) (.cells #[.int .i64 id] 2)
                 have r0z : ((Wc.drewN nq).alloc (.cells #[.int .i64 id] 2)).cell? _ = _ := (hal.cell HX.out.1).trans r0
                 have HR := hid (show (Builtin.append_ #[39, 39] 39 #[_, .slice (some ⟨(Wc.drewN nq).heap.size, 0, none⟩) 1 1]).run Tryz.prog ((Wc.drewN nq).alloc (.cells #[.int .i64 id] 2)).drew = .ok _ B from hr)
                 have HRb := hid (show (Builtin.append_ #[39, 39] 39 #[_, .slice (some ⟨(Wc.drewN nq).drew.heap.size, 0, none⟩) 1 1]).run Tryz.prog ((Wc.drewN nq).drew.alloc (.cells #[.int .i64 id] 2)) = .ok _ B from hr)
                 clear hr hfin4 hB4 hF4 hN4 hal r0 x2c r0f hlk x4 x4a HAP HFc HB HF
                 generalize Wc.drewN nq = wd at *
                 go_wp2_with fail
                 have r0d : wd.drew.cell? _ = _ := r0w
                 have x2d : wd.drew.cell? _ = _ := x2w
                 have r0zd : (wd.alloc (.cells #[.int .i64 id] 2)).drew.cell? _ = _ := r0z
                 have r0ze : (wd.drew.alloc (.cells #[.int .i64 id] 2)).cell? _ = _ := r0z
                 go_region_law (first | refine step_append_run rfl (.tmp 84) (.tmp 89) 39 39 (by rfl) (by rfl) (by rfl) HR.out ?_ | refine step_append_run rfl (.tmp 84) (.tmp 89) 39 39 (by rfl) (by rfl) (by rfl) HRb.out ?_)
                 all_goals
                   go_wp2
                   go_roundw
                   case rel => exact ⟨k2 + 1, M4, by omega, by go_num, HB4, HF4⟩
                   case measure => simp [intOf]; omega
             · have hm0 : ((m : Int) == 0) = false := by simp; omega
               have hp' : (0 : Int) < m := by omega
               have hie : (y != id) = true := by simpa using hne
               rcases hcase with ⟨rfl, e1, rfl⟩ | ⟨rfl, e1, hup2⟩
               all_goals
                 subst e1
                 go_wp2_with fail
                 go_quiet (fail)
                 obtain ⟨g', c', B, hr, z0, z0f, hfin4⟩ := HAP.out (Wc.drewN nq).drew ((drN _ _).drew)
                 obtain ⟨M4, hB4, hF4, hN4⟩ := hfin4 _ rfl
                 have HB4 := hid hB4
                 have HF4 := hid (show Fm M W _ ∧ Mn W M M4 from ⟨HFc.out.1.trans hF4 HFc.out.2, HFc.out.2.trans hN4 HFc.out.1.size⟩)
                 have r0w : (Wc.drewN nq).cell? _ = _ := r0
                 have x2w : (Wc.drewN nq).cell? _ = _ := x2c
                 have hal := below_box (Wc.drewN nq) (.cells #[.int .i64 id] 2)
                 have r0z : ((Wc.drewN nq).alloc (.cells #[.int .i64 id] 2)).cell? _ = _ := (hal.cell HX.out.1).trans r0
                 have HR := hid (show (Builtin.append_ #[39, 39] 39 #[_, .slice (some ⟨(Wc.drewN nq).heap.size, 0, none⟩) 1 1]).run Tryz.prog ((Wc.drewN nq).alloc (.cells #[.int .i64 id] 2)).drew = .ok _ B from hr)
                 have HRb := hid (show (Builtin.append_ #[39, 39] 39 #[_, .slice (some ⟨(Wc.drewN nq).drew.heap.size, 0, none⟩) 1 1]).run Tryz.prog ((Wc.drewN nq).drew.alloc (.cells #[.int .i64 id] 2)) = .ok _ B from hr)
                 clear hr hfin4 hB4 hF4 hN4 hal r0 x2c r0f hlk x4 x4a HAP HFc HB HF
                 generalize Wc.drewN nq = wd at *
                 go_wp2_with fail
                 have r0d : wd.drew.cell? _ = _ := r0w
                 have x2d : wd.drew.cell? _ = _ := x2w
                 have r0zd : (wd.alloc (.cells #[.int .i64 id] 2)).drew.cell? _ = _ := r0z
                 have r0ze : (wd.drew.alloc (.cells #[.int .i64 id] 2)).cell? _ = _ := r0z
                 go_region_law (first | refine step_append_run rfl (.tmp 84) (.tmp 89) 39 39 (by rfl) (by rfl) (by rfl) HR.out ?_ | refine step_append_run rfl (.tmp 84) (.tmp 89) 39 39 (by rfl) (by rfl) (by rfl) HRb.out ?_)
                 all_goals
                   go_wp2
                   go_roundw
                   case rel => exact ⟨k2 + 1, M4, by omega, by go_num, HB4, HF4⟩
                   case measure => simp [intOf]; omega)
      · have hge : ¬ (k2 : Int) < n := by omega
        have O := hid (show NoteOut M bb (K + 1 + n) s1 W (.returned (.tuple #[])) wr from ⟨rfl, M', (HB.out.more (by omega)).toS' (by rw [hLv, List.take_of_length_le (by rw [HN.out]; omega)]), HF.out.1, HF.out.2⟩)
        go_wp2
        refine bodyPost_end (results_none rfl _ _ _) rfl ?_
        exact O.out
end Go.Proofs.YthpebfojkpnojaaGreat

/- Delete. -/
namespace Go.Proofs.YthpebfojkpnojaaGreat
open Go.RowKit Go.Maps
set_option linter.unusedVariables false
set_option linter.unusedSimpArgs false
set_option maxRecDepth 100000
set_option maxHeartbeats 4000000 in
theorem delete9 {M : Nat → Prop} {bb K : Nat} {s : Bas.S} {W : World} (h : Bs M bb K s W) (hL : s.last ≤ 100000000) (hlit : ∀ e ∈ s.live, e.lits.length ≤ 100000000) (hn : s.rules.length ≤ 1000000000) (id : Int) (hi : I64 id) :
    Calls Tryz.prog 23 #[.pointer (some ⟨bb, 0, none⟩), .int .i64 id] W fun en w' => ErrOut M bb K (Bas.deleteE s id) (Bas.deleteS s id) W en w' := by
  have h' := h
  obtain ⟨hv, bm, br, k, k2, f, g, rv, sv, tv, R, Z, rw', ids, iv, hb, m1, m2, m3, hne, ⟨a1, a2, a3⟩, _⟩ := h'
  have x3 : W.cell? ⟨bb, 3, none⟩ = some (.map (some bm)) := row_cell hb 3
  have hlk := a1.look hi
  have hE := a3 id hi
  have BAD := hid (fun (r : Int) (hr : Bas.deleteE s id = r) (h0 : r ≠ 0) X (hX : Below W.heap.size W X) => show ErrOut M bb K (Bas.deleteE s id) (Bas.deleteS s id) W (.returned (.int .i64 r)) X from by
      have e2 : Bas.deleteS s id = s := by unfold Bas.deleteS; rw [hr, if_neg h0]
      rw [hr, e2]
      exact ⟨rfl, M, h.below hX, Fm.of_below hX, Mn.refl _ _⟩)
  cases he : Bas.look s.live id with
  | none =>
    rw [he] at hE
    simp only [EntAt] at hE
    rw [hE] at hlk
    simp only [Option.getD_none, Option.isSome_none] at hlk
    have OUT := hid (BAD.out 5 (by simp [Bas.deleteE, he]) (by decide))
    clear h a1 a3 hb hE he BAD
    go_enter Tryz.func23, Tryz.ntmps23
    go_wp2
    go_ret
    exact OUT.out _ (below_box _ _)
  | some e =>
    rw [he] at hE
    obtain ⟨a9, c9, hf, hli, hcc⟩ := hE
    have hme := Bas.look_mem he
    rw [hf] at hlk
    simp only [Option.getD_some, Option.isSome_some, entV, hme.2] at hlk
    cases her : e.red with
    | false =>
      have OUT := hid (BAD.out 7 (by simp [Bas.deleteE, he, her]) (by decide))
      rw [her] at hlk
      clear h a1 a3 hb he BAD hf hme hlit hli
      generalize e.lits.length = el at *
      go_enter Tryz.func23, Tryz.ntmps23
      go_wp2
      go_ret
      exact OUT.out _ (below_box _ _)
    | true =>
      rw [her] at hlk
      have C28 := hid (fun X (hX : Below W.heap.size W X) => full28 (h.below hX))
      cases hfl : Bas.full s with
      | true =>
        have OUT := hid (BAD.out 3 (by simp [Bas.deleteE, he, her, hfl]) (by decide))
        rw [hfl] at C28
        clear h a1 a3 hb he BAD hf hme hlit hli
        generalize e.lits.length = el at *
        go_enter Tryz.func23, Tryz.ntmps23
        go_wp2_with (go_at_call 66; refine (C28.out _ (below_box _ _)).mono ?_; clear C28; rintro e w4 ⟨rfl, hw4⟩; rw [hw4]; clear hw4)
        go_ret
        exact OUT.out _ (below_box _ _)
      | false =>
        rw [hfl] at C28
        have e1 : Bas.deleteE s id = 0 := by simp [Bas.deleteE, he, her, hfl]
        have C36 := hid (fun X (hX : Below W.heap.size W X) => leave36 (h.below hX) hL id hi true a9 e.lits.length c9 e.lits rfl (hlit e hme.1) (hli.below hX))
        have C33 := hid (fun (W1 : World) (M1 : Nat → Prop) (h1 : Bs M1 bb K { s with live := Bas.delL s.live id } W1) => note33 h1 ⟨3, id, 0, false, [], []⟩ none 0 none 0 ⟨by show (0 : Int) ≤ 3; decide, by show (3 : Int) < 256; decide⟩ ⟨Row.nil _ _ _ _ _, fun _ _ e => by cases e⟩ ⟨Row.nil _ _ _ _ _, fun _ _ e => by cases e⟩ hn)
        have OUT := hid (fun (W1 w' : World) (M1 : Nat → Prop) (hF : Fm M W W1) (hM1 : Mn W M M1) (ho : NoteOut M1 bb K { s with live := Bas.delL s.live id, rules := s.rules ++ [⟨3, id, 0, false, [], []⟩] } W1 (.returned (.tuple #[])) w') => show ErrOut M bb K (Bas.deleteE s id) (Bas.deleteS s id) W (.returned (.int .i64 0)) w' from by
          obtain ⟨_, M', o1, o2, o3⟩ := ho
          have e2 : Bas.deleteS s id = { s with live := Bas.delL s.live id, rules := s.rules ++ [⟨3, id, 0, false, [], []⟩] } := by simp [Bas.deleteS, e1]
          rw [e1, e2]
          exact ⟨rfl, M', o1, hF.trans o2 hM1, hM1.trans o3 hF.size⟩)
        clear h a1 a3 hb he BAD hf hme hlit hli e1 hn
        generalize e.lits.length = el at *
        go_enter Tryz.func23, Tryz.ntmps23
        go_wp2_with (first
          | (go_at_call 66; go_loud (refine (C28.out _ (below_box _ _)).mono ?_; clear C28; rintro e w4 ⟨rfl, hw4⟩; rw [hw4]; clear hw4))
          | (go_at_call 78; go_loud (refine (C36.out _ (below_box _ _)).mono ?_; clear C36; rintro e w4 ⟨rfl, M4, hB4, hF4, hN4⟩; have HB4 := hid hB4; have HF4 := hid (show Fm M W w4 ∧ Mn W M M4 from ⟨(Fm.of_below (below_box _ _)).trans hF4 (Mn.refl _ _), (Mn.refl _ _).trans hN4 (below_box _ _).size⟩); clear hB4 hF4 hN4))
          | (go_at_call 69; go_loud (refine (C33.out _ _ HB4.out).mono ?_; clear C33; rintro e w5 ho; have hen := ho.1; subst hen; have HO5 := hid (OUT.out _ _ _ HF4.out.1 HF4.out.2 ho); clear ho)))
        go_ret
        exact HO5.out
end Go.Proofs.YthpebfojkpnojaaGreat

