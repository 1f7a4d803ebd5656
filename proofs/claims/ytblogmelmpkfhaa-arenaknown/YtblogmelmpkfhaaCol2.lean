/- Collect. -/
import Derived.Test.YtblogmelmpkfhaaCol1
import Derived.Deep.RegionLaw
namespace Go.Proofs.Ytblogmelmpkfhaa
open Go.RowKit Go.Maps
set_option linter.unusedVariables false

theorem over {cur ws cs : List Value} {N e m : Nat} (h : cur.take N = ws) (hc : cs.length = m) (he : e + m ≤ N) (hN : N ≤ cur.length) : (cur.take e ++ cs ++ cur.drop (e + m)).take N = ws.take e ++ cs ++ ws.drop (e + m) := by
  subst h
  have hl : (cur.take e ++ cs).length = e + m := by simp [hc]; omega
  rw [List.take_append, hl, List.take_of_length_le (by omega), List.take_take, Nat.min_eq_left (by omega), List.drop_take]
theorem upd_at {L : List Arn.It} (hL : Arn.Oks L) (y : Arn.It) (id : Int) : upd (fun r => (Arn.at? L r).map (fun _ => Value.agg #[])) (Arn.size L : Nat) (some (Value.agg #[])) id = (Arn.at? (L ++ [y]) id).map (fun _ => Value.agg #[]) := by
  unfold upd
  rw [Arn.at_append hL]
  by_cases e : id = (Arn.size L : Nat)
  · rw [if_pos e, if_neg (by omega), e, Int.sub_self]
    rfl
  · rw [if_neg e]
    by_cases h3 : id < (Arn.size L : Nat)
    · rw [if_pos h3]
    · rw [if_neg h3]
      have hn1 : Arn.at? L id = none := by
        cases hq : Arn.at? L id with
        | none => rfl
        | some y => have := Arn.at_lt hL hq; have := this.2.2.fits; omega
      show (Arn.at? L id).map _ = _
      rw [hn1, Arn.at_cons, if_neg (by omega)]
      rfl
theorem clause44w (ab g N c k L : Nat) (hd : Int) (W : World) (c1 : W.cell? ⟨ab, 1, none⟩ = some (.slice (some ⟨g, 0, none⟩) N c)) (h0 : W.cell? ⟨g, k, none⟩ = some (.int .u32 hd)) (hh1 : 0 ≤ hd) (hh2 : hd ≤ 1073741827) (hq : hd / 4 = L) (hk : k + (4 + L) ≤ N) (hN : N ≤ 268435456) (hc : N ≤ c) :
    Calls Try.prog 44 #[.pointer (some ⟨ab, 0, none⟩), .int .i64 k] W fun e w' => e = .returned (.slice (some ⟨g, k, none⟩) (4 + L) (c - k)) ∧ w' = W := by
  have hq' : Int.tdiv hd 4 = L := by rw [Int.tdiv_eq_ediv_of_nonneg hh1]; exact hq
  have hkN : (k : Int) < (N : Nat) := by omega
  go_enter Try.func44, Try.ntmps44
  go_wp2
  go_ret
  exact ⟨by simp, rfl⟩
theorem Cm.nes {n ab lim bm nm G R g c : Nat} {W0 : World} {M A B : List Arn.It} {ws : List Int} {W : World} (h : Cm n ab lim bm nm G R g c W0 M A B ws W) : ab ≠ g ∧ ab ≠ G ∧ g ≠ G ∧ nm ≠ ab ∧ nm ≠ g ∧ nm ≠ G := by
  obtain ⟨es, cl, hm⟩ := h.map.obj
  obtain ⟨_, c1, h1⟩ := own_blk h.own rfl
  obtain ⟨_, c2, h2⟩ := own_blk h.mvs rfl
  have hb := h.blk
  refine ⟨?_, ?_, own_ne h.own h.mvs (by decide), ?_, ?_, ?_⟩
  · rintro rfl; rw [hb] at h1; injection h1 with e; injection e with _ e; cases e
  · rintro rfl; rw [hb] at h2; injection h2 with e; injection e with _ e; cases e
  · rintro rfl; rw [hb] at hm; injection hm with e; cases e
  · rintro rfl; rw [h1] at hm; injection hm with e; cases e
  · rintro rfl; rw [h2] at hm; injection hm with e; cases e
/-- A round: the move is told, the place is told, the words are copied. -/
theorem Cm.step {n ab lim bm nm G R g c i : Nat} {W0 : World} {M A D C : List Arn.It} {x : Arn.It} {ws : List Int} {W : World} (h : Cm n ab lim bm nm G R g c W0 M A (D ++ x :: C) ws W) (hD : Arn.Dead D) (hx : x.dead = false) (hi : (Arn.refs A 0).length = i) (hiR : i < R) :
    ∃ W2 W3, (Instr.mapUpdate 66 (.map (some nm)) (.int .i64 (Arn.size (Arn.collect A) : Nat)) (.agg #[])).run Try.prog ((W.setCell ⟨G, i * 2, none⟩ (.int .i64 (Arn.size (A ++ D) : Nat))).setCell ⟨G, i * 2 + 1, none⟩ (.int .i64 (Arn.size (Arn.collect A) : Nat))) = .ok () W2 ∧
      W2.cell? ⟨ab, 1, none⟩ = some (.slice (some ⟨g, 0, none⟩) (Arn.size M) c) ∧ W2.cell? ⟨g, Arn.size (A ++ D), none⟩ = some (.int .u32 x.head) ∧
      (Builtin.copy_ #[67, 67] 3 #[.slice (some ⟨g, Arn.size (Arn.collect A), none⟩) (Arn.size M - Arn.size (Arn.collect A)) (c - Arn.size (Arn.collect A)), .slice (some ⟨g, Arn.size (A ++ D), none⟩) (4 + x.lits.length) (c - Arn.size (A ++ D))]).run Try.prog W2.drew = .ok (goInt (4 + x.lits.length)) W3 ∧
      ∃ ws', Cm n ab lim bm nm G R g c W0 M (A ++ D ++ [x]) C ws' W3 ∧ (∀ (q : Nat) cs fr, W.heap[q]? = some (Obj.cells cs 36 fr) → W3.heap[q]? = some (Obj.cells cs 36 fr)) := by
  obtain ⟨n1, n2, n3, n4, n5, n6⟩ := h.nes
  have hxo : x.ok := h.ok x (by rw [h.mid.1]; simp)
  have hAo : Arn.Oks A := fun y hy => h.ok y (by rw [h.mid.1]; simp [hy])
  have hf := hxo.fits
  have hs : Arn.size M = Arn.size (A ++ D) + (x.room + Arn.size C) := by rw [h.mid.1]; simp [Arn.size_append, Arn.size]; omega
  have hAD : Arn.size A ≤ Arn.size (A ++ D) := by rw [Arn.size_append]; omega
  have hcA := Arn.collect_size hAo
  have hlen := Arn.mid_len h.ok h.mid
  have hfit := h.fit
  obtain ⟨e, he⟩ : ∃ e, Arn.size (Arn.collect A) = e := ⟨_, rfl⟩
  obtain ⟨k, hk⟩ : ∃ k, Arn.size (A ++ D) = k := ⟨_, rfl⟩
  have hst1 := h.mvs.stored (i * 2) (.int .i64 (k : Nat))
  have hst2 := hst1.1.stored (i * 2 + 1) (.int .i64 (e : Nat))
  have hstep := mvL_step (A := A) (D := D) (x := x) hD hx R i hi hiR
  rw [he, hk] at hstep
  rw [hstep] at hst2
  have hg1 := hst1.2
  have hg2 := hst2.2
  have hmp : Mp ((W.setCell ⟨G, i * 2, none⟩ (.int .i64 (k : Nat))).setCell ⟨G, i * 2 + 1, none⟩ (.int .i64 (e : Nat))) nm (Arn.refs A 0).length (fun r => (Arn.at? (Arn.collect A) r).map (fun _ => .agg #[])) :=
    (h.map.kept hg1 (by simpa using n6)).kept hg2 (by simpa using n6)
  obtain ⟨W2, hr2, hmp2, ht2⟩ := hmp.put (id := (e : Nat)) ⟨by omega, by omega⟩ (by have := Arn.refs_len M 0; have := Arn.len_size h.ok; have := h.num; unfold maxLen; omega) (.agg #[])
  have hg3 := ht2.grown
  have hblk2 : ∀ q o, q ≠ G → q ≠ nm → W.heap[q]? = some o → W2.heap[q]? = some o := fun q o hq1 hq2 ho => by
    have hq := lt_of_blk ho
    refine (hg3.block q (by simp [World.setCell]; omega) (fun e => hq2 (by cases e; rfl))).trans ?_
    refine (hg2.block q (by simp [World.setCell]; omega) (fun e => hq1 (by cases e; rfl))).trans ?_
    exact (hg1.block q hq (fun e => hq1 (by cases e; rfl))).trans ho
  obtain ⟨hgn, c2, cur, hv, hb, hgc, h4, h5, h6, h7⟩ := own_some h.own (by omega)
  cases hv
  have hgc2 : W2.drew.heap[g]? = some (.cells cur 84 (0, 0)) := hblk2 g _ n3 (fun e => n5 e.symm) hgc
  have hcs : ∀ j v, ((x.cells.take (4 + x.lits.length)).map (Value.int .u32))[j]? = some v → W2.drew.cell? ((⟨g, k, none⟩ : Addr).add j) = some v := fun j v hj => by
    have hjl : j < 4 + x.lits.length := by
      rcases Nat.lt_or_ge j (4 + x.lits.length) with h' | h'
      · exact h'
      · rw [List.getElem?_eq_none (by simp; omega)] at hj; cases hj
    rw [show (⟨g, k, none⟩ : Addr).add j = ⟨g, k + j, none⟩ from Go.WideShapes.add_plain _ _ _, row_cell hgc2, ← row_cell hgc, ← hk, h.word j (by omega)]
    rw [List.getElem?_map, List.getElem?_take_of_lt hjl, List.getElem?_eq_getElem (by rw [hxo.len]; omega)] at hj
    rw [List.getD, List.getElem?_eq_getElem (by rw [hxo.len]; omega)]
    exact hj
  have hcl : ((x.cells.take (4 + x.lits.length)).map (Value.int .u32)).length = 4 + x.lits.length := by simp [hxo.len]; omega
  have hcopy := run_copy_row (P := Try.prog) W2.drew 67 67 3 84 g e (Arn.size M - e) (c - e) ⟨g, k, none⟩ (4 + x.lits.length) (c - k) cur 84 ((x.cells.take (4 + x.lits.length)).map (Value.int .u32)) Try.underlying67 info84s hgc2
    (by rw [hcl]; exact (Nat.min_eq_left (by omega)).symm) hcs (by rw [hcl]; omega) (by intro u hu; obtain ⟨y, _, rfl⟩ := List.mem_map.1 hu; rfl)
  rw [hcl] at hcopy
  have hW3g := setRow_heap W2.drew g cur (cur.toList.take e ++ (x.cells.take (4 + x.lits.length)).map (Value.int .u32) ++ cur.toList.drop (e + (4 + x.lits.length))).toArray 84 _ hgc2
  have hW3o := fun q hq => setRow_other W2.drew g q (cur.toList.take e ++ (x.cells.take (4 + x.lits.length)).map (Value.int .u32) ++ cur.toList.drop (e + (4 + x.lits.length))).toArray hq
  generalize hW3 : W2.drew.setRow g (cur.toList.take e ++ (x.cells.take (4 + x.lits.length)).map (Value.int .u32) ++ cur.toList.drop (e + (4 + x.lits.length))).toArray = W3 at *
  have hgr3 : W2.grownBy W3 (some g) := by
    rw [← hW3]
    exact ⟨rfl, rfl, rfl, by simp [World.setRow], fun q hq hn => setRow_other W2.drew g q _ (fun e => hn (by rw [e]))⟩
  have hsz0 : W.heap.size ≤ W2.heap.size := Nat.le_trans hg1.size (Nat.le_trans hg2.size hg3.size)
  have hFr : Fr pA n W0 W3 := ⟨hgr3.os.trans (hg3.os.trans (hg2.os.trans (hg1.os.trans h.fr.os))), hgr3.tape.trans (hg3.tape.trans (hg2.tape.trans (hg1.tape.trans h.fr.tape))), hgr3.output.trans (hg3.output.trans (hg2.output.trans (hg1.output.trans h.fr.output))), Nat.le_trans h.fr.size (Nat.le_trans hsz0 hgr3.size), fun q o hq hp => by
    have hq1 := h.fr.block q o hq hp
    have hlt := lt_of_blk hq
    have q1 : q ≠ G := by have := (own_blk (g := G) h.mvs rfl).1; omega
    have q2 : q ≠ nm := by have := h.new; omega
    have q3 : q ≠ g := by
      rintro rfl
      rw [hgc] at hq1
      cases hq1
      rcases hp with hp | hp
      · omega
      · exact hp (.inr rfl)
    exact (hW3o q q3).trans (hblk2 q _ q1 q2 hq1)⟩
  refine ⟨W2, W3, by rw [he, hk]; exact hr2, row_cell (hblk2 ab _ n2 (fun e => n4 e.symm) h.blk) 1, ?_, by rw [he, hk]; exact hcopy, ws.take (Arn.size (Arn.collect A)) ++ x.cells.take (4 + x.lits.length) ++ ws.drop (Arn.size (Arn.collect A) + (4 + x.lits.length)), ?_, ?_⟩
  · exact (row_cell (W := W2) hgc2 _).trans ((row_cell hgc _).symm.trans (h.word 0 (by omega)))
  · refine ⟨h.nab, h.ng, h.ok, h.fit, h.cap, h.capm, ?_, ?_, Arn.mid_step h.ok h.mid hD hx, ?_, ?_, h.num, ?_, h.new, ?_, h.nsz⟩
    · exact (hW3o ab n1).trans (hblk2 ab _ n2 (fun e => n4 e.symm) h.blk)
    · refine own_mk hb hW3g h4 h5 ?_ ?_
      · have := h7; simp [hxo.len]; omega
      · rw [he]
        simp only [List.map_append, List.map_drop]
        rw [List.map_take (l := ws)]
        exact over h7 hcl (by omega) (by rw [Array.length_toList]; omega)
    · obtain ⟨r1, r2⟩ := refs_step (A := A) hD hx
      rw [r1, List.length_append, Arn.collect_append, Arn.collect_append, Arn.collect_dead hD, Arn.collect_live x hx, List.append_nil]
      obtain ⟨DD, q1, q2⟩ := hmp2.kept hgr3 (by simpa using n5)
      refine ⟨DD, q1, fun id hid => ?_⟩
      have := q2 id hid
      rw [← he, upd_at (Arn.collect_ok hAo) x.tight id] at this
      exact this
    · exact (hst2.1.kept hg3 (.inr (by simp [Value.ownBlock]; exact fun e => n6 e.symm))).kept hgr3 (.inr (by simp [Value.ownBlock]; exact fun e => n3 e.symm))
    · exact hFr
    · exact hFr.below h.nsz
  · intro q cs fr hq
    have q1 : q ≠ G := by rintro rfl; obtain ⟨_, c9, h9⟩ := own_blk h.mvs rfl; rw [h9] at hq; injection hq with e; injection e with _ e; cases e
    have q2 : q ≠ nm := by rintro rfl; obtain ⟨es, cl, hm⟩ := h.map.obj; rw [hm] at hq; injection hq with e; cases e
    have q3 : q ≠ g := by rintro rfl; rw [hgc] at hq; injection hq with e; injection e with _ e; cases e
    exact (hW3o q q3).trans (hblk2 q _ q1 q2 hq)
theorem info63 : (Try.prog.info? 63).map (fun i => (i.zero, i.size, i.bytes)) = some (some (.agg #[.int .i64 0, .int .i64 0]), 2, 16) := by kernel_rfl
/-- The moves that are told, new. -/
def MovesOut (n : Nat) (fs ts : List Int) (e : Ending) (w' : World) : Prop := ∃ v, e = .returned v ∧ w'.ownsRow n 63 2 v fs.length (mv fs ts)

end Go.Proofs.Ytblogmelmpkfhaa
