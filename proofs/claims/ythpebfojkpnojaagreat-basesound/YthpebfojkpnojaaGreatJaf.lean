/- note: a rule more. -/
import Derived.Test.YthpebfojkpnojaaGreatJae
import Derived.Deep.RegionLaw
/- note: a rule more. -/
namespace Bas
theorem nsteps_note (s : S) (r : Rl) : nsteps { s with rules := s.rules ++ [r] } = nsteps s + (if r.kind = 2 then 0 else 1) := by
  unfold nsteps
  show (stepsOf s.form (s.rules ++ [r])).length = _
  rw [stepsOf_snoc, List.length_append]
  congr 1
  unfold stepsOf
  by_cases h1 : r.kind = 1
  · rw [if_pos h1, if_neg (by omega)]; rfl
  · rw [if_neg h1]
    by_cases h2 : r.kind = 2
    · rw [if_pos h2, if_pos h2]; rfl
    · rw [if_neg h2, if_neg h2]; rfl
end Bas
namespace Go.Proofs.YthpebfojkpnojaaGreat
open Go.RowKit Go.Maps
set_option linter.unusedVariables false
set_option linter.unusedSimpArgs false
set_option maxRecDepth 100000
theorem step_append_run {P : Program} {w w' : World} {ops : Array Oper} {o : Oper} {a : Act} {K : Act → World → Prop} {Q : Exit → Act → World → Prop} {E : Prop} (hgd : o.guard = none) (s x : Operand) (t u : TypeId)
    (ho : o.op = .call { callee := .builtin .append, args := #[s, x], argTypes := #[t, u] }) {v xv v' : Value} (hs : a.eval s = v) (hx : a.eval x = xv)
    (hrun : (Builtin.append_ #[t, u] o.type #[v, xv]).run P w = .ok v' w') (h : K (a.put o.dst v') w') :
    if Region.wanted o (yielded ops a.tmps) = true then Oper.wp P o a w K Q else E := by
  have hw : Region.wanted o (yielded ops a.tmps) = true := by simp [Region.wanted, hgd]
  rw [if_pos hw]
  unfold Oper.wp
  simp [execOp, ho, resolve, invoke, builtin, hs, hx, hrun, Result.andThen]
  exact h
theorem info81 : (Tryz.prog.info? 92).map (fun i => (i.zero, i.size, i.bytes)) = some (some (.agg #[.int .u8 0, .int .i64 0, .int .i64 0, .bool false, .slice none 0 0, .slice none 0 0]), 6, 80) := by kernel_rfl
theorem OwnM.mono {M M' : Nat → Prop} {W : World} {e : TypeId} {size : Nat} {v : Value} {n : Nat} {xs : List Value} (h : OwnM M W e size v n xs) (hm : ∀ g, M g → M' g) : OwnM M' W e size v n xs := ⟨h.1, fun g hg => hm g (h.2 g hg)⟩
/-- A rule behind the others: nothing else is turned but the base's block. -/
theorem Bs.noted {M : Nat → Prop} {bb K : Nat} {s : Bas.S} {W : World} (h : Bs M bb K s W) (r : Bas.Rl) (a : Option Addr) (c : Nat) (a2 : Option Addr) (c2 : Nat) (hl : LI M W a r.lits) (hh : HI M W a2 r.hints) (hn : s.rules.length ≤ 1000000000) (W1 : World) (hb1 : Below W.heap.size W W1) :
    ∃ rv g cc B, (∃ vo vc, rv = .slice vo s.rules.length vc) ∧ W.cell? ⟨bb, 5, none⟩ = some rv ∧ (∃ st : Int, W.cell? ⟨bb, 6, none⟩ = some (.int .i64 st) ∧ st = (Bas.nsteps s : Nat)) ∧
      (Builtin.append_ #[73, 73] 73 #[rv, .slice (some ⟨W1.heap.size, 0, none⟩) 1 1]).run Tryz.prog (W1.alloc (.cells (ruleV r a c a2 c2).toArray 92)) = .ok (.slice (some ⟨g, 0, none⟩) (s.rules.length + 1) cc) B ∧
      B.cell? ⟨bb, 5, none⟩ = some rv ∧ B.frozen? ⟨bb, 5, none⟩ = false ∧ B.cell? ⟨bb, 6, none⟩ = some (.int .i64 (Bas.nsteps s : Nat)) ∧ B.frozen? ⟨bb, 6, none⟩ = false ∧ bb < B.heap.size ∧ (∀ (q : Nat) (o : Obj), W.heap.size ≤ q → W1.heap[q]? = some o → B.heap[q]? = some o) ∧ (∃ b0 b1 b2 b3 b4 b7 b8, B.heap[bb]? = some (.cells #[b0, b1, b2, b3, b4, rv, .int .i64 (Bas.nsteps s : Nat), b7, b8] 76 (0, 0))) ∧
      ∀ (W' : World) (st : Nat), st = Bas.nsteps s + (if r.kind = 2 then 0 else 1) → W'.os = B.os → W'.tape = B.tape → W'.output = B.output → W'.heap.size = B.heap.size → (∀ q, q ≠ bb → W'.heap[q]? = B.heap[q]?) →
        (∀ x0 x1 x2 x3 x4 x5 x6 x7 x8, B.heap[bb]? = some (.cells #[x0, x1, x2, x3, x4, x5, x6, x7, x8] 76 (0, 0)) → W'.heap[bb]? = some (.cells #[x0, x1, x2, x3, x4, .slice (some ⟨g, 0, none⟩) (s.rules.length + 1) cc, .int .i64 st, x7, x8] 76 (0, 0))) →
        Bs (fun q => M q ∨ q = g) bb K { s with rules := s.rules ++ [r] } W' ∧ Fm M W W' ∧ Mn W M (fun q => M q ∨ q = g) := by
  obtain ⟨hv, bm, br, k, k2, f, gg, rv, sv, tv, R, Z, rw', ids, iv, hb, m1, m2, m3, hne, ⟨a1, a2', a3⟩, ⟨b1, b2, b3, b4, b5⟩, ⟨c1, c2', c3⟩, ⟨d1, d2, d3⟩, e1⟩ := h
  have hRl : R.length = s.rules.length := by rw [← c2']; simp
  obtain ⟨i0, hi0, hz⟩ := Option.map_eq_some_iff.1 info81
  simp only [Prod.mk.injEq] at hz
  have hal := below_box W1 (.cells (ruleV r a c a2 c2).toArray 92)
  have hbW : Below W.heap.size W (W1.alloc (.cells (ruleV r a c a2 c2).toArray 92)) := hb1.trans (hal.mono hb1.size)
  obtain ⟨g, cc, B, hr, h2, h3, h5, _⟩ := run_append_lies (P := Tryz.prog) (W1.alloc (.cells (ruleV r a c a2 c2).toArray 92)) 73 73 0 92 i0 _ 6 80 Tryz.underlying73 hi0 hz.1 hz.2.1 hz.2.2 rfl (by decide) rv R.length _ (own_below c1.1 hbW) ⟨W1.heap.size, 0, none⟩ 1 1 (ruleV r a c a2 c2) rfl (World.news_of_block (heap_alloc_new W1 (.cells (ruleV r a c a2 c2).toArray 92))) (by intro u hu; simp [ruleV] at hu; rcases hu with rfl | rfl | rfl | rfl | rfl | rfl <;> rfl) (by decide) (by unfold maxLen; omega) (by omega) (Nat.zero_le _) _ rfl
  rw [hRl] at hr
  have hlt := lt_of_blk hb
  have hne5 : rv.ownBlock ≠ some bb := fun e => by
    obtain ⟨_, cur, hq⟩ := own_blk c1.1 e
    rw [hb] at hq
    injection hq with hq; injection hq with _ hq _; cases hq
  have hBo : ∀ q, q < W.heap.size → rv.ownBlock ≠ some q → B.heap[q]? = W.heap[q]? := fun q hq hn => (h3.block q (Nat.lt_of_lt_of_le hq hbW.size) (fun e => hn e.symm)).trans (hbW.block q hq)
  have hBb := (hBo bb hlt hne5).trans hb
  have hg : M g ∨ W.heap.size ≤ g := by
    rcases h5 with h5 | h5
    · exact .inl (c1.2 g h5)
    · right; rw [h5]; exact hbW.size
  refine ⟨rv, g, cc, B, (by obtain ⟨vo, vc, e9⟩ := own_slc c1.1; exact ⟨vo, vc, by rw [e9, hRl]⟩), row_cell hb 5, ⟨_, row_cell hb 6, rfl⟩, hr, row_cell hBb 5, row_frozen hBb 5, row_cell hBb 6, row_frozen hBb 6, lt_of_blk hBb, (fun q o hq ho => (h3.block q (Nat.lt_of_lt_of_le (lt_of_blk ho) hal.size) (fun e => by have := own_blk c1.1 e.symm; obtain ⟨_, cur, h9⟩ := this; have := lt_of_blk h9; omega)).trans ((hal.block q (lt_of_blk ho)).trans ho)), ⟨_, _, _, _, _, _, _, hBb⟩, fun W' st hst q1 q2 q3 q4 q5 q6 => ?_⟩
  have hMn : Mn W M (fun q => M q ∨ q = g) := fun q hq => by
    rcases hq with hq | rfl
    · exact .inl hq
    · exact hg
  have hsz : W.heap.size ≤ W'.heap.size := by rw [q4]; exact Nat.le_trans hbW.size h3.size
  have hFm : Fm M W W' := ⟨q1.trans (h3.os.trans hbW.os), q2.trans (h3.tape.trans hbW.tape), q3.trans (h3.output.trans hbW.output), hsz, fun q hq hnm => (q5 q (fun e => hnm (e ▸ m1))).trans (hBo q hq (fun e => hnm (c1.2 q e)))⟩
  have hcell : ∀ (q : Nat) (cs : Array Value) (t : TypeId), W.heap[q]? = some (.cells cs t (0, 0)) → t ≠ 76 → t ≠ 92 → W'.heap[q]? = W.heap[q]? := fun q cs t hq n1 n2 => by
    refine (q5 q (fun e => ?_)).trans (hBo q (lt_of_blk hq) (fun e => ?_))
    · rw [e, hb] at hq
      injection hq with hq; injection hq with _ hq _; exact n1 hq.symm
    · obtain ⟨_, cur, hq2⟩ := own_blk c1.1 e
      rw [hq2] at hq
      injection hq with hq; injection hq with _ hq _; exact n2 hq.symm
  have hmap : ∀ (q : Nat) es cl, W.heap[q]? = some (.map es cl) → W'.heap[q]? = W.heap[q]? := fun q es cl hq => by
    refine (q5 q (fun e => ?_)).trans (hBo q (lt_of_blk hq) (fun e => ?_))
    · rw [e, hb] at hq; cases hq
    · obtain ⟨_, cur, hq2⟩ := own_blk c1.1 e
      rw [hq2] at hq; cases hq
  have hM' : ∀ q, M q → (fun q => M q ∨ q = g) q := fun q hq => .inl hq
  have ok : ∀ {e size : Nat} {v : Value} {n : Nat} {xs : List Value}, e ≠ 76 → e ≠ 92 → OwnM M W e size v n xs → OwnM (fun q => M q ∨ q = g) W' e size v n xs := fun n1 n2 ho => OwnM.mono (M := M) ⟨own_keep ho.1 (fun q cs _ hq => hcell q cs _ hq n1 n2), ho.2⟩ hM'
  obtain ⟨es1, cl1, hm1⟩ := a1.obj
  obtain ⟨es2, cl2, hm2⟩ := b1.obj
  have hRn : (R ++ [((r, (a, c), (a2, c2)) : RlM)]).length = s.rules.length + 1 := by simp [hRl]
  refine ⟨⟨hv, bm, br, k, k2, f, gg, .slice (some ⟨g, 0, none⟩) (s.rules.length + 1) cc, sv, tv, R ++ [((r, (a, c), (a2, c2)) : RlM)], Z, rw', ids, iv, ?_, hM' _ m1, hM' _ m2, hM' _ m3, hne, ⟨a1.same (hmap _ _ _ hm1), a2', fun id hi => ?_⟩, ⟨b1.same (hmap _ _ _ hm2), b2, fun l v hlv => ?_, b4, b5⟩, ⟨?_, by rw [List.map_append, c2']; rfl, fun q hq => ?_⟩, ⟨ok (by decide) (by decide) d1, d2, fun q hq => ⟨(d3 q hq).1.fm hFm hMn, (d3 q hq).2.fm hFm hMn⟩⟩, ok (by decide) (by decide) e1⟩, hFm, hMn⟩
  · rw [q6 _ _ _ _ _ _ _ _ _ hBb, hst, ← Bas.nsteps_note]
  · have h0 := a3 id hi
    cases hq : Bas.look s.live id with
    | none => rw [hq] at h0; exact h0
    | some e =>
      rw [hq] at h0
      obtain ⟨a9, c9, k1, k2, k3⟩ := h0
      exact ⟨a9, c9, k1, k2.fm hFm hMn, k3⟩
  · obtain ⟨p1, p2, ⟨go, la, p3, p4⟩, p5, p6, p7⟩ := b3 l v hlv
    exact ⟨p1, hM' _ p2, ⟨go, la, (hcell _ _ _ p3 (by decide) (by decide)).trans p3, p4⟩, ok (by decide) (by decide) p5, p6, p7⟩
  · rw [hRn]
    refine ⟨?_, fun q hq => ?_⟩
    · have h2' := h2
      rw [hRl] at h2'
      rw [List.flatMap_append, show ([((r, (a, c), (a2, c2)) : RlM)].flatMap rlv) = ruleV r a c a2 c2 by simp [rlv]]
      exact own_keep h2' (fun q cs e hq => q5 q (fun e3 => by
        rw [e3, hBb] at hq
        injection hq with hq; injection hq with _ hq _; cases hq))
    · right
      simpa [Value.ownBlock] using hq.symm
  · rcases List.mem_append.1 hq with hq | hq
    · exact ⟨(c3 q hq).1.fm hFm hMn, (c3 q hq).2.fm hFm hMn⟩
    · obtain rfl := List.mem_singleton.1 hq
      exact ⟨hl.fm hFm hMn, hh.fm hFm hMn⟩
/-- What note leaves. -/
def NoteOut (M : Nat → Prop) (bb K : Nat) (s : Bas.S) (W : World) (en : Ending) (w' : World) : Prop := en = .returned (.tuple #[]) ∧ ∃ M', Bs M' bb K s w' ∧ Fm M W w' ∧ Mn W M M'
set_option maxHeartbeats 4000000 in
theorem note33 {M : Nat → Prop} {bb K : Nat} {s : Bas.S} {W : World} (h : Bs M bb K s W) (r : Bas.Rl) (a : Option Addr) (c : Nat) (a2 : Option Addr) (c2 : Nat) (hk : 0 ≤ r.kind ∧ r.kind < 256) (hl : LI M W a r.lits) (hh : HI M W a2 r.hints) (hn : s.rules.length ≤ 1000000000) :
    Calls Tryz.prog 69 #[.pointer (some ⟨bb, 0, none⟩), .agg (ruleV r a c a2 c2).toArray] W fun en w' => NoteOut M bb K { s with rules := s.rules ++ [r] } W en w' := by
  obtain ⟨W1, hW1⟩ : ∃ W1, W.alloc (.cells (ruleV r a c a2 c2).toArray 92) = W1 := ⟨_, rfl⟩
  have hb1 : Below W.heap.size W W1 := by rw [← hW1]; exact below_box _ _
  have hnew : W1.heap[W.heap.size]? = some (.cells (ruleV r a c a2 c2).toArray 92 (0, 0)) := by rw [← hW1]; exact heap_alloc_new _ _
  obtain ⟨rv, g, cc, B, ⟨vo, vc, rfl⟩, x5, _, hr, y5, y5f, y6, y6f, hbb, hq9, ⟨b0, b1, b2, b3, b4, b7, b8, hB⟩, hfin⟩ := h.noted r a c a2 c2 hl hh hn W1.drew hb1.drew
  have z5 : W1.drew.cell? ⟨bb, 5, none⟩ = some (.slice vo s.rules.length vc) := (hb1.drew.cell (p := ⟨bb, 5, none⟩) (cell_lt x5)).trans x5
  have hBn := hq9 W.heap.size _ (Nat.le_refl _) (show W1.drew.heap[W.heap.size]? = some _ from hnew)
  have hbne : bb ≠ W.heap.size := by have := cell_lt x5; omega
  obtain ⟨V, hV⟩ : ∃ V, B.setCell ⟨bb, 5, none⟩ (.slice (some ⟨g, 0, none⟩) (s.rules.length + 1) cc) = V := ⟨_, rfl⟩
  have hVb : V.heap[bb]? = some (.cells #[b0, b1, b2, b3, b4, .slice (some ⟨g, 0, none⟩) (s.rules.length + 1) cc, .int .i64 (Bas.nsteps s : Nat), b7, b8] 76 (0, 0)) := by rw [← hV]; exact heap_set_row hB _
  have hVn : V.heap[W.heap.size]? = some (.cells (ruleV r a c a2 c2).toArray 92 (0, 0)) := by rw [← hV]; exact (heap_other B _ (fun e => hbne e.symm)).trans hBn
  have v6 : V.cell? ⟨bb, 6, none⟩ = some (.int .i64 (Bas.nsteps s : Nat)) := row_cell hVb 6
  have v6f := row_frozen hVb 6
  have vk : V.cell? ⟨W.heap.size, 0, none⟩ = some (.int .u8 r.kind) := row_cell hVn 0
  have u0 : W1.drew.cell? ⟨W.heap.size, 0, none⟩ = some (.int .u8 r.kind) := row_cell hnew 0
  have u1 : W1.drew.cell? ⟨W.heap.size, 1, none⟩ = some (.int .i64 r.id) := row_cell hnew 1
  have u2 : W1.drew.cell? ⟨W.heap.size, 2, none⟩ = some (.int .i64 r.by_) := row_cell hnew 2
  have u3 : W1.drew.cell? ⟨W.heap.size, 3, none⟩ = some (.bool r.red) := row_cell hnew 3
  have u4 : W1.drew.cell? ⟨W.heap.size, 4, none⟩ = some (.slice a r.lits.length c) := row_cell hnew 4
  have u5 : W1.drew.cell? ⟨W.heap.size, 5, none⟩ = some (.slice a2 r.hints.length c2) := row_cell hnew 5
  have hoV : ∀ q, q ≠ bb → V.heap[q]? = B.heap[q]? := fun q hq => by rw [← hV]; exact heap_other B _ hq
  have hsV : V.heap.size = B.heap.size := by rw [← hV]; simp [World.setCell]
  have hosV : V.os = B.os ∧ V.tape = B.tape ∧ V.output = B.output := by rw [← hV]; exact ⟨rfl, rfl, rfl⟩
  have OUT0 := hid (show r.kind = 2 → NoteOut M bb K { s with rules := s.rules ++ [r] } W (.returned (.tuple #[])) V from fun hk2 => ⟨rfl, _, hfin V (Bas.nsteps s) (by rw [if_pos hk2]; rfl) hosV.1 hosV.2.1 hosV.2.2 hsV hoV (fun x0 x1 x2 x3 x4 x5 x6 x7 x8 hx => by
    rw [hB] at hx
    cases hx
    exact hVb)⟩)
  have OUT1 := hid (show ¬ r.kind = 2 → ∀ st : Int, st = (Bas.nsteps s : Nat) + 1 → NoteOut M bb K { s with rules := s.rules ++ [r] } W (.returned (.tuple #[])) (V.setCell ⟨bb, 6, none⟩ (.int .i64 st)) from fun hk2 st hst => ⟨rfl, _, hfin _ (Bas.nsteps s + 1) (by rw [if_neg hk2]) hosV.1 hosV.2.1 hosV.2.2 (by rw [← hsV]; simp [World.setCell]) (fun q hq => (heap_other V _ hq).trans (hoV q hq)) (fun x0 x1 x2 x3 x4 x5 x6 x7 x8 hx => by
    rw [hB] at hx
    cases hx
    rw [heap_set_row hVb, hst]
    rfl)⟩)
  have HNS := hid (show Bas.nsteps s ≤ 1000000000 from Nat.le_trans (by
    have : ∀ (rs : List Bas.Rl) (l : Int), (Bas.stepsOf l rs).length ≤ rs.length := by
      intro rs
      induction rs with
      | nil => intro l; simp [Bas.stepsOf]
      | cons q rs ih =>
        intro l
        rw [Bas.stepsOf]
        split
        · simp only [List.length_cons]; have := ih q.id; omega
        · split
          · have := ih l; simp only [List.length_cons]; omega
          · simp only [List.length_cons]; have := ih l; omega
    exact this s.rules s.form) hn)
  have hns := HNS.out
  have HR := hid (show (Builtin.append_ #[73, 73] 73 #[.slice vo s.rules.length vc, .slice (some ⟨W1.heap.size, 0, none⟩) 1 1]).run Tryz.prog (W1.alloc (.cells (ruleV r a c a2 c2).toArray 92)).drew = .ok (.slice (some ⟨g, 0, none⟩) (s.rules.length + 1) cc) B from hr)
  have HRb := hid (show (Builtin.append_ #[73, 73] 73 #[.slice vo s.rules.length vc, .slice (some ⟨W1.heap.size, 0, none⟩) 1 1]).run Tryz.prog (W1.drew.alloc (.cells (ruleV r a c a2 c2).toArray 92)) = .ok (.slice (some ⟨g, 0, none⟩) (s.rules.length + 1) cc) B from hr)
  have HW1 := hid hW1
  have hba : Below W1.heap.size W1.drew (W1.alloc (.cells (ruleV r a c a2 c2).toArray 92)).drew := (below_box W1.drew _)
  have zz5 : (W1.alloc (.cells (ruleV r a c a2 c2).toArray 92)).drew.cell? ⟨bb, 5, none⟩ = some (.slice vo s.rules.length vc) := (hba.cell (p := ⟨bb, 5, none⟩) (cell_lt z5)).trans z5
  have zz6 : (W1.drew.alloc (.cells (ruleV r a c a2 c2).toArray 92)).cell? ⟨bb, 5, none⟩ = some (.slice vo s.rules.length vc) := zz5
  clear hba
  simp only [ruleV] at HR HRb hW1 zz5 zz6 ⊢
  clear h hfin hq9 hB hBn hVb hVn hoV hsV hosV hnew hb1 hl hh hr HNS x5
  generalize s.rules.length = rl at *
  generalize Bas.nsteps s = ns at *
  generalize r.lits.length = l1 at *
  generalize r.hints.length = l2 at *
  by_cases hk2 : r.kind = 2
  · have hkb : (r.kind != 2) = false := by simpa using hk2
    have O := hid (OUT0.out hk2)
    generalize r.kind = kd at *
    clear hk2 OUT0 OUT1
    go_enter Tryz.func69, Tryz.ntmps69
    go_wp2_with fail
    go_region_law (first | refine step_append_run rfl (.tmp 8) (.tmp 10) 73 73 (by rfl) (by rfl) (by rfl) HR.out ?_ | refine step_append_run rfl (.tmp 8) (.tmp 10) 73 73 (by rfl) (by rfl) (by rfl) HRb.out ?_)
    all_goals
      go_wp2
      refine bodyPost_end (results_none rfl _ _ _) rfl ?_
      exact O.out
  · have hkb : (r.kind != 2) = true := by simpa using hk2
    have O := hid (OUT1.out hk2)
    generalize r.kind = kd at *
    clear hk2 OUT0 OUT1
    go_enter Tryz.func69, Tryz.ntmps69
    go_wp2_with fail
    go_region_law (first | refine step_append_run rfl (.tmp 8) (.tmp 10) 73 73 (by rfl) (by rfl) (by rfl) HR.out ?_ | refine step_append_run rfl (.tmp 8) (.tmp 10) 73 73 (by rfl) (by rfl) (by rfl) HRb.out ?_)
    all_goals
      go_wp2
      refine bodyPost_end (results_none rfl _ _ _) rfl ?_
      exact O.out _ (by first | rfl | omega)
end Go.Proofs.YthpebfojkpnojaaGreat

/- A literal taken as true by a check. -/
namespace Go.Proofs.YthpebfojkpnojaaGreat
open Go.RowKit Go.Maps
set_option linter.unusedVariables false
set_option linter.unusedSimpArgs false
set_option maxRecDepth 100000
theorem info45 : (Tryz.prog.info? 66).map (fun i => (i.zero, i.size, i.bytes)) = some (some (.int .i32 0), 1, 4) := by kernel_rfl
theorem push45 {W : World} {base : Nat} {v : Value} {k : Nat} {xs : List Int} (ho : W.ownsRow base 66 1 v k (xs.map (Value.int .i32))) (p : Int) (hb : base ≤ W.heap.size) (hk : k ≤ 1000000000) :
    ∃ g c B, (Builtin.append_ #[38, 38] 38 #[v, .slice (some ⟨W.heap.size, 0, none⟩) 1 1]).run Tryz.prog (W.alloc (.cells #[.int .i32 p] 66)) = .ok (.slice (some ⟨g, 0, none⟩) (k + 1) c) B ∧ B.ownsRow base 66 1 (.slice (some ⟨g, 0, none⟩) (k + 1) c) (k + 1) ((xs ++ [p]).map (Value.int .i32)) ∧
      (W.alloc (.cells #[.int .i32 p] 66)).grownBy B v.ownBlock ∧ (v.ownBlock = some g ∨ g = W.heap.size + 1) := by
  obtain ⟨i0, hi0, hz⟩ := Option.map_eq_some_iff.1 info45
  simp only [Prod.mk.injEq] at hz
  obtain ⟨g, c, B, hr, h2, h3, h5, _⟩ := run_append_lies (P := Tryz.prog) (W.alloc (.cells #[.int .i32 p] 66)) 38 38 base 66 i0 (.int .i32 0) 1 4 Tryz.underlying38 hi0 hz.1 hz.2.1 hz.2.2 rfl (by decide) v k _ (ho.alloc _) ⟨W.heap.size, 0, none⟩ 1 1 [.int .i32 p] rfl (World.news_of_block (heap_alloc_new W (.cells #[.int .i32 p] 66))) (by intro u hu; simp at hu; subst hu; rfl) (by decide) (by unfold maxLen; omega) (by omega) (by simp; omega) _ rfl
  exact ⟨g, c, B, hr, by rw [List.map_append]; exact h2, h3, by simpa using h5⟩
/-- A check under way: what it found true, and where it wrote it. -/
structure Chk (bb pb fb gt m cz : Nat) (ts T : List Int) (W0 W : World) : Prop where
  os : W.os = W0.os
  tape : W.tape = W0.tape
  output : W.output = W0.output
  size : W0.heap.size ≤ W.heap.size
  block : ∀ q, q < W0.heap.size → q ≠ gt → W.heap[q]? = W0.heap[q]?
  row : ∃ cur : Array Value, W.heap[gt]? = some (.cells cur 66 (0, 0)) ∧ cur.size = cz ∧ m ≤ cz ∧ ts.length = m ∧ cur.toList.take m = ts.map (Value.int .i32)
  pbx : W.heap[pb]? = some (.cells #[.pointer (some ⟨bb, 0, none⟩)] 28 (0, 0))
  fnd : ∃ sv, W.heap[fb]? = some (.cells #[sv] 38 (0, 0)) ∧ W.ownsRow W0.heap.size 66 1 sv T.length (T.map (Value.int .i32))
  at_ : W0.heap.size ≤ pb ∧ W0.heap.size ≤ fb ∧ gt < W0.heap.size
theorem Chk.trw {bb pb fb gt m cz : Nat} {ts T : List Int} {W0 W : World} (h : Chk bb pb fb gt m cz ts T W0 W) : TrW gt m cz ts W W := ⟨rfl, rfl, rfl, rfl, fun _ _ => rfl, h.row⟩
theorem Chk.x8 {bb pb fb gt m cz ct : Nat} {ts T : List Int} {W0 W : World} (h : Chk bb pb fb gt m cz ts T W0 W) (h8 : W0.cell? ⟨bb, 8, none⟩ = some (.slice (some ⟨gt, 0, none⟩) m ct)) (hne : bb ≠ gt) : W.cell? ⟨bb, 8, none⟩ = some (.slice (some ⟨gt, 0, none⟩) m ct) := (World.cell?_of_block (h.block bb (cell_lt h8) hne)).trans h8
theorem Chk.turn {bb pb fb gt m cz : Nat} {ts ts' T : List Int} {W0 W W' : World} (h : Chk bb pb fb gt m cz ts T W0 W) (ht : TrW gt m cz ts' W W') : Chk bb pb fb gt m cz ts' T W0 W' := by
  have h1 := h.at_
  obtain ⟨sv, f1, f2⟩ := h.fnd
  exact ⟨ht.os.trans h.os, ht.tape.trans h.tape, ht.output.trans h.output, by rw [ht.size]; exact h.size, fun q hq hne => (ht.block q hne).trans (h.block q hq hne), ht.row, (ht.block pb (by omega)).trans h.pbx, ⟨sv, (ht.block fb (by omega)).trans f1, own_keep f2 (fun g cs hg _ => ht.block g (by have := (own_blk f2 hg).1; omega))⟩, h1⟩
/-- One more found: the append's run, and what the store leaves. -/
theorem Chk.push {bb pb fb gt m cz : Nat} {ts T : List Int} {W0 W : World} (h : Chk bb pb fb gt m cz ts T W0 W) (hl : T.length ≤ 1000000000) (l : Int) : ∃ o c, W.cell? ⟨fb, 0, none⟩ = some (.slice o T.length c) ∧ ∃ g c' B, (Builtin.append_ #[38, 38] 38 #[.slice o T.length c, .slice (some ⟨W.heap.size, 0, none⟩) 1 1]).run Tryz.prog (W.alloc (.cells #[.int .i32 l] 66)) = .ok (.slice (some ⟨g, 0, none⟩) (T.length + 1) c') B ∧ B.cell? ⟨fb, 0, none⟩ = some (.slice o T.length c) ∧ B.frozen? ⟨fb, 0, none⟩ = false ∧ Chk bb pb fb gt m cz ts (T ++ [l]) W0 (B.setCell ⟨fb, 0, none⟩ (.slice (some ⟨g, 0, none⟩) (T.length + 1) c')) := by
  obtain ⟨sv, f1, f2⟩ := h.fnd
  obtain ⟨o, c, rfl⟩ := own_slc f2
  obtain ⟨g, c', B, hr, ho, hgr, hg⟩ := push45 f2 l h.size hl
  have h1 := h.at_
  have hal := below_box W (.cells #[.int .i32 l] 66)
  have hB : ∀ q, q < W.heap.size → (Value.slice o T.length c).ownBlock ≠ some q → B.heap[q]? = W.heap[q]? := fun q hq hne => (hgr.block q (Nat.lt_of_lt_of_le hq hal.size) (fun e => hne e.symm)).trans (hal.block q hq)
  have hof : ∀ (q : Nat) (cs : Array Value) (t : TypeId), t ≠ 66 → W.heap[q]? = some (.cells cs t (0, 0)) → (Value.slice o T.length c).ownBlock ≠ some q := fun q cs t ht hq e => by
    obtain ⟨_, cur, h9⟩ := own_blk f2 e
    rw [hq] at h9
    injection h9 with h9; injection h9 with _ h9 _; exact ht h9
  have hfB := (hB fb (lt_of_blk f1) (hof _ _ _ (by decide) f1)).trans f1
  have hs : W.heap.size ≤ B.heap.size := Nat.le_trans hal.size hgr.size
  refine ⟨o, c, row_cell f1 0, g, c', B, hr, row_cell hfB 0, row_frozen hfB 0, ?_⟩
  have hlow : ∀ q, q < W0.heap.size → (Value.slice o T.length c).ownBlock ≠ some q := fun q hq e => by
    have := (own_blk f2 e).1
    omega
  have hpf : pb ≠ fb := fun e => by
    have := h.pbx
    rw [e, f1] at this
    injection this with this; injection this with _ this _; cases this
  obtain ⟨cur, r1, r2⟩ := h.row
  have hsz : (B.setCell ⟨fb, 0, none⟩ (.slice (some ⟨g, 0, none⟩) (T.length + 1) c')).heap.size = B.heap.size := by simp [World.setCell]
  refine ⟨(hgr.os.trans hal.os).trans h.os, (hgr.tape.trans hal.tape).trans h.tape, (hgr.output.trans hal.output).trans h.output, ?_, fun q hq hne => ?_, ⟨cur, ?_, r2⟩, ?_, ⟨_, heap_set_row hfB _, ?_⟩, h1⟩
  · rw [hsz]; exact Nat.le_trans h.size hs
  · exact ((heap_other B _ (by omega)).trans (hB q (Nat.lt_of_lt_of_le hq h.size) (hlow q hq))).trans (h.block q hq hne)
  · exact ((heap_other B _ (by omega)).trans (hB gt (lt_of_blk r1) (hlow gt h1.2.2))).trans r1
  · exact ((heap_other B _ hpf).trans (hB pb (lt_of_blk h.pbx) (hof _ _ _ (by decide) h.pbx))).trans h.pbx
  · have e : (T ++ [l]).length = T.length + 1 := by simp
    rw [e]
    refine own_keep ho (fun q cs hq h9 => heap_other B _ (fun e => ?_))
    rw [e, hfB] at h9
    injection h9 with h9; injection h9 with _ h9 _; cases h9
set_option maxHeartbeats 4000000 in
theorem take50 {bb pb fb gt m cz ct : Nat} {ts T : List Int} {W0 W : World} (h : Chk bb pb fb gt m cz ts T W0 W) (h8 : W0.cell? ⟨bb, 8, none⟩ = some (.slice (some ⟨gt, 0, none⟩) m ct)) (hne : bb ≠ gt) (hmm : m ≤ 1048577) (hl : T.length ≤ 1000000000) (l : Int) (hi : I32 l) (h1 : 1 ≤ Bas.vr l) (h2 : Bas.vr l < m) :
    Calls Tryz.prog 98 #[.int .i32 l, .pointer (some ⟨pb, 0, none⟩), .pointer (some ⟨fb, 0, none⟩)] W fun e w' => e = .returned (.tuple #[]) ∧ Chk bb pb fb gt m cz (ts.set (Bas.vr l).toNat l) (T ++ [l]) W0 w' := by
  have x8 := h.x8 h8 hne
  have p0 : W.cell? ⟨pb, 0, none⟩ = some (.pointer (some ⟨bb, 0, none⟩)) := row_cell h.pbx 0
  have C49 := hid (fun X => var49 l X hi)
  obtain ⟨v, hv⟩ : ∃ v : Nat, Bas.vr l = v := ⟨(Bas.vr l).toNat, by omega⟩
  rw [hv] at C49 h1 h2 ⊢
  have hvm : v < m := by omega
  have hvm' : (v : Int) < m := by omega
  obtain ⟨c1, c2⟩ := h.trw.cell hvm
  have hC := h.turn (h.trw.set v l 1)
  obtain ⟨W2, hW2⟩ : ∃ W2, (W.setCell ⟨gt, v, none⟩ (.int .i32 l)).drew = W2 := ⟨_, rfl⟩
  have hC2 : Chk bb pb fb gt m cz (ts.set v l) T W0 W2 := by rw [← hW2]; exact hC
  obtain ⟨o, c, f0, g, c', B, hr, f3, f4, hC4⟩ := hC2.push hl l
  have HR := hid hr
  have HC4 := hid hC4
  rw [show (v : Int).toNat = v from rfl]
  clear h hC hC2 hC4 hr h8 hne hi
  generalize T.length = tl at *
  go_enter Tryz.func98, Tryz.ntmps98
  go_wp2_with fail
  refine wp_region_still_tail 8 (by kernel_rfl) (by kernel_rfl) ?_
  simp only [List.take_succ_cons, List.take_zero, List.drop_succ_cons, List.drop_zero]
  iterate 5 still_step
  still_call (C49.out _)
  iterate 2 still_step
  refine wpStill_nil ?_
  go_wp2_with (at_builtin; refine wpList_append_run rfl (.tmp 12) (.tmp 14) 38 38 rfl rfl rfl HR.out ?_)
  refine bodyPost_end (results_none rfl _ _ _) rfl ?_
  exact ⟨rfl, HC4.out⟩
end Go.Proofs.YthpebfojkpnojaaGreat

