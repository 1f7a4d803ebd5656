/- The stack: a witness more. -/
import Derived.Test.YthpebfojkpnojaaGreatJaf
import Derived.Test.YthpebfojkpnojaaGreatJaq
import Derived.Deep.DeepCutAuto
import Derived.Deep.RegionHeld3
/- The stack: a witness more. -/
namespace Go.Proofs.YthpebfojkpnojaaGreat
open Go.RowKit Go.Maps
set_option linter.unusedVariables false
set_option linter.unusedSimpArgs false
set_option maxRecDepth 100000
theorem info67 : (Tryz.prog.info? 95).map (fun i => (i.zero, i.size, i.bytes)) = some (some (.agg #[.slice none 0 0, .slice none 0 0]), 2, 48) := by kernel_rfl
set_option maxHeartbeats 2000000 in
theorem Bs.stacked {M : Nat → Prop} {bb K : Nat} {s : Bas.S} {W : World} (h : Bs M bb K s W) (ws cs : List Int) (a : Option Addr) (c : Nat) (a2 : Option Addr) (c2 : Nat) (hl : LI M W a ws) (hh : LI M W a2 cs) (hn : s.stack.length ≤ 1000000000) (W1 : World) (hb1 : Below W.heap.size W W1) :
    ∃ g cc B vo vc, W.cell? ⟨bb, 7, none⟩ = some (.slice vo s.stack.length vc) ∧
      (Builtin.append_ #[74, 74] 74 #[.slice vo s.stack.length vc, .slice (some ⟨W1.heap.size, 0, none⟩) 1 1]).run Tryz.prog (W1.alloc (.cells #[.slice a ws.length c, .slice a2 cs.length c2] 95)) = .ok (.slice (some ⟨g, 0, none⟩) (s.stack.length + 1) cc) B ∧
      B.cell? ⟨bb, 7, none⟩ = some (.slice vo s.stack.length vc) ∧ B.frozen? ⟨bb, 7, none⟩ = false ∧ bb < B.heap.size ∧ (∀ (q : Nat) (o : Obj), W.heap.size ≤ q → W1.heap[q]? = some o → B.heap[q]? = some o) ∧
      Bs (fun q => M q ∨ q = g) bb K { s with stack := s.stack ++ [(ws, cs)] } (B.setCell ⟨bb, 7, none⟩ (.slice (some ⟨g, 0, none⟩) (s.stack.length + 1) cc)) ∧ Fm M W (B.setCell ⟨bb, 7, none⟩ (.slice (some ⟨g, 0, none⟩) (s.stack.length + 1) cc)) ∧ Mn W M (fun q => M q ∨ q = g) := by
  obtain ⟨hv, bm, br, k, k2, f, gg, rv, sv, tv, R, Z, rw', ids, iv, hb, m1, m2, m3, hne, ⟨a1, a2', a3⟩, ⟨b1, b2, b3, b4, b5⟩, ⟨c1, c2', c3⟩, ⟨d1, d2, d3⟩, e1⟩ := h
  have hZl : Z.length = s.stack.length := by rw [← d2]; simp
  obtain ⟨vo, vc, rfl⟩ := own_slc d1.1
  obtain ⟨i0, hi0, hz⟩ := Option.map_eq_some_iff.1 info67
  simp only [Prod.mk.injEq] at hz
  have hal := below_box W1 (.cells #[.slice a ws.length c, .slice a2 cs.length c2] 95)
  have hbW : Below W.heap.size W (W1.alloc (.cells #[.slice a ws.length c, .slice a2 cs.length c2] 95)) := hb1.trans (hal.mono hb1.size)
  obtain ⟨g, cc, B, hr, h2, h3, h5, _⟩ := run_append_lies (P := Tryz.prog) (W1.alloc (.cells #[.slice a ws.length c, .slice a2 cs.length c2] 95)) 74 74 0 95 i0 _ 2 48 Tryz.underlying74 hi0 hz.1 hz.2.1 hz.2.2 rfl (by decide) (.slice vo Z.length vc) Z.length _ (own_below d1.1 hbW) ⟨W1.heap.size, 0, none⟩ 1 1 [.slice a ws.length c, .slice a2 cs.length c2] rfl (World.news_of_block (heap_alloc_new W1 (.cells #[.slice a ws.length c, .slice a2 cs.length c2] 95))) (by intro u hu; simp at hu; rcases hu with rfl | rfl <;> rfl) (by decide) (by unfold maxLen; omega) (by omega) (Nat.zero_le _) _ rfl
  rw [hZl] at hr
  have hlt := lt_of_blk hb
  have hne5 : (Value.slice vo Z.length vc).ownBlock ≠ some bb := fun e => by
    obtain ⟨_, cur, hq⟩ := own_blk d1.1 e
    rw [hb] at hq
    injection hq with hq; injection hq with _ hq _; cases hq
  have hBo : ∀ q, q < W.heap.size → (Value.slice vo Z.length vc).ownBlock ≠ some q → B.heap[q]? = W.heap[q]? := fun q hq hn => (h3.block q (Nat.lt_of_lt_of_le hq hbW.size) (fun e => hn e.symm)).trans (hbW.block q hq)
  have hBb := (hBo bb hlt hne5).trans hb
  rw [hZl] at hBb hb
  have hg : M g ∨ W.heap.size ≤ g := by
    rcases h5 with h5 | h5
    · exact .inl (d1.2 g h5)
    · right; rw [h5]; exact hbW.size
  obtain ⟨V, hV⟩ : ∃ V, B.setCell ⟨bb, 7, none⟩ (.slice (some ⟨g, 0, none⟩) (s.stack.length + 1) cc) = V := ⟨_, rfl⟩
  have hVb := heap_set_row hBb (k := 7) (.slice (some ⟨g, 0, none⟩) (s.stack.length + 1) cc)
  rw [hV] at hVb
  have hoV : ∀ q, q ≠ bb → V.heap[q]? = B.heap[q]? := fun q hq => by rw [← hV]; exact heap_other B _ hq
  have hsV : V.heap.size = B.heap.size := by rw [← hV]; simp [World.setCell]
  have hosV : V.os = B.os ∧ V.tape = B.tape ∧ V.output = B.output := by rw [← hV]; exact ⟨rfl, rfl, rfl⟩
  have hMn : Mn W M (fun q => M q ∨ q = g) := fun q hq => by
    rcases hq with hq | rfl
    · exact .inl hq
    · exact hg
  have hsz : W.heap.size ≤ V.heap.size := by rw [hsV]; exact Nat.le_trans hbW.size h3.size
  have hFm : Fm M W V := ⟨hosV.1.trans (h3.os.trans hbW.os), hosV.2.1.trans (h3.tape.trans hbW.tape), hosV.2.2.trans (h3.output.trans hbW.output), hsz, fun q hq hnm => (hoV q (fun e => hnm (e ▸ m1))).trans (hBo q hq (fun e => hnm (d1.2 q e)))⟩
  refine ⟨g, cc, B, vo, vc, row_cell hb 7, hr, row_cell hBb 7, row_frozen hBb 7, lt_of_blk hBb, (fun q o hq ho => (h3.block q (Nat.lt_of_lt_of_le (lt_of_blk ho) hal.size) (fun e => by have := own_blk d1.1 e.symm; obtain ⟨_, cur, h9⟩ := this; have := lt_of_blk h9; omega)).trans ((hal.block q (lt_of_blk ho)).trans ho)), ?_⟩
  rw [hV]
  have hcell : ∀ (q : Nat) (cs : Array Value) (t : TypeId), W.heap[q]? = some (.cells cs t (0, 0)) → t ≠ 76 → t ≠ 95 → V.heap[q]? = W.heap[q]? := fun q cs t hq n1 n2 => by
    refine (hoV q (fun e => ?_)).trans (hBo q (lt_of_blk hq) (fun e => ?_))
    · rw [e, hb] at hq
      injection hq with hq; injection hq with _ hq _; exact n1 hq.symm
    · obtain ⟨_, cur, hq2⟩ := own_blk d1.1 e
      rw [hq2] at hq
      injection hq with hq; injection hq with _ hq _; exact n2 hq.symm
  have hmap : ∀ (q : Nat) es cl, W.heap[q]? = some (.map es cl) → V.heap[q]? = W.heap[q]? := fun q es cl hq => by
    refine (hoV q (fun e => ?_)).trans (hBo q (lt_of_blk hq) (fun e => ?_))
    · rw [e, hb] at hq; cases hq
    · obtain ⟨_, cur, hq2⟩ := own_blk d1.1 e
      rw [hq2] at hq; cases hq
  have hM' : ∀ q, M q → (fun q => M q ∨ q = g) q := fun q hq => .inl hq
  have ok : ∀ {e size : Nat} {v : Value} {n : Nat} {xs : List Value}, e ≠ 76 → e ≠ 95 → OwnM M W e size v n xs → OwnM (fun q => M q ∨ q = g) V e size v n xs := fun n1 n2 ho => OwnM.mono (M := M) ⟨own_keep ho.1 (fun q cs _ hq => hcell q cs _ hq n1 n2), ho.2⟩ hM'
  obtain ⟨es1, cl1, hm1⟩ := a1.obj
  obtain ⟨es2, cl2, hm2⟩ := b1.obj
  have hZn : (Z ++ [(((ws, cs), (a, c), (a2, c2)) : WtM)]).length = s.stack.length + 1 := by simp [hZl]
  refine ⟨⟨hv, bm, br, k, k2, f, gg, rv, .slice (some ⟨g, 0, none⟩) (s.stack.length + 1) cc, tv, R, Z ++ [(((ws, cs), (a, c), (a2, c2)) : WtM)], rw', ids, iv, ?_, hM' _ m1, hM' _ m2, hM' _ m3, hne, ⟨a1.same (hmap _ _ _ hm1), a2', fun id hi => ?_⟩, ⟨b1.same (hmap _ _ _ hm2), b2, fun l v hlv => ?_, b4, b5⟩, ⟨ok (by decide) (by decide) c1, c2', fun q hq => ⟨(c3 q hq).1.fm hFm hMn, (c3 q hq).2.fm hFm hMn⟩⟩, ⟨?_, by rw [List.map_append, d2]; rfl, fun q hq => ?_⟩, ok (by decide) (by decide) e1⟩, hFm, hMn⟩
  · rw [hVb]; rfl
  · have h0 := a3 id hi
    cases hq : Bas.look s.live id with
    | none => rw [hq] at h0; exact h0
    | some e =>
      rw [hq] at h0
      obtain ⟨a9, c9, k1, k2, k3⟩ := h0
      exact ⟨a9, c9, k1, k2.fm hFm hMn, k3⟩
  · obtain ⟨p1, p2, ⟨go, la, p3, p4⟩, p5, p6, p7⟩ := b3 l v hlv
    exact ⟨p1, hM' _ p2, ⟨go, la, (hcell _ _ _ p3 (by decide) (by decide)).trans p3, p4⟩, ok (by decide) (by decide) p5, p6, p7⟩
  · rw [hZn]
    refine ⟨?_, fun q hq => ?_⟩
    · have h2' := h2
      rw [hZl] at h2'
      rw [List.flatMap_append, show ([(((ws, cs), (a, c), (a2, c2)) : WtM)].flatMap wtv) = [.slice a ws.length c, .slice a2 cs.length c2] by simp [wtv]]
      exact own_keep h2' (fun q cs e hq => hoV q (fun e3 => by
        rw [e3, hBb] at hq
        injection hq with hq; injection hq with _ hq _; cases hq))
    · right
      simpa [Value.ownBlock] using hq.symm
  · rcases List.mem_append.1 hq with hq | hq
    · exact ⟨(d3 q hq).1.fm hFm hMn, (d3 q hq).2.fm hFm hMn⟩
    · obtain rfl := List.mem_singleton.1 hq
      exact ⟨hl.fm hFm hMn, hh.fm hFm hMn⟩
end Go.Proofs.YthpebfojkpnojaaGreat

/- New. -/
namespace Go.Proofs.YthpebfojkpnojaaGreat
open Go.RowKit Go.Maps
set_option linter.unusedVariables false
set_option linter.unusedSimpArgs false
set_option maxRecDepth 100000
theorem alloc_size (w : World) (o : Obj) : (w.alloc o).heap.size = w.heap.size + 1 := by simp
theorem drew_heap (w : World) : w.drew.heap = w.heap := rfl
theorem Bs.atb {M : Nat → Prop} {bb K : Nat} {s : Bas.S} {W : World} (h : Bs M bb K s W) : M bb ∧ bb < W.heap.size := by
  obtain ⟨bm, br, k, k2, f, g, rv, sv, tv, R, Z, rw, ids, iv, hb, hm, _⟩ := h.mem
  exact ⟨hm, lt_of_blk hb⟩
theorem part_step (vars : Int) (cs : List (List Int)) (k : Nat) (h : k < cs.length) : Bas.entered (Bas.part vars cs k) (cs.getD k []) false = Bas.part vars cs (k + 1) := by
  unfold Bas.entered Bas.part
  simp only [Cq.take_cls cs k h, Bas.start_snoc, List.length_take, Nat.min_eq_left (Nat.le_of_lt h)]
  congr 1
  congr 2
  congr 1
  omega
theorem part_all (vars : Int) (cs : List (List Int)) : Bas.part vars cs cs.length = Bas.new vars cs := by
  unfold Bas.part Bas.new; rw [List.take_length]
theorem part_ids (vars : Int) (cs : List (List Int)) (k : Nat) : ∀ e ∈ (Bas.part vars cs k).live, e.id ≤ (Bas.part vars cs k).last := by
  intro e he
  have h := (Bas.start_ids _ _ e he).2
  have h2 := List.length_take_le k cs
  show e.id ≤ (k : Int)
  omega
theorem bla {A W : World} (h : Below A.heap.size A W) (o : Obj) : Below A.heap.size A (W.alloc o) := h.alloc h.size o
/-- The base's blocks, just made. -/
structure Mad (A : World) (v n : Nat) (bb : Nat) (W : World) : Prop where
  bel : Below A.heap.size A W
  blk : ∃ bm br gt, A.heap.size ≤ bb ∧ A.heap.size ≤ bm ∧ A.heap.size ≤ br ∧ A.heap.size ≤ gt ∧ bm ≠ br ∧ W.heap[bm]? = some (.map #[] 0) ∧ W.heap[br]? = some (.map #[] 0) ∧ W.heap[gt]? = some (.cells (madeCells #[.int .i32 0] (v + 1)) 66 (0, 0)) ∧
    W.heap[bb]? = some (.cells #[.int .i64 (v : Nat), .int .i64 (n : Nat), .int .i64 0, .map (some bm), .map (some br), .slice none 0 0, .int .i64 0, .slice none 0 0, .slice (some ⟨gt, 0, none⟩) (v + 1) (v + 1)] 76 (0, 0))
theorem Mad.of {A X W : World} {v n bb bm br gt : Nat} (hW : W = (X.alloc (.cells #[.int .i64 (v : Nat), .int .i64 (n : Nat), .int .i64 0, .map (some bm), .map (some br), .slice none 0 0, .int .i64 0, .slice none 0 0, .slice (some ⟨gt, 0, none⟩) (v + 1) (v + 1)] 76)).drew) (hb : bb = X.heap.size) (bel : Below A.heap.size A X)
    (h1 : A.heap.size ≤ bm) (h2 : A.heap.size ≤ br) (h3 : A.heap.size ≤ gt) (h4 : bm ≠ br) (h5 : X.heap[bm]? = some (.map #[] 0)) (h6 : X.heap[br]? = some (.map #[] 0)) (h7 : X.heap[gt]? = some (.cells (madeCells #[.int .i32 0] (v + 1)) 66 (0, 0))) (h8 : True) : Mad A v n bb W := by
  subst hW hb
  have f := fun {k : Nat} {o : Obj} (h : X.heap[k]? = some o) (oo : Obj) => ((below_box X oo).block k (lt_of_blk h)).trans h
  exact ⟨(bla bel _).drew, bm, br, gt, bel.size, h1, h2, h3, h4, f h5 _, f h6 _, f h7 _, heap_alloc_new _ _⟩
def NewOut (vars : Int) (cs : List (List Int)) (W : World) (en : Ending) (w' : World) : Prop :=
  ∃ bb M K, en = .returned (.tuple #[.pointer (some ⟨bb, 0, none⟩), .int .i64 0]) ∧ Bs M bb K (Bas.new vars cs) w' ∧ K ≤ 20000000 ∧ (∀ g, M g → W.heap.size ≤ g) ∧ Below W.heap.size W w'
set_option maxHeartbeats 2000000 in
theorem new23_err (vars : Int) (a : Option Addr) (n cap : Nat) (cs : List (List Int)) (w : World) (hn : cs.length = n) (hc : Cls w a cs) (hr : ¬ Cq.right vars cs = 0) :
    Calls Tryz.prog 8 #[.agg #[.int .i64 vars, .slice a n cap]] w fun e w' => e = .returned (.tuple #[.pointer none, .int .i64 (Cq.right vars cs)]) ∧ Below w.heap.size w w' := by
  have hB := below_box w (.cells #[.int .i64 vars, .slice a n cap] 24)
  have hx := heap_alloc_new w (.cells #[.int .i64 vars, .slice a n cap] 24)
  generalize hW1 : w.alloc (.cells #[.int .i64 vars, .slice a n cap] 24) = W1 at hB hx
  have C47 := hid (right47 vars a n cap cs W1 hn (hc.below hB))
  have x0 : W1.cell? ⟨w.heap.size, 0, none⟩ = some (.int .i64 vars) := row_cell hx 0
  have x1 : W1.cell? ⟨w.heap.size, 1, none⟩ = some (.slice a n cap) := row_cell hx 1
  have HB := hid hB
  generalize Cq.right vars cs = q at C47 hr ⊢
  have hq : (q == 0) = false := by simpa using hr
  have hq2 : (q != 0) = true := by simpa using hr
  clear hx hB hc hn hr
  go_enter Tryz.func8, Tryz.ntmps8
  go_wp2_with (go_at_call 33; refine C47.out.mono ?_; clear C47; rintro e W2 ⟨rfl, hB2⟩; have HB2 := hid hB2; clear hB2)
  go_ret2
  exact ⟨rfl, HB.out.trans (HB2.out.mono HB.out.size)⟩
set_option maxHeartbeats 8000000 in
theorem new23 (vars : Int) (a : Option Addr) (n cap : Nat) (cs : List (List Int)) (w : World) (hn : cs.length = n) (hc : Cls w a cs) (hr : Cq.right vars cs = 0) :
    Calls Tryz.prog 8 #[.agg #[.int .i64 vars, .slice a n cap]] w fun e w' => NewOut vars cs w e w' := by
  obtain ⟨z1, z2, z3, z4, z5⟩ := right_zero hr
  have hB := below_box w (.cells #[.int .i64 vars, .slice a n cap] 24)
  have hx := heap_alloc_new w (.cells #[.int .i64 vars, .slice a n cap] 24)
  generalize hW1 : w.alloc (.cells #[.int .i64 vars, .slice a n cap] 24) = W1 at hB hx
  have C47 := hid (right47 vars a n cap cs W1 hn (hc.below hB))
  rw [hr] at C47
  have x0 : W1.cell? ⟨w.heap.size, 0, none⟩ = some (.int .i64 vars) := row_cell hx 0
  have x1 : W1.cell? ⟨w.heap.size, 1, none⟩ = some (.slice a n cap) := row_cell hx 1
  have HX := hid hx
  have HB := hid hB
  have HC := hid (hc.below hB)
  have HN := hid hn
  obtain ⟨v, rfl⟩ : ∃ v : Nat, vars = v := ⟨vars.toNat, by omega⟩
  have hwv : wrap64 ((v : Int) + 1) = ((v + 1 : Nat) : Int) := by unfold wrap64; omega
  obtain ⟨i0, hi, hz⟩ := Option.map_eq_some_iff.1 info45
  simp only [Prod.mk.injEq] at hz
  have hmk := fun W => run_makeSlice (P := Tryz.prog) W 37 66 i0 (.int .i32 0) Tryz.underlying37 hi hz.1 .i64 .i64 ((v + 1 : Nat) : Int) ((v + 1 : Nat) : Int) (by omega) (Int.le_refl _) (by rw [hz.2.1]; omega) (by rw [hz.2.2]; omega) (by omega)
  simp only [hz.2.1, Nat.mul_one, Int.toNat_natCast] at hmk
  have hmm := @run_makeMap Tryz.prog
  have Hz := hid (And.intro z3 (And.intro z4 z5))
  have hmk2 : ∀ W, (Instr.makeMap 71 (some (.int .i64 n))).run Tryz.prog W = .ok (.map (some W.heap.size)) (W.alloc (.map #[] 0)) := fun W => by simp [Instr.makeMap, run_underlying Tryz.underlying71, asInt, asIntOf, Result.andThen]
  have hc1 : ((v + 1 : Nat) : Int) = (v : Int) + 1 := rfl
  rw [hc1] at hmk hwv
  have hwv' : IntKind.i64.wrap ((v : Int) + 1) = (v : Int) + 1 := by rw [IntKind.wrap_i64]; omega
  have HCW := hid hc
  have hnb : n ≤ 1048576 := by omega
  clear hx hB hc hn hr hi hz z3 z4 z5
  go_enter Tryz.func8, Tryz.ntmps8
  go_upto_region 4 with (go_at_call 33; refine C47.out.mono ?_; clear C47; rintro e W2 ⟨rfl, hB2⟩; have HB2 := hid hB2; clear hB2)
  have HS := hid (fun X (hX : Below W2.heap.size W2 X) => show X.cell? ⟨w.heap.size, 0, none⟩ = some (.int .i64 (v : Nat)) ∧ X.cell? ⟨w.heap.size, 1, none⟩ = some (.slice a n cap) from by
    have hh := (hX.block w.heap.size (Nat.lt_of_lt_of_le (lt_of_blk HX.out) HB2.out.size)).trans ((HB2.out.block w.heap.size (lt_of_blk HX.out)).trans HX.out)
    exact ⟨row_cell hh 0, row_cell hh 1⟩)
  go_cut [5] from 13 to 28 (fun bv wx => ∃ bb, bv = .pointer (some ⟨bb, 0, none⟩) ∧ Hid (Mad W2 v n bb wx))
  case first =>
    have y0 := (HS.out W2 (Below.refl _ _)).1
    have y1 := (HS.out W2 (Below.refl _ _)).2
    go_wp2_with fail
    go_region_held3 (fun X => X.cell? ⟨w.heap.size, 0, none⟩ = some (.int .i64 (v : Nat)) ∧ X.cell? ⟨w.heap.size, 1, none⟩ = some (.slice a n cap))
      (exact HS.out _ (by repeat (first | exact Below.refl _ _ | refine Below.drew ?_ | refine bla ?_ _)))
      (fail)
    all_goals go_wp2_with fail
    all_goals go_meet
    all_goals case rel =>
      refine ⟨_, rfl, hid (Mad.of rfl (by simp) (by repeat (first | exact Below.refl _ _ | refine Below.drew ?_ | refine bla ?_ _)) ?_ ?_ ?_ ?_ ?_ ?_ ?_ ?_)⟩
      all_goals (try simp only [alloc_get, alloc_size, drew_heap])
      all_goals (first | exact trivial | omega | (repeat (first | rw [if_pos trivial] | rw [if_pos (by omega)] | rw [if_neg (by omega)])))
  case rest =>
    obtain ⟨bb, rfl, HM⟩ := hcut
    obtain ⟨hbel, bm, br, gt, q1, q2, q3, q4, qne, b1, b2, b3, b4⟩ := HM.out
    have y0 := (HS.out wc hbel).1
    have y1 := (HS.out wc hbel).2
    obtain ⟨M0, hM0⟩ : ∃ M0 : Nat → Prop, M0 = fun g => g = bb ∨ g = bm ∨ g = br ∨ g = gt := ⟨_, rfl⟩
    have HB0 := hid (show Bs M0 bb 0 (Bas.part (v : Nat) cs 0) wc from Bs.new ⟨z1, z2⟩ (by rw [HN.out]; exact b4) b1 b2 b3 qne (by simp [hM0]) (by simp [hM0]) (by simp [hM0]) (by simp [hM0]))
    have HM0 := hid (show ∀ g, M0 g → W2.heap.size ≤ g by intro g hg; simp only [hM0] at hg; rcases hg with rfl | rfl | rfl | rfl <;> assumption)
    have hsz : w.heap.size ≤ W2.heap.size := Nat.le_trans HB.out.size HB2.out.size
    have HW0 := hid (show Below w.heap.size w wc from HB.out.trans ((HB2.out.mono HB.out.size).trans (hbel.mono hsz)))
    clear hbel b1 b2 b3 b4 q1 q2 q3 q4 qne hM0 HM HS hmk hmk2 hmm hW1 hwv x0 x1
    go_wp2_with fail
    go_loopw [32] (fun i wr => ∃ (k : Nat) (M : Nat → Prop), i = .int .i64 k ∧ k ≤ n ∧ Hid (Bs M bb (k + (cs.take k).flatten.length) (Bas.part (v : Nat) cs k) wr) ∧ Hid (∀ g, M g → W2.heap.size ≤ g) ∧ Hid (Below w.heap.size w wr)) (fun i _ => n - (intOf i).toNat)
    case atStart => exact ⟨0, M0, rfl, Nat.zero_le _, HB0, HM0, HW0⟩
    case round =>
      clear HB0 HM0 HW0
      obtain ⟨k, M, rfl, hk, HBk, HMk, HWk⟩ := hrel
      by_cases hlt : k < n
      · have hlt' : (k : Int) < n := by omega
        have hkl : k < cs.length := by rw [HN.out]; exact hlt
        obtain ⟨b, off, a', cap', rfl, hbl, hcell, hL, _⟩ := HCW.out.at hkl
        have hcw : wr.cell? ⟨b, off + k, none⟩ = some (.slice a' (cs.getD k []).length cap') := (HWk.out.cell (p := ⟨b, off + k, none⟩) hbl).trans hcell
        have hflen := Cq.flat_len cs k hkl
        have hfle : ((cs.take (k + 1)).flatten).length ≤ cs.flatten.length := by
          conv => rhs; rw [← List.take_append_drop (k + 1) cs, List.flatten_append, List.length_append]
          omega
        have HLW := hid (hL.below HWk.out)
        have hmm : (cs.getD k []).length ≤ 16777216 := by have := Hz.out.2.1; omega
        have HK := hid (show k + (cs.take k).flatten.length + 1 + (cs.getD k []).length = (k + 1) + (cs.take (k + 1)).flatten.length ∧ k + (cs.take k).flatten.length + 1 + (cs.getD k []).length < maxLen from by
          refine ⟨by omega, ?_⟩
          have := Hz.out.2.1
          unfold maxLen
          omega)
        have HPS := hid (part_step (v : Nat) cs k hkl)
        generalize cs.getD k [] = ys at hcw HLW hmm HK HPS
        obtain ⟨m, hm⟩ : ∃ m, ys.length = m := ⟨_, rfl⟩
        rw [hm] at hcw hmm HK
        have HY := hid hm
        obtain ⟨M1, hM1⟩ : ∃ M1 : Nat → Prop, M1 = fun g => M g ∧ g < wr.heap.size := ⟨_, rfl⟩
        have HM1a := hid (show ∀ g, M1 g → M g ∧ g < wr.heap.size from fun g hg => by rw [hM1] at hg; exact hg)
        have HB1 := hid (show Bs M1 bb (k + (cs.take k).flatten.length) (Bas.part (v : Nat) cs k) wr by rw [hM1]; exact HBk.out.cap)
        clear hflen hfle hL hcell hbl hkl hm hM1
        go_wp2_with fail
        refine (clone31 a' m cap' ys wr HY.out hmm HLW.out).mono ?_
        rintro e w2 ⟨o, kc, rfl, ho, hb2⟩
        obtain ⟨hlo, hk1, hk2⟩ := own_RI (M1 := M1) ho HY.out HLW.out.1 (fun g hg => (HM1a.out g hg).2)
        have HC32 := hid (enter32 (HB1.out.below hb2) (by show (0 : Int) ≤ (k : Nat); omega) (by show ((k : Nat) : Int) < 100000000; omega) (part_ids _ _ _) false o m kc ys HY.out (by omega) HK.out.2 hlo ⟨by rw [HY.out]; exact hk1, hk2⟩)
        have HB2' := hid hb2
        rw [HPS.out, HK.out.1] at HC32
        clear ho hb2 hlo hk1 hk2
        go_wp2_with fail
        refine HC32.out.mono ?_
        rintro e w3 ⟨rfl, M2, hB3, hF3, hN3⟩
        have HB3 := hid hB3
        have HM3 := hid (show (∀ g, M2 g → W2.heap.size ≤ g) ∧ Below w.heap.size w w3 from by
          have hws : W2.heap.size ≤ wr.heap.size := Nat.le_trans (HMk.out bb HBk.out.atb.1) (Nat.le_of_lt HBk.out.atb.2)
          have h1 : ∀ g, M1 g → W2.heap.size ≤ g := fun g hg => HMk.out g (HM1a.out g hg).1
          refine ⟨fun g hg => ?_, ?_⟩
          · rcases hN3 g hg with h | h
            · exact h1 g h
            · exact Nat.le_trans hws (Nat.le_trans HB2'.out.size h)
          · have f := hF3.below (n := w.heap.size) (Nat.le_trans hsz (Nat.le_trans hws HB2'.out.size)) (fun g hg => Nat.le_trans hsz (h1 g hg))
            exact (HWk.out.trans (HB2'.out.mono (Nat.le_trans hsz hws))).trans f)
        clear hB3 hF3 hN3 HC32
        go_wp2_with fail
        go_roundw
        case rel => exact ⟨k + 1, M2, by go_num, by omega, HB3, hid HM3.out.1, hid HM3.out.2⟩
        case measure => simp [intOf]; omega
      · have hge : ¬ (k : Int) < n := by omega
        obtain rfl : k = n := by omega
        have HE : Hid (NewOut (v : Nat) cs w (.returned (.tuple #[.pointer (some ⟨bb, 0, none⟩), .int .i64 0])) wr) := by
          refine ⟨bb, M, k + (cs.take k).flatten.length, rfl, ?_, ?_, fun g hg => Nat.le_trans hsz (HMk.out g hg), HWk.out⟩
          · have h := HBk.out
            rw [← HN.out, part_all] at h
            rw [← HN.out]
            exact h
          · have h := Hz.out.2.1
            have h2 : (cs.take k).flatten.length ≤ cs.flatten.length := by
              rw [List.take_of_length_le (by rw [HN.out]; omega)]
              omega
            omega
        clear HBk
        go_wp2_with fail
        go_ret2
        exact HE.out
end Go.Proofs.YthpebfojkpnojaaGreat

/- The stack: a copy of its row, what it tells. -/
namespace Go.Proofs.YthpebfojkpnojaaGreat
open Go.RowKit Go.Maps
set_option linter.unusedVariables false
set_option linter.unusedSimpArgs false
set_option maxRecDepth 100000
def Cl42 (w : World) (xs : List Value) (n : Nat) (e : Ending) (w' : World) : Prop := ∃ o k, e = .returned (.slice o n k) ∧ w'.ownsRow w.heap.size 95 2 (.slice o n k) n xs ∧ Below w.heap.size w w'
set_option maxHeartbeats 2000000 in
theorem clone42 {base : Nat} (a : Option Addr) (n c : Nat) (xs : List Value) (w : World) (hb : n ≤ 16777216) (h1 : ∀ u ∈ xs, u.oneCell' = true) (hx : w.ownsRow base 95 2 (.slice a n c) n xs) :
    Calls Tryz.prog 42 #[.slice a n c] w fun e w' => Cl42 w xs n e w' := by
  rcases hx.2 with ⟨e0, h0⟩ | ⟨g, c', cur, e0, hbg, hg, hn, hm, hsz, htk⟩
  · cases e0
    have hx0 : xs = [] := by
      have := hx.1
      exact List.eq_nil_of_length_eq_zero (by omega)
    subst hx0
    have HF : Hid (Cl42 w [] 0 (.returned (.slice none 0 0)) w) := ⟨none, 0, rfl, World.ownsRow_nil _ _ _ _, Below.refl _ _⟩
    clear hx h1
    have hnil : ∀ W, (binOp .eql 74 (.slice none 0 0) (.slice none 0 0)).run Tryz.prog W = .ok (.bool true) W := fun W => by kernel_rfl
    go_enter Tryz.func42, Tryz.ntmps42
    go_wp2
    go_ret
    exact HF.out
  · cases e0
    obtain ⟨i0, hi, hz⟩ := Option.map_eq_some_iff.1 info67
    simp only [Prod.mk.injEq] at hz
    have hB1 := below_box w (.cells #[] 95)
    have hx1 : (w.alloc (.cells #[] 95)).heap[w.heap.size]? = some (.cells #[] 95 (0, 0)) := heap_alloc_new _ _
    have hg1 := (hB1.block g (lt_of_blk hg)).trans hg
    have hs1 : w.heap.size ≤ (w.alloc (.cells #[] 95)).heap.size := by simp
    generalize hW1 : w.alloc (.cells #[] 95) = W1 at hB1 hx1 hg1 hs1
    have ho1 : W1.ownsRow w.heap.size 95 2 (.slice (some ⟨w.heap.size, 0, none⟩) 0 0) 0 [] := ⟨rfl, .inr ⟨w.heap.size, 0, #[], rfl, Nat.le_refl _, hx1, Nat.le_refl _, Nat.zero_le _, rfl, rfl⟩⟩
    obtain ⟨v2, B, hr, ho2, hgb, _, _⟩ := run_append_own_at (P := Tryz.prog) W1 w.heap.size 74 74 95 i0 _ 2 48 Tryz.underlying74 hi hz.1 hz.2.1 hz.2.2 rfl (by decide) (.slice (some ⟨w.heap.size, 0, none⟩) 0 0) 0 [] ho1 ⟨g, 0, none⟩ n c xs hx.1 (fun j u hu => by
      have hj : j < n * 2 := by
        rcases Nat.lt_or_ge j (n * 2) with h' | h'
        · exact h'
        · rw [List.getElem?_eq_none (by rw [hx.1]; exact h')] at hu; cases hu
      rw [← htk, List.getElem?_take_of_lt hj, Array.getElem?_toList] at hu
      rw [show (⟨g, 0, none⟩ : Addr).add j = ⟨g, j, none⟩ from by simp [Addr.add]; exact fun h => h.symm, row_cell hg1, hu]) h1 (by simp [maxLen]; omega) (by omega) (by omega)
    obtain ⟨o, k, rfl⟩ := own_slc ho2
    rw [Nat.zero_add] at hr ho2
    rw [List.nil_append] at ho2
    have HR := hid hr
    have HF : Hid (Cl42 w xs n (.returned (.slice o n k)) B) := ⟨o, k, rfl, ho2, by
      refine hB1.trans ?_
      exact ⟨hgb.os, hgb.tape, hgb.output, hgb.size, fun q hq => hgb.block q (by omega) (by show some q ≠ some w.heap.size; intro e; injection e with e; omega)⟩⟩
    clear hi hz hB1 hx1 hs1 ho1 hr ho2 hgb hx h1 hg hg1 htk hsz hm hn hbg
    have hnil : ∀ W, (binOp .eql 74 (.slice (some ⟨g, 0, none⟩) n c) (.slice none 0 0)).run Tryz.prog W = .ok (.bool false) W := fun W => by kernel_rfl
    go_enter Tryz.func42, Tryz.ntmps42
    go_wp2_with (at_builtin; refine wpList_append_run rfl (.tmp 5) (.tmp 6) 74 74 rfl rfl rfl HR.out ?_)
    go_ret
    exact HF.out
end Go.Proofs.YthpebfojkpnojaaGreat

